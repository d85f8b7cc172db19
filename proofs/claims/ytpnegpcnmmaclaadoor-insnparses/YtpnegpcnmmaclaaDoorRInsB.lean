/-
  The document's own answers on texts: Words.
-/
import Derived.Test.YtpnegpcnmmaclaaDoorRInsA
import Derived.Lib.SlFresh
namespace Go.Proofs.YtpnegpcnmmaclaaDoor
open Go.ChangeShapes Go.WideShapes Go.ChangeAt Go.RowKit

/-- Words so far, and the one at hand. -/
def wstep (p : List (List UInt8) × List UInt8) (c : UInt8) : List (List UInt8) × List UInt8 := if c = 32 then (p.1 ++ [p.2], []) else (p.1, p.2 ++ [c])
def wfold (l : List UInt8) : List (List UInt8) × List UInt8 := l.foldl wstep ([], [])
def wordsP (l : List UInt8) : List (List UInt8) := (wfold l).1 ++ [(wfold l).2]
theorem wfold_snoc (l : List UInt8) (c : UInt8) : wfold (l ++ [c]) = wstep (wfold l) c := by simp [wfold]
theorem wfold_len (l : List UInt8) : (wfold l).1.length ≤ l.length ∧ (wfold l).2.length ≤ l.length := by
  suffices h : ∀ (l : List UInt8) (p : List (List UInt8) × List UInt8), (l.foldl wstep p).1.length ≤ p.1.length + l.length ∧ (l.foldl wstep p).2.length ≤ p.2.length + l.length by
    have := h l ([], []); unfold wfold; simpa using this
  intro l
  induction l with
  | nil => intro p; simp
  | cons c l ih =>
    intro p
    have := ih (wstep p c)
    simp only [List.foldl_cons, List.length_cons]
    unfold wstep at this ⊢
    split at this <;> simp_all <;> omega

def strV (l : List (List UInt8)) : List Value := l.map fun s => .string ⟨s.toArray⟩

theorem slice_byte (l : List UInt8) (k : Nat) (c : UInt8) (hc : l[k]? = some c) (wx : World) : (Instr.slice 9 (.string ⟨l.toArray⟩) (some (.int .i64 k)) (some (.int .i64 ((k : Int) + 1))) none).run Tryd.prog wx = .ok (.string ⟨#[c]⟩) wx := by
  obtain ⟨h1, h2⟩ := List.getElem?_eq_some_iff.1 hc
  have hz := size_mk l
  have e : (⟨l.toArray⟩ : ByteArray).extract k (k + 1) = ⟨#[c]⟩ := by
    apply ext_toList
    rw [Lib.extract_data]
    have : l.drop k = c :: l.drop (k + 1) := by rw [← h2]; exact List.drop_eq_getElem_cons h1
    simp [this]
  rw [run_slice_string _ _ _ _ _ _ _ Tryd.underlying9 (by omega) (by omega) (by omega), show ((k : Int) + 1).toNat = k + 1 by omega, Int.toNat_natCast, e]
theorem app_str {wr : World} {base g n cap : Nat} {xs : List Value} (h0 : wr.ownsRow base 9 1 (.slice (some ⟨g, 0, none⟩) n cap) n xs) (hb : base ≤ wr.heap.size) (few : n ≤ 1000000) :
    ∃ g' c wN, (Builtin.append_ #[34, 34] 34 #[.slice (some ⟨g, 0, none⟩) n cap, .slice (some ⟨wr.heap.size, 0, none⟩) 1 1]).run Tryd.prog (wr.alloc (.cells #[.string ⟨#[]⟩] 9)) = .ok (.slice (some ⟨g', 0, none⟩) (n + 1) c) wN ∧
      wN.ownsRow base 9 1 (.slice (some ⟨g', 0, none⟩) (n + 1) c) (n + 1) (xs ++ [.string ⟨#[]⟩]) ∧ Below base wr wN := by
  obtain ⟨i, hi, hzz⟩ := Option.map_eq_some_iff.1 (show (Tryd.prog.info? 9).map (fun i => (i.zero, i.size, i.bytes)) = some (some (.string ⟨#[]⟩), 1, 16) by kernel_rfl)
  simp only [Prod.mk.injEq] at hzz
  obtain ⟨hz0, hz1, hz2⟩ := hzz
  have bA := (Below.refl wr.heap.size wr).alloc (Nat.le_refl _) (.cells #[.string ⟨#[]⟩] 9)
  have h1 := h0.alloc (.cells #[.string ⟨#[]⟩] 9)
  obtain ⟨v', wN, hr, ho, hg, hn⟩ := run_append_own (P := Tryd.prog) _ base 34 34 9 i (.string ⟨#[]⟩) 1 16 Tryd.underlying34 hi hz0 hz1 hz2 rfl (by decide) (.slice (some ⟨g, 0, none⟩) n cap) n xs h1 ⟨wr.heap.size, 0, none⟩ 1 1 [.string ⟨#[]⟩] rfl
    (fun j u hu => by
      have hj : j < 1 := (List.getElem?_eq_some_iff.1 hu).1
      obtain rfl : j = 0 := by omega
      cases hu; simp [go_sem])
    (fun u hu => by simp at hu; subst hu; rfl) (by unfold maxLen; omega) (by omega) (by simp; omega)
  obtain ⟨ho1, ho2⟩ := ho
  rcases ho2 with ⟨_, h00⟩ | ⟨g', c, cur, rfl, hgb, hcur, hc1, hc2, hc3, hc4⟩
  · omega
  · exact ⟨g', c, wN, hr, ⟨ho1, Or.inr ⟨g', c, cur, rfl, hgb, hcur, hc1, hc2, hc3, hc4⟩⟩, (bA.mono hb).grown hg (by simp; omega) (fun k hk => (h1.lt k hk).1)⟩

set_option maxRecDepth 20000 in
set_option maxHeartbeats 2000000 in
theorem words_any (l : List UInt8) (hl : l.length ≤ 100000) (w : World) :
    Calls Tryd.prog 21 #[.string ⟨l.toArray⟩] w fun e w' => ∃ g cap, e = .returned (.slice (some ⟨g, 0, none⟩) (wordsP l).length cap) ∧ CRow w' g (strC (wordsP l)) ∧ Below w.heap.size w w' := by
  have hz := size_mk l
  go_enter Tryd.func21, Tryd.ntmps21
  go_wp2_with fail
  go_loopg [3, 4] l.length (fun gk v i wr => ∃ (k g cap : Nat), gk + k = l.length ∧ i = .int .i64 k ∧ v = .slice (some ⟨g, 0, none⟩) ((wfold (l.take k)).1.length + 1) cap ∧ wr.ownsRow w.heap.size 9 1 (.slice (some ⟨g, 0, none⟩) ((wfold (l.take k)).1.length + 1) cap) ((wfold (l.take k)).1.length + 1) (strV ((wfold (l.take k)).1 ++ [(wfold (l.take k)).2])) ∧ Below w.heap.size w wr)
  case atStart =>
    refine ⟨0, w.heap.size, 1, by omega, rfl, rfl, ?_, (Below.refl _ w).alloc (Nat.le_refl _) _⟩
    exact ⟨rfl, Or.inr ⟨w.heap.size, 1, #[.string ⟨#[]⟩], rfl, Nat.le_refl _, heap_alloc_new w _, Nat.le_refl _, by unfold maxLen; decide, rfl, rfl⟩⟩
  case round =>
    obtain ⟨k, g, cap, hg, rfl, rfl, hown, hB⟩ := hrel
    by_cases hk : k < l.length
    · obtain ⟨c, hc⟩ : ∃ c, l[k]? = some c := ⟨_, List.getElem?_eq_getElem hk⟩
      have ek := byte_at l k c hc
      have hk' : (k : Int) < (l.length : Int) := by omega
      have hsn : Hid (wfold (l.take (k + 1)) = wstep (wfold (l.take k)) c) := by show _ = _; rw [take_snoc8 hc, wfold_snoc]
      have hwl := wfold_len (l.take k)
      have htl : (l.take k).length ≤ 100000 := by simp; omega
      generalize wfold (l.take k) = p at *
      obtain ⟨d, cu⟩ := p
      dsimp only at *
      cases hsp : ((c.toNat : Int) == 32)
      · have hne : c ≠ 32 := fun e => by subst e; revert hsp; decide
        have c0 : wr.cell? ⟨g, d.length, none⟩ = some (.string ⟨cu.toArray⟩) := by
          rw [hown.cellAt d.length (by omega)]; simp [strV]
        have z0 := hown.frozenAt d.length
        have hcl : cu.length ≤ 100000 := by omega
        have hdl : ((d.length : Int) < (d.length : Int) + 1) := by omega
        have hS := slice_byte l k c hc
        have hwr : IntKind.i64.wrap (d.length : Int) = (d.length : Int) := by rw [IntKind.wrap_i64]; omega
        go_wp2_with fail
        go_region
        all_goals go_wp2
        all_goals go_roundg (l.length - (k + 1))
        case measure => omega
        case rel =>
          have e2 : wfold (l.take (k + 1)) = (d, cu ++ [c]) := by rw [hsn.out]; simp [wstep, hne]
          obtain ⟨s1, s2⟩ := hown.stored d.length (.string (⟨cu.toArray⟩ ++ ⟨#[c]⟩))
          have e3 : (Value.string ((⟨cu.toArray⟩ : ByteArray) ++ ⟨#[c]⟩)) = .string ⟨(cu ++ [c]).toArray⟩ := congrArg Value.string (ext_toList (by simp))
          refine ⟨k + 1, g, cap, by omega, by go_num, by rw [e2], ?_, ((hB.setCell (p := ⟨g, d.length, none⟩) ((hown.lt g rfl).1) _).drew)⟩
          rw [e2]
          have e4 : (strV (d ++ [cu])).set d.length (.string (⟨cu.toArray⟩ ++ ⟨#[c]⟩)) = strV (d ++ [cu ++ [c]]) := by
            rw [e3]; simp [strV]
          rw [e4] at s1
          exact s1
      · have he : c = 32 := by
          have : (c.toNat : Int) = 32 := by simpa using hsp
          exact UInt8.toNat_inj.1 (by show c.toNat = 32; omega)
        obtain ⟨g', c', wN, hrun, hoN, bN⟩ := app_str hown hB.size (by omega)
        go_upto_region 6 with fail
        go_wp2_with (refine Lib.wpList_append_run_sl _ rfl _ _ 34 rfl _ _ rfl rfl hrun ?_)
        go_roundg (l.length - (k + 1))
        case measure => omega
        case rel =>
          have e2 : wfold (l.take (k + 1)) = (d ++ [cu], []) := by rw [hsn.out]; simp [wstep, he]
          refine ⟨k + 1, g', c', by omega, by go_num, by rw [e2]; simp, ?_, hB.trans (bN.mono (Nat.le_refl _))⟩
          rw [e2]
          have : strV (d ++ [cu]) ++ [Value.string ⟨#[]⟩] = strV (d ++ [cu] ++ [[]]) := by simp [strV]
          rw [this] at hoN
          simpa using hoN
    · have hkl : k = l.length := by omega
      subst hkl
      rw [List.take_length] at hown
      have hk' : ¬ ((l.length : Int) < (l.length : Int)) := by omega
      have hfin : CRow wr g (strC (wordsP l)) := by
        obtain ⟨_, h2⟩ := hown
        rcases h2 with ⟨h', _⟩ | ⟨g', c', cur, hv, _, hcur, _, _, _, ht⟩
        · simp at h'
        · cases hv
          refine ⟨cur, _, _, hcur, fun i v hv => ?_⟩
          have e : (strC (wordsP l)).flatten = strV ((wfold l).1 ++ [(wfold l).2]) := by
            unfold strC wordsP strV
            generalize (wfold l).1 ++ [(wfold l).2] = q
            induction q with
            | nil => rfl
            | cons a q ih => simp [ih]
          rw [e, ← ht, List.getElem?_take] at hv
          split at hv
          · simpa using hv
          · cases hv
      have hwl : (wordsP l).length = (wfold l).1.length + 1 := by simp [wordsP]
      go_wp2_with fail
      go_ret
      exact ⟨g, ⟨cap, rfl⟩, hfin, hB⟩
end Go.Proofs.YtpnegpcnmmaclaaDoor
