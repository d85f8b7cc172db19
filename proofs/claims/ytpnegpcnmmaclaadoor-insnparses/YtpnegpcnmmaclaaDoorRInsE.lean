/-
  The document's own answers on texts: Code; the texts of law 7.
-/
import Derived.Test.YtpnegpcnmmaclaaDoorRInsD
import Derived.Test.YtpnegpcnmmaclaaDoorSlices
import Derived.Deep.CutBlock
import Derived.Deep.DeepCutAuto
import Derived.Deep.LoopGhost
namespace Go.Proofs.YtpnegpcnmmaclaaDoor
open Go.ChangeShapes Go.WideShapes Go.ChangeAt Go.RowKit

theorem take_text (s : ByteArray) (n : Nat) : ∃ t : List UInt8, s.extract 0 n = ⟨t.toArray⟩ ∧ t.length ≤ n := by
  refine ⟨(s.extract 0 n).data.toList, ?_, ?_⟩
  · exact (mk_toList _).symm
  · have : (s.extract 0 n).data.toList = (s.data.toList.take n) := by
      rw [Lib.extract_data]; simp
    rw [this]; simp; omega
set_option maxHeartbeats 400000 in
theorem ktext_any (s : ByteArray) (n : Nat) (w : World) :
    Calls Tryd.prog 10 #[.string s, .int .i64 n] w fun e w' => (∃ t : List UInt8, e = .returned (.string ⟨t.toArray⟩) ∧ t.length ≤ n) ∧ w = w' := by
  obtain ⟨t, ht, hl⟩ := take_text s (min s.size n)
  have hS : ∀ wx, (Instr.slice 9 (.string s) none (some (.int .i64 (min (s.size : Int) (n : Int)))) none).run Tryd.prog wx = .ok (.string ⟨t.toArray⟩) wx := fun wx => by
    have e : min (s.size : Int) (n : Int) = ((min s.size n : Nat) : Int) := by omega
    rw [e, run_slice_string_h _ _ _ Tryd.underlying9 _ _ (by omega) (by omega), Int.toNat_natCast, ht]
  go_enter Tryd.func10, Tryd.ntmps10
  go_wp2_with fail
  go_ret
  exact ⟨⟨t, rfl, by omega⟩, rfl⟩

theorem codeF_stop {f n : Nat} {t : List UInt8} {acc : List Ins} (hne : ¬ (t = [] ∧ 1 < n)) (hno : ∀ c ∈ t, c ≠ 10) : codeF f n t acc = ([], n) := by
  cases f with
  | zero => rw [codeF, if_neg hne]
  | succ f => rw [codeF, if_neg hne, cutc_none 10 t hno]; rfl
theorem codeF_step {n k : Nat} {t : List UInt8} {acc : List Ins} (h24 : n ≤ 24) (hno : ∀ c ∈ t.take k, c ≠ 10) (hk : t[k]? = some 10) :
    codeF (25 - n) n t acc = match parseP (t.take k) with | some x => codeF (25 - (n + 1)) (n + 1) (t.drop (k + 1)) (acc ++ [x]) | none => ([], n) := by
  obtain ⟨h1, h2⟩ := List.getElem?_eq_some_iff.1 hk
  have ht : t = t.take k ++ 10 :: t.drop (k + 1) := by
    have : t.drop k = 10 :: t.drop (k + 1) := by rw [← h2]; exact List.drop_eq_getElem_cons h1
    rw [← this, List.take_append_drop]
  have hc : cutc 10 t = (t.take k, t.drop (k + 1), true) := by
    have := cutc_word 10 (t.take k) (t.drop (k + 1)) hno
    rwa [← ht] at this
  have hne : ¬ (t = [] ∧ 1 < n) := fun h => by rw [h.1] at h1; simp at h1
  rw [show 25 - n = (24 - n) + 1 by omega, show 25 - (n + 1) = 24 - n by omega, codeF, if_neg hne, hc]
  rfl
theorem codeF_over {t : List UInt8} {acc : List Ins} (hne : ¬ (t = [] ∧ 1 < 25)) : codeF 0 25 t acc = ([], 25) := by rw [codeF, if_neg hne]

theorem slice_to (l : List UInt8) (k : Nat) (hk : k ≤ l.length) (wx : World) : (Instr.slice 9 (.string ⟨l.toArray⟩) none (some (.int .i64 k)) none).run Tryd.prog wx = .ok (.string ⟨(l.take k).toArray⟩) wx := by
  have e : (⟨l.toArray⟩ : ByteArray).extract 0 k = ⟨(l.take k).toArray⟩ := by
    apply ext_toList
    rw [Lib.extract_data]; simp
  rw [run_slice_string_h _ _ _ Tryd.underlying9 _ _ (by omega) (by rw [size_mk]; omega), Int.toNat_natCast, e]
theorem slice_on (l : List UInt8) (k : Nat) (hk : k + 1 ≤ l.length) (wx : World) : (Instr.slice 9 (.string ⟨l.toArray⟩) (some (.int .i64 ((k : Int) + 1))) none none).run Tryd.prog wx = .ok (.string ⟨(l.drop (k + 1)).toArray⟩) wx := by
  have e : (⟨l.toArray⟩ : ByteArray).extract (k + 1) l.length = ⟨(l.drop (k + 1)).toArray⟩ := by
    apply ext_toList
    rw [Lib.extract_data]; simp [List.take_of_length_le]
  rw [run_slice_string_l _ _ _ Tryd.underlying9 _ _ (by omega) (by rw [size_mk]; omega), size_mk, show ((k : Int) + 1).toNat = k + 1 by omega, e]

theorem stepAppend8 {P : Program} {ops : Array Oper} {oo : Oper} {a : Act} {w : World} {K : Act → World → Prop} {Q : Exit → Act → World → Prop} {E : Prop} (hgd : oo.guard = none) (s x : Operand) (t : TypeId)
    (ho : oo.op = .call { callee := .builtin .append, args := #[s, x], argTypes := #[t, t] }) (va vb : Value) (hs : a.eval s = va) (hx : a.eval x = vb) (ty : TypeId) (hty : oo.type = ty) {v' : Value} {w' : World} (hrun : (Builtin.append_ #[t, t] ty #[va, vb]).run P w = .ok v' w')
    (h : K (a.put oo.dst v') w') : if Region.wanted oo (yielded ops a.tmps) = true then Oper.wp P oo a w K Q else E := by
  have hw : Region.wanted oo (yielded ops a.tmps) = true := by simp [Region.wanted, hgd]
  rw [if_pos hw]
  subst hty
  unfold Oper.wp
  simp [execOp, ho, resolve, invoke, builtin, hs, hx, hrun, Result.andThen]
  exact h

/-- One more, its cells just made. -/
theorem app_one8 {wp : World} {base cap : Nat} {a : Option Addr} {acc : List Ins} (h0 : wp.ownsRow base 32 4 (.slice a acc.length cap) acc.length (flatI acc)) (hb : base ≤ wp.heap.size) (few : acc.length ≤ 1000) (x : Ins) :
    ∃ g c wN, (Builtin.append_ #[24, 24] 24 #[.slice a acc.length cap, .slice (some ⟨wp.heap.size, 0, none⟩) 1 1]).run Tryd.prog (wp.alloc (.cells #[.int .i64 x.op, .int .i64 x.a, .int .i64 x.b, .int .i64 x.n] 32)) = .ok (.slice (some ⟨g, 0, none⟩) (acc.length + 1) c) wN ∧
      wN.ownsRow base 32 4 (.slice (some ⟨g, 0, none⟩) (acc ++ [x]).length c) (acc ++ [x]).length (flatI (acc ++ [x])) ∧ Below base wp wN := by
  obtain ⟨i, hi, hzz⟩ := Option.map_eq_some_iff.1 (show (Tryd.prog.info? 32).map (fun i => (i.zero, i.size, i.bytes)) = some (some (insV ⟨0, 0, 0, 0⟩), 4, 32) by kernel_rfl)
  simp only [Prod.mk.injEq] at hzz
  obtain ⟨hz0, hz1, hz2⟩ := hzz
  have bA := (Below.refl wp.heap.size wp).alloc (Nat.le_refl _) (.cells #[.int .i64 x.op, .int .i64 x.a, .int .i64 x.b, .int .i64 x.n] 32)
  have h1 := own_later h0 bA
  have hnews : ∀ j u, x.vs[j]? = some u → (wp.alloc (.cells #[.int .i64 x.op, .int .i64 x.a, .int .i64 x.b, .int .i64 x.n] 32)).cell? ((⟨wp.heap.size, 0, none⟩ : Addr).add j) = some u := fun j u hu => by
    have hj : j < 4 := (List.getElem?_eq_some_iff.1 hu).1
    rcases (by omega : j = 0 ∨ j = 1 ∨ j = 2 ∨ j = 3) with rfl | rfl | rfl | rfl <;> (cases hu; simp [go_sem])
  obtain ⟨v', wN, hr, ho, hg, hn⟩ := run_append_own (P := Tryd.prog) _ base 24 24 32 i (insV ⟨0, 0, 0, 0⟩) 4 32 Tryd.underlying24 hi hz0 hz1 hz2 rfl (by decide) (.slice a acc.length cap) acc.length (flatI acc) h1 ⟨wp.heap.size, 0, none⟩ 1 1 x.vs rfl hnews
    (fun u hu => by simp [Ins.vs] at hu; rcases hu with rfl | rfl | rfl | rfl <;> rfl) (by unfold maxLen; omega) (by omega) (by simp; omega)
  have hfl : flatI acc ++ x.vs = flatI (acc ++ [x]) := by simp [flatI]
  have hll : (acc ++ [x]).length = acc.length + 1 := by simp
  obtain ⟨ho1, ho2⟩ := ho
  rcases ho2 with ⟨_, h00⟩ | ⟨g, c, cur, rfl, hgb, hcur, hc1, hc2, hc3, hc4⟩
  · omega
  · refine ⟨g, c, wN, hr, ?_, ?_⟩
    · rw [hll, ← hfl]; exact ⟨ho1, Or.inr ⟨g, c, cur, rfl, hgb, hcur, hc1, hc2, hc3, hc4⟩⟩
    · exact (bA.mono hb).grown hg (by simp; omega) (fun k hk => (h1.lt k hk).1)
/-- What the document's Code answers. -/
def RCodeEnd (w : World) (r : List Ins × Nat) (e : Ending) (w' : World) : Prop :=
  ∃ a cap, e = .returned (.tuple #[.slice a r.1.length cap, .int .i64 r.2]) ∧ IsL w' a r.1 ∧ Below w.heap.size w w'
theorem no10_snoc {t : List UInt8} {k : Nat} {c : UInt8} (h : ∀ x ∈ t.take k, x ≠ 10) (hc : t[k]? = some c) (h10 : c ≠ 10) : ∀ x ∈ t.take (k + 1), x ≠ 10 := by
  rw [take_snoc8 hc]
  intro x hx
  rcases List.mem_append.1 hx with hx | hx
  · exact h x hx
  · rw [List.mem_singleton.1 hx]; exact h10

set_option maxRecDepth 20000 in
set_option maxHeartbeats 4000000 in
theorem rcode_any (s : List UInt8) (hs : s.length ≤ 100000) (w : World) :
    Calls Tryd.prog 8 #[.string ⟨s.toArray⟩] w (RCodeEnd w (codeP s)) := by
  obtain ⟨r, hr⟩ : ∃ r, Hid (codeP s = r) := ⟨_, rfl⟩
  rw [hr.out]
  have h0 : Hid (codeF (25 - 1) 1 s [] = r) := hr.out
  clear hr
  go_enter Tryd.func8, Tryd.ntmps8
  go_wp2_with fail
  go_loopg [0, 4, 5] 25 (fun g sv ov nv wr => ∃ (n : Nat) (t : List UInt8) (a : Option Addr) (cap : Nat) (acc : List Ins), g + n = 26 ∧ 1 ≤ n ∧ n ≤ 25 ∧ nv = .int .i64 n ∧ sv = .string ⟨t.toArray⟩ ∧ ov = .slice a acc.length cap ∧ Hid (codeF (25 - n) n t acc = r) ∧ t.length ≤ 100000 ∧ Hid (acc.length ≤ n) ∧ wr.ownsRow w.heap.size 32 4 (.slice a acc.length cap) acc.length (flatI acc) ∧ Below w.heap.size w wr)
  case atStart => exact ⟨1, s, none, 0, [], by omega, by omega, by omega, rfl, rfl, rfl, h0, hs, Nat.zero_le 1, World.ownsRow_nil _ _ _ _, Below.refl _ _⟩
  case round =>
    clear h0 hs s
    obtain ⟨n, t, a, cap, acc, hg, hn1, hn25', rfl, rfl, rfl, hc, ht, hacc, hown, hB⟩ := hrel
    have hsz := size_mk t
    by_cases hend : t = [] ∧ 1 < n
    · obtain ⟨rfl, h1⟩ := hend
      have e : Hid (r = (acc, 0)) := by
        show _ = _
        rw [← hc.out]
        cases hf : 25 - n with
        | zero => rw [codeF, if_pos ⟨rfl, h1⟩]
        | succ f => rw [codeF, if_pos ⟨rfl, h1⟩]
      have h1' : (1 : Int) < (n : Int) := by omega
      go_wp2_with fail
      go_ret2
      rw [e.out]
      exact ⟨a, cap, rfl, IsL.own hown, hB⟩
    · go_upto_region 4 with fail
      go_cut [16] (fun v wx => v = .bool false ∧ wx = wr)
      case first =>
        by_cases hee : t = []
        · have hn : n = 1 := by rcases Nat.lt_or_ge 1 n with h | h; exact absurd ⟨hee, h⟩ hend; omega
          subst hee
          subst hn
          go_wp2_with fail
          go_meet
          exact ⟨rfl, rfl⟩
        · have hne : (t == []) = false := by
            cases t with
            | nil => exact absurd rfl hee
            | cons _ _ => rfl
          go_wp2_with fail
          go_meet
          exact ⟨rfl, rfl⟩
      case rest =>
        obtain ⟨rfl, rfl⟩ := hcut
        go_upto_block 2 with fail
        go_cut [6] (fun v wx => ∃ k : Nat, v = .int .i64 k ∧ k ≤ t.length ∧ Hid (∀ c ∈ t.take k, c ≠ 10) ∧ Hid (k = t.length ∨ t[k]? = some 10) ∧ wx = wc)
        case first =>
          go_wp2_with fail
          go_loopg [6] t.length (fun g v wx => ∃ k : Nat, g + k = t.length ∧ v = .int .i64 k ∧ Hid (∀ c ∈ t.take k, c ≠ 10) ∧ wx = wc)
          case atStart => exact ⟨0, by omega, rfl, (fun c h => by simp at h), rfl⟩
          case round =>
            obtain ⟨k, hgk, rfl, hno, rfl⟩ := hrel
            by_cases hk : k < t.length
            · obtain ⟨c, hck⟩ : ∃ c, t[k]? = some c := ⟨_, List.getElem?_eq_getElem hk⟩
              have ek := byte_at t k c hck
              have hk' : (k : Int) < (t.length : Int) := by omega
              cases hsp : ((c.toNat : Int) == 10)
              · have hc10 : c ≠ 10 := fun e => by subst e; revert hsp; decide
                have hsp' : ((c.toNat : Int) != 10) = true := by simp [bne, hsp]
                go_wp2_with fail
                go_roundg (t.length - (k + 1))
                case measure => omega
                case rel => exact ⟨k + 1, by omega, by go_num, no10_snoc hno.out hck hc10, rfl⟩
              · have hc10 : c = 10 := by
                  have : (c.toNat : Int) = 10 := by simpa using hsp
                  exact UInt8.toNat_inj.1 (by show c.toNat = 10; omega)
                have hsp' : ((c.toNat : Int) != 10) = false := by simp [bne, hsp]
                go_wp2_with fail
                go_meet
                exact ⟨k, rfl, by omega, hno, Or.inr (by rw [hck, hc10]), rfl⟩
            · have hkl : k = t.length := by omega
              subst hkl
              have hk' : ¬ ((t.length : Int) < (t.length : Int)) := by omega
              go_wp2_with fail
              go_meet
              exact ⟨t.length, rfl, by omega, hno, Or.inl rfl, rfl⟩
        case rest =>
          obtain ⟨k, rfl, hkt, hno, hkk, rfl⟩ := hcut
          by_cases hkl : k = t.length
          · subst hkl
            have e : Hid (r = ([], n)) := by show _ = _; rw [← hc.out]; exact codeF_stop hend (by have := hno.out; rwa [List.take_length] at this)
            go_wp2_with fail
            go_ret2
            rw [e.out]
            exact ⟨none, 0, rfl, Or.inl rfl, hB⟩
          · have hk10 : t[k]? = some 10 := hkk.out.resolve_left hkl
            have hne : ((k : Int) == (t.length : Int)) = false := by simp; omega
            by_cases h24 : n ≤ 24
            · have h24' : ¬ ((24 : Int) < (n : Int)) := by omega
              have hst := codeF_step (acc := acc) h24 hno.out hk10
              have hS := slice_to t k hkt
              have hR := rparse_any (t.take k) (by simp; omega)
              cases hp : parseP (t.take k) with
              | none =>
                have hpr : parseR (t.take k) = .tuple #[insV ⟨0, 0, 0, 0⟩, .bool false] := by unfold parseR; rw [hp]
                rw [hpr] at hR
                unfold insV at hR
                have e : Hid (r = ([], n)) := by show _ = _; rw [← hc.out, hst, hp]
                clear hst hp
                go_wp2_with (go_at_call 12; with_reducible refine (hR _).mono ?_; rintro e w2 ⟨rfl, b2⟩)
                go_ret2
                rw [e.out]
                exact ⟨none, 0, rfl, Or.inl rfl, (hB.trans (b2.mono hB.size)).alloc (by have := hB.size; have := b2.size; omega) _⟩
              | some x =>
                have hpr : parseR (t.take k) = .tuple #[insV x, .bool true] := by unfold parseR; rw [hp]
                rw [hpr] at hR
                unfold insV at hR
                have e : Hid (codeF (25 - (n + 1)) (n + 1) (t.drop (k + 1)) (acc ++ [x]) = r) := by show _ = _; rw [← hc.out, hst, hp]
                clear hst hp
                go_upto_region 14 with (go_at_call 12; with_reducible refine (hR _).mono ?_; rintro e w2 ⟨rfl, b2⟩)
                have hx2 := heap_alloc_new w2 (.cells #[.int .i64 x.op, .int .i64 x.a, .int .i64 x.b, .int .i64 x.n] 32)
                have b2a := b2.alloc b2.size (.cells #[.int .i64 x.op, .int .i64 x.a, .int .i64 x.b, .int .i64 x.n] 32)
                generalize w2.alloc (.cells #[.int .i64 x.op, .int .i64 x.a, .int .i64 x.b, .int .i64 x.n] 32) = W2 at *
                generalize w2.heap.size = X at *
                have hown2 := own_later hown b2a
                have hB2 := hB.trans (b2a.mono hB.size)
                clear b2 hown hR hS
                have hS2 := slice_on t k (by omega)
                have hwk : IntKind.i64.wrap ((k : Int) + 1) = (k : Int) + 1 := by rw [IntKind.wrap_i64]; omega
                obtain ⟨c0, c1, c2, c3, cf⟩ := four_cells hx2
                have hb : Below W2.heap.size W2 W2.drew := (Below.refl _ W2).drew
                have hown3 := own_later hown2 hb
                have hB3 := hB2.drew
                refine wp_region_held_drew (S := fun _ => True) (by kernel_rfl) trivial (fun hHeld => ?_)
                refine wpAnyH_take (i := 0) (oi := { dst := some 49, op := _, type := _, pos := _, after := _, guard := _ }) (v := ?_) rfl (by kernel_rfl) (by kernel_rfl) (by kernel_rfl) (fun _ _ _ h => h) (Or.inl ⟨by rfl, ?_⟩) (by assumption) ?_
                rotate_left
                · intro wz hSw; (try dsimp only at hSw); go_simp; try with_reducible rfl
                (try simp only [Act.put]); (try simp only [List.setIfInBounds_toArray]); (try simp only [List.set_cons_succ]); (try simp only [List.set_cons_zero])
                refine wpAnyH_take (i := 4) (oi := { dst := some 53, op := _, type := _, pos := _, after := _, guard := _ }) (v := ?_) rfl (by kernel_rfl) (by kernel_rfl) (by kernel_rfl) (fun _ _ _ h => h) (Or.inl ⟨by rfl, ?_⟩) (by assumption) ?_
                rotate_left
                · intro wz hSw; (try dsimp only at hSw); go_simp; try with_reducible rfl
                (try simp only [Act.put]); (try simp only [List.setIfInBounds_toArray]); (try simp only [List.set_cons_succ]); (try simp only [List.set_cons_zero])
                refine wpAnyH_take (i := 5) (oi := { dst := some 54, op := _, type := _, pos := _, after := _, guard := _ }) (v := ?_) rfl (by kernel_rfl) (by kernel_rfl) (by kernel_rfl) (fun _ _ _ h => h) (Or.inl ⟨by rfl, ?_⟩) (by assumption) ?_
                rotate_left
                · intro wz hSw; (try dsimp only at hSw); go_simp; try with_reducible rfl
                (try simp only [Act.put]); (try simp only [List.setIfInBounds_toArray]); (try simp only [List.set_cons_succ]); (try simp only [List.set_cons_zero])
                refine wpAnyH_take (i := 6) (oi := { dst := some 55, op := _, type := _, pos := _, after := _, guard := _ }) (v := ?_) rfl (by kernel_rfl) (by kernel_rfl) (by kernel_rfl) (fun _ _ _ h => h) (Or.inl ⟨by rfl, ?_⟩) (by assumption) ?_
                rotate_left
                · intro wz hSw; (try dsimp only at hSw); go_simp; try with_reducible rfl
                (try simp only [Act.put]); (try simp only [List.setIfInBounds_toArray]); (try simp only [List.set_cons_succ]); (try simp only [List.set_cons_zero])
                refine wpAnyH_take (i := 7) (oi := { dst := some 56, op := _, type := _, pos := _, after := _, guard := _ }) (v := ?_) rfl (by kernel_rfl) (by kernel_rfl) (by kernel_rfl) (fun _ _ _ h => h) (Or.inl ⟨by rfl, ?_⟩) (by assumption) ?_
                rotate_left
                · intro wz hSw; (try dsimp only at hSw); go_simp; try with_reducible rfl
                (try simp only [Act.put]); (try simp only [List.setIfInBounds_toArray]); (try simp only [List.set_cons_succ]); (try simp only [List.set_cons_zero])
                generalize W2.drew = W3 at *
                obtain ⟨g', cN, wN, hrun, hownN, bN⟩ := app_one8 hown3 hB3.size (by have := hacc.out; omega) x
                have hx3 := (hb.block X (lt_of_block hx2)).trans hx2
                obtain ⟨d0, d1, d2, d3, _⟩ := four_cells hx3
                refine wpAnyH_ready (rs := [1]) (by kernel_rfl) (by simp) ?_
                refine AllReadyH.cons (o := { dst := some 50, op := _, type := _, pos := _, after := _, guard := _ }) rfl (fun K hK => ?_) AllReadyH.nil
                go_simp
                refine hK.out _ _ trivial (fun hHeld => ?_)
                clear hK K
                (try simp only [Act.put]); (try simp only [List.setIfInBounds_toArray]); (try simp only [List.set_cons_succ]); (try simp only [List.set_cons_zero])
                refine wpAnyH_ready (rs := [2]) (by kernel_rfl) (by simp) ?_
                refine AllReadyH.cons (o := { dst := some 51, op := _, type := _, pos := _, after := _, guard := _ }) rfl (fun K hK => ?_) AllReadyH.nil
                go_simp
                refine hK.out _ _ trivial (fun hHeld => ?_)
                clear hK K
                (try simp only [Act.put]); (try simp only [List.setIfInBounds_toArray]); (try simp only [List.set_cons_succ]); (try simp only [List.set_cons_zero])
                refine wpAnyH_ready (rs := [3]) (by kernel_rfl) (by simp) ?_
                refine AllReadyH.cons (o := { dst := some 52, op := _, type := _, pos := _, after := _, guard := _ }) rfl (fun K hK => ?_) AllReadyH.nil
                refine stepAppend8 (P := Tryd.prog) rfl (.tmp 49) (.tmp 51) 24 rfl (.slice a acc.length cap) (.slice (some ⟨W3.heap.size, 0, none⟩) 1 1) (by simp [Act.eval]) (by simp [Act.eval]) 24 rfl hrun ?_
                refine hK.out _ _ trivial (fun hHeld => ?_)
                clear hK K
                (try simp only [Act.put]); (try simp only [List.setIfInBounds_toArray]); (try simp only [List.set_cons_succ]); (try simp only [List.set_cons_zero])
                refine wpAnyH_take (i := 8) (oi := { dst := some 4, op := _, type := _, pos := _, after := _, guard := _ }) (v := ?_) rfl (by kernel_rfl) (by kernel_rfl) (by kernel_rfl) (fun _ _ _ h => h) (Or.inl ⟨by rfl, ?_⟩) (by assumption) ?_
                rotate_left
                · intro wz hSw; (try dsimp only at hSw); go_simp; try with_reducible rfl
                (try simp only [Act.put]); (try simp only [List.setIfInBounds_toArray]); (try simp only [List.set_cons_succ]); (try simp only [List.set_cons_zero])
                refine wpAnyH_take (i := 9) (oi := { dst := some 0, op := _, type := _, pos := _, after := _, guard := _ }) (v := ?_) rfl (by kernel_rfl) (by kernel_rfl) (by kernel_rfl) (fun _ _ _ h => h) (Or.inl ⟨by rfl, ?_⟩) (by assumption) ?_
                rotate_left
                · intro wz hSw; (try dsimp only at hSw); go_simp; try with_reducible rfl
                (try simp only [Act.put]); (try simp only [List.setIfInBounds_toArray]); (try simp only [List.set_cons_succ]); (try simp only [List.set_cons_zero])
                refine wpAnyH_done (by kernel_rfl) ?_ _
                go_wp2_with fail
                go_roundg (26 - (n + 1))
                case measure => omega
                case rel => exact ⟨n + 1, t.drop (k + 1), some ⟨g', 0, none⟩, cN, acc ++ [x], by omega, by omega, by omega, by go_num, rfl, by simp, e, by simp; omega, by show _ ≤ _; have := hacc.out; simp; omega, hownN, hB3.trans (bN.mono (Nat.le_refl _))⟩
            · have hn25 : n = 25 := by omega
              subst hn25
              have e : Hid (r = ([], 25)) := by show _ = _; rw [← hc.out]; exact codeF_over hend
              go_wp2_with fail
              go_ret2
              rw [e.out]
              exact ⟨none, 0, rfl, Or.inl rfl, hB⟩
end Go.Proofs.YtpnegpcnmmaclaaDoor
