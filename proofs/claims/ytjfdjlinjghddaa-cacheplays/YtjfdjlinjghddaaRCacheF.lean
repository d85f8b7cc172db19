/-
  The document's own caches: Tags, Shared.
-/
import Derived.Test.YtjfdjlinjghddaaRCacheE
namespace Go.Proofs.Ytjfdjlinjghddaa
open Go.ChangeShapes Go.WideShapes Go.ChangeAt Go.RowKit

/-- The first m of a row, as a list. -/
def tl (f : Nat → Int) : Nat → List Int
  | 0 => []
  | m + 1 => tl f m ++ [f m]
theorem tl_len (f : Nat → Int) : ∀ m, (tl f m).length = m
  | 0 => rfl
  | m + 1 => by unfold tl; simp [tl_len f m]
theorem tl_get (f : Nat → Int) : ∀ m i, i < m → (tl f m).getD i 0 = f i
  | m + 1, i, h => by
    unfold tl
    rw [List.getD_eq_getElem?_getD]
    by_cases e : i < m
    · rw [List.getElem?_append_left (by rw [tl_len]; exact e), ← List.getD_eq_getElem?_getD]; exact tl_get f m i e
    · have : i = m := by omega
      subst this
      rw [List.getElem?_append_right (by rw [tl_len]; omega), tl_len, Nat.sub_self]; rfl

set_option maxRecDepth 10000 in
set_option maxHeartbeats 4000000 in
theorem rtags_any {w : World} {lo Dk K V : Nat} {xs : Nat → Value} {S : Sets} (row : rowHas w Dk 24 K xs) (hL : ∀ k, k < K → Lst w lo (xs k) (S k)) (hlen : ∀ k, (S k).length ≤ V) (hK : K ≤ 8) (hV1 : 1 ≤ V) (hV : V ≤ 4) :
    Calls Try.prog 41 #[.slice (some ⟨Dk, 0, none⟩) K K, .int .i64 V] w fun e w' => ∃ a cap, e = .returned (.slice a (K * V) cap) ∧ Ints w' a (K * V) (tg S V) ∧ Touch Nil w w' := by
  obtain ⟨base, hbase⟩ : ∃ base, w.heap.size = base := ⟨_, rfl⟩
  have hrow : Hid (rowHas w Dk 24 K xs) := row
  have hrlt := row.lt
  have hKV : K * V ≤ 32 := Nat.le_trans (Nat.mul_le_mul hK hV) (by omega)
  clear row
  go_enter Try.func41, Try.ntmps41
  go_wp2
  go_loopg [5, 11] K (fun g v i wr => ∃ k : Nat, g + k = K ∧ i = .int .i64 k ∧ ∃ a cap, v = .slice a (k * V) cap ∧ OwnL wr base a cap (tl (tg S V) (k * V)) ∧ Touch (base ≤ ·) w wr)
  case atStart => exact ⟨0, by omega, rfl, none, 0, by rw [Nat.zero_mul], by rw [Nat.zero_mul]; exact OwnL.nil _ _, Touch.refl _ _⟩
  case round =>
    obtain ⟨k, hgk, rfl, a, cap, rfl, hO, hT⟩ := hrel
    by_cases hlt : k < K
    · have k1 : (k : Int) < K := by omega
      have ck := (hrow.out.touch hT (by show ¬ base ≤ Dk; omega)).cell (i := k) hlt
      obtain ⟨al, pl', vle, s1, s2, atl⟩ := hL k hlt
      rw [vle] at ck
      have hll := hlen k
      have hcl : Hid (S k = [] ∨ ∃ b o, al = some ⟨b, o, none⟩ ∧ b < w.heap.size ∧ ∀ i, i < (S k).length → w.cell? ⟨b, o + i, none⟩ = some (.int .i64 ((S k).getD i 0))) := atl.cells
      have hkV : k * V + V ≤ K * V := by
        have : (k + 1) * V ≤ K * V := Nat.mul_le_mul_right _ hlt
        rw [Nat.add_mul, Nat.one_mul] at this; omega
      generalize hl : S k = l at *
      go_wp2
      go_loopw [5, 8] (fun v i wz => ∃ j : Nat, j ≤ V ∧ i = .int .i64 j ∧ ∃ a cap, v = .slice a (k * V + j) cap ∧ OwnL wz base a cap (tl (tg S V) (k * V + j)) ∧ Touch (base ≤ ·) w wz) (fun _ i _ => V - (intOf i).toNat)
      case atStart => exact ⟨0, by omega, rfl, a, cap, rfl, hO, hT⟩
      case round =>
        clear hO hT
        obtain ⟨j, hj, rfl, a, cap, rfl, hO, hT⟩ := hrel
        by_cases hjV : j < V
        · have j1 : (j : Int) < V := by omega
          have hbz : base ≤ wr.heap.size := by have := hT.size; omega
          have hal : ∀ y : Int, OwnL (wr.alloc (.cells #[.int .i64 y] 3)) base a cap (tl (tg S V) (k * V + j)) := fun y => hO.touch ((Touch.refl Nil wr).alloc _) (fun _ _ _ e => e)
          have htl : tl (tg S V) (k * V + j + 1) = tl (tg S V) (k * V + j) ++ [tg S V (k * V + j)] := rfl
          have htg : tg S V (k * V + j) = wy l j := by
            obtain ⟨e1, e2⟩ := kV_in (V := V) (k := k) (i := k * V + j) (by omega) (by omega) (by omega)
            unfold tg; rw [e1, e2, Nat.add_sub_cancel_left, hl]
          have hlt' := tl_len (tg S V) (k * V + j)
          obtain ⟨g, o, cap', w', hr, hO', t'⟩ := (hal (wy l j)).append (by simp; omega) (by omega) (wy l j) wr.heap.size (by simp)
          rw [hlt'] at hr
          have tn : Touch (base ≤ ·) w w' := (hT.alloc _).trans t'
          rw [← htg, ← htl] at hO'
          have hr' : Hid ((Builtin.append_ #[24, 24] 24 #[.slice a (k * V + j) cap, .slice (some ⟨wr.heap.size, 0, none⟩) 1 1]).run Try.prog (wr.alloc (.cells #[.int .i64 (wy l j)] 3)) = .ok (.slice (some ⟨g, o, none⟩) (k * V + j + 1) cap') w') := hr
          clear hr hal htl htg hlt' hO
          by_cases hjl : j < l.length
          · have j2 : (j : Int) < l.length := by omega
            rcases hcl.out with rfl | ⟨b2, o2, rfl, hb2, hc2⟩
            · simp at hjl
            have cj : wr.cell? ⟨b2, o2 + j, none⟩ = some (.int .i64 (wy l j)) := by
              rw [World.cell?_of_block (hT.block b2 hb2 (by show ¬ base ≤ b2; omega)), hc2 j hjl]
              unfold wy
              rw [List.getD_eq_getElem?_getD, List.getElem?_eq_getElem hjl]; rfl
            clear hc2
            generalize wy l j = y at *
            go_wp2_with (refine Lib.wpList_append_run_sl _ rfl _ _ 24 rfl _ _ rfl rfl hr'.out ?_)
            go_roundw
            case rel => exact ⟨j + 1, by omega, by go_num, some ⟨g, o, none⟩, cap', rfl, hO', tn⟩
            case measure => simp [intOf]; omega
          · have hy : wy l j = -1 := by unfold wy; rw [List.getElem?_eq_none (by omega)]; rfl
            rw [hy] at hr'
            clear hy
            go_wp2_with (refine Lib.wpList_append_run_sl _ rfl _ _ 24 rfl _ _ rfl rfl hr'.out ?_)
            go_roundw
            case rel => exact ⟨j + 1, by omega, by go_num, some ⟨g, o, none⟩, cap', rfl, hO', tn⟩
            case measure => simp [intOf]; omega
        · have hjV2 : j = V := by omega
          subst hjV2
          have e : (k + 1) * j = k * j + j := by rw [Nat.add_mul, Nat.one_mul]
          go_wp2
          go_roundg (K - 1 - k)
          case measure => omega
          case rel => exact ⟨k + 1, by omega, by go_num, a, cap, by rw [e], by rw [e]; exact hO, hT⟩
    · have hkK : k = K := by omega
      subst hkK
      go_wp2
      go_ret
      refine ⟨a, cap, rfl, ?_, hT.mono fun i hi e => by omega⟩
      have h1 := hO.cells
      rcases h1 with h1 | ⟨b, o, e1, e2, e3⟩
      · left
        have := tl_len (tg S V) (k * V)
        rw [h1] at this
        exact this.symm
      · refine Or.inr ⟨b, o, e1, e2, fun i hi => ?_⟩
        rw [e3 i (by rw [tl_len]; exact hi), tl_get _ _ _ hi]

set_option maxHeartbeats 1000000 in
theorem rshared_any {w : World} {r lo : Nat} {q : CQ} (h : RCAt w r lo q) :
    Calls Try.prog 36 #[.pointer (some ⟨r, 0, none⟩)] w fun e w' => ∃ a cap, e = .returned (.slice a 32 cap) ∧ Ints w' a 32 (tg q.Sh 4) ∧ Touch Nil w w' := by
  obtain ⟨cl, c2, cap1, D, x1, x2, h⟩ := h
  have h1 := h.top1
  have ht := rtags_any h.l2 h.L2 h.okS.len (by omega) (by omega) (by omega)
  go_enter Try.func36, Try.ntmps36
  go_wp2_with (go_at_call 41; refine ht.mono ?_; rintro e w1 ⟨a, cap, rfl, hI, t1⟩)
  go_ret
  exact ⟨a, cap, rfl, hI, t1⟩

set_option maxHeartbeats 1000000 in
theorem rtagsC_yes {w : World} {r lo : Nat} {q : CQ} (h : RCAt w r lo q) (u : Int) (hw : q.hasC u = true) :
    Calls Try.prog 37 #[.pointer (some ⟨r, 0, none⟩), .int .i64 u] w fun e w' => ∃ a cap, e = .returned (.slice a 8 cap) ∧ Ints w' a 8 (tg (q.F u.toNat) 2) ∧ Touch Nil w w' := by
  obtain ⟨cl, c2, cap1, D, x1, x2, h⟩ := h
  obtain ⟨b1, b2⟩ := (q.hasC_iff u).1 hw
  have hU : u.toNat < q.n := by omega
  have h0 := h.top0
  have hn := h.n2
  have c1 := h.l1.cell (i := u.toNat) hU
  have ht := rtags_any (h.d1 u.toNat hU) (h.L1 u.toNat hU) (h.okF u.toNat).len (by omega) (by omega) (by omega)
  go_enter Try.func37, Try.ntmps37
  go_wp2_with (go_at_call 41; refine ht.mono ?_; rintro e w1 ⟨a, cap, rfl, hI, t1⟩)
  go_ret
  exact ⟨a, cap, rfl, hI, t1⟩
set_option maxHeartbeats 1000000 in
theorem rtagsC_no {w : World} {r lo : Nat} {q : CQ} (h : RCAt w r lo q) (u : Int) (hw : q.hasC u = false) :
    Calls Try.prog 37 #[.pointer (some ⟨r, 0, none⟩), .int .i64 u] w fun e w' => e = .returned (.slice none 0 0) ∧ w = w' := by
  obtain ⟨cl, c2, cap1, D, x1, x2, h⟩ := h
  have h0 := h.top0
  have hn := h.n2
  by_cases h1 : u < 0
  · go_enter Try.func37, Try.ntmps37
    go_wp2
    go_ret
    exact ⟨rfl, rfl⟩
  · have h2 : (q.n : Int) ≤ u := by
      have := (q.hasC_no u).1 hw
      omega
    have h3 : decide (u < 0) = false := by simpa using h1
    go_enter Try.func37, Try.ntmps37
    go_wp2
    go_ret
    exact ⟨rfl, rfl⟩
end Go.Proofs.Ytjfdjlinjghddaa
