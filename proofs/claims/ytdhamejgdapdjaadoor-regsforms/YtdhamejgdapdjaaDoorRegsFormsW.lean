/-
  The law RegsForms, walked.
-/
import Derived.Test.YtdhamejgdapdjaaDoorRegH
import Derived.Deep.LoopGhost
namespace Go.Proofs.YtdhamejgdapdjaaDoor
open Go.ChangeShapes Go.WideShapes Go.ChangeAt Go.RowKit

/-- Where it ends. -/
def formE (m : Int) : RS := ⟨fun j => if j = 2 then 18446744073709551615 else if j = 3 then 2 * m else if j = 4 then 2 else 0, 5⟩
/-- The law's code. -/
def formL (m : Int) : List Ins := [⟨1, 1, 0, m⟩, ⟨1, 4, 0, 2⟩, ⟨2, 3, 4, 0⟩, ⟨2, 1, 2, 0⟩, ⟨6, 1, 0, 2⟩, ⟨3, 5, 3, 7⟩]
def form0 : RS := ⟨fun j => if j = 2 then 18446744073709551615 else 0, 0⟩
def formS (m : Int) : Nat → RS
  | 0 => form0
  | i + 1 => (plainP (formL m) (formS m i)).getD RS.zero
theorem form_step (m : Int) (h1 : 1 ≤ m) (h5 : m ≤ 5) (i : Nat) (hi : (i : Int) < 2 + 3 * m) : plainP (formL m) (formS m i) = some (formS m (i + 1)) := by
  have h : (plainP (formL m) (formS m i)).isSome = true := by
    have H : ∀ m' : Fin 5, ∀ i : Fin 17, (i.val < 2 + 3 * (m'.val + 1)) → (plainP (formL ((m'.val + 1 : Nat) : Int)) (formS ((m'.val + 1 : Nat) : Int) i.val)).isSome = true := by decide +kernel
    have := H ⟨(m - 1).toNat, by omega⟩ ⟨i, by omega⟩ (by simp only; omega)
    simp only at this
    rwa [show (((m - 1).toNat + 1 : Nat) : Int) = m by omega] at this
  obtain ⟨s, hs⟩ := Option.isSome_iff_exists.1 h
  rw [hs]; simp [formS, hs]
theorem form_words (m : Int) (h1 : 1 ≤ m) (h5 : m ≤ 5) (i : Nat) (hi : (i : Int) ≤ 2 + 3 * m) : 0 ≤ (formS m i).pc := by
  have H : ∀ m' : Fin 5, ∀ i : Fin 18, 0 ≤ (formS ((m'.val + 1 : Nat) : Int) i.val).pc := by decide +kernel
  have := H ⟨(m - 1).toNat, by omega⟩ ⟨i, by omega⟩
  simp only at this
  rwa [show (((m - 1).toNat + 1 : Nat) : Int) = m by omega] at this
theorem form_end (m : Int) (h1 : 1 ≤ m) (h5 : m ≤ 5) : (formS m (2 + 3 * m).toNat).pc = 5 ∧ (formS m (2 + 3 * m).toNat).r 0 = 0 ∧ (formS m (2 + 3 * m).toNat).r 1 = 0 ∧ (formS m (2 + 3 * m).toNat).r 2 = 18446744073709551615 ∧ (formS m (2 + 3 * m).toNat).r 3 = 2 * m ∧ (formS m (2 + 3 * m).toNat).r 4 = 2 ∧ (formS m (2 + 3 * m).toNat).r 5 = 0 ∧ (formS m (2 + 3 * m).toNat).r 6 = 0 ∧ (formS m (2 + 3 * m).toNat).r 7 = 0 := by
  rcases (by omega : m = 1 ∨ m = 2 ∨ m = 3 ∨ m = 4 ∨ m = 5) with rfl | rfl | rfl | rfl | rfl <;> decide +kernel

set_option maxRecDepth 20000 in
set_option maxHeartbeats 2000000 in
theorem regsForms_walk (n v : Int) (w : World) (hV : Sh w) :
    Calls Tryd.prog 4 #[.int .i64 n, .int .u64 v] w fun e w' => e = .returned (.bool true) ∧ Below w.heap.size w w' := by
  have n0 := Int.emod_nonneg n (b := 5) (by omega)
  have n1 := Int.emod_lt_of_pos n (b := 5) (by omega)
  obtain ⟨m, hm⟩ : ∃ m, m = 1 + n % 5 := ⟨_, rfl⟩
  go_enter Tryd.func4, Tryd.ntmps4
  go_upto_block 0 with (go_at_call 17; refine (within_any _ _ _ (by decide) (by decide)).mono ?_; rintro e wq ⟨rfl, rfl⟩)
  have m1 : 1 ≤ m := by omega
  have m5 : m ≤ 5 := by omega
  rw [← hm]
  clear hm n0 n1
  have hI0 := (IsL.new w #[.int .i64 1, .int .i64 1, .int .i64 0, .int .i64 m, .int .i64 1, .int .i64 4, .int .i64 0, .int .i64 2, .int .i64 2, .int .i64 3, .int .i64 4, .int .i64 0, .int .i64 2, .int .i64 1, .int .i64 2, .int .i64 0, .int .i64 6, .int .i64 1, .int .i64 0, .int .i64 2, .int .i64 3, .int .i64 5, .int .i64 3, .int .i64 7] 32 (formL m) rfl).later ((Below.refl _ _).alloc (Nat.le_refl _) (.cells #[.int .u64 0, .int .u64 0, .int .u64 18446744073709551615, .int .u64 0, .int .u64 0, .int .u64 0, .int .u64 0, .int .u64 0, .slice (some ⟨w.heap.size, 0, none⟩) 6 6, .int .i64 0] 45))
  have hB0 := heap_alloc_new (w.alloc (.cells #[.int .i64 1, .int .i64 1, .int .i64 0, .int .i64 m, .int .i64 1, .int .i64 4, .int .i64 0, .int .i64 2, .int .i64 2, .int .i64 3, .int .i64 4, .int .i64 0, .int .i64 2, .int .i64 1, .int .i64 2, .int .i64 0, .int .i64 6, .int .i64 1, .int .i64 0, .int .i64 2, .int .i64 3, .int .i64 5, .int .i64 3, .int .i64 7] 32)) (.cells #[.int .u64 0, .int .u64 0, .int .u64 18446744073709551615, .int .u64 0, .int .u64 0, .int .u64 0, .int .u64 0, .int .u64 0, .slice (some ⟨w.heap.size, 0, none⟩) 6 6, .int .i64 0] 45)
  have hb0 : Below w.heap.size w ((w.alloc (.cells #[.int .i64 1, .int .i64 1, .int .i64 0, .int .i64 m, .int .i64 1, .int .i64 4, .int .i64 0, .int .i64 2, .int .i64 2, .int .i64 3, .int .i64 4, .int .i64 0, .int .i64 2, .int .i64 1, .int .i64 2, .int .i64 0, .int .i64 6, .int .i64 1, .int .i64 0, .int .i64 2, .int .i64 3, .int .i64 5, .int .i64 3, .int .i64 7] 32)).alloc (.cells #[.int .u64 0, .int .u64 0, .int .u64 18446744073709551615, .int .u64 0, .int .u64 0, .int .u64 0, .int .u64 0, .int .u64 0, .slice (some ⟨w.heap.size, 0, none⟩) 6 6, .int .i64 0] 45)) := ((Below.refl _ w).alloc (Nat.le_refl _) _).alloc (by simp) _
  rw [World.size_alloc] at hB0
  generalize (w.alloc (.cells #[.int .i64 1, .int .i64 1, .int .i64 0, .int .i64 m, .int .i64 1, .int .i64 4, .int .i64 0, .int .i64 2, .int .i64 2, .int .i64 3, .int .i64 4, .int .i64 0, .int .i64 2, .int .i64 1, .int .i64 2, .int .i64 0, .int .i64 6, .int .i64 1, .int .i64 0, .int .i64 2, .int .i64 3, .int .i64 5, .int .i64 3, .int .i64 7] 32)).alloc (.cells #[.int .u64 0, .int .u64 0, .int .u64 18446744073709551615, .int .u64 0, .int .u64 0, .int .u64 0, .int .u64 0, .int .u64 0, .slice (some ⟨w.heap.size, 0, none⟩) 6 6, .int .i64 0] 45) = W at *
  obtain ⟨N, hN⟩ : ∃ N : Nat, (N : Int) = 2 + 3 * m := ⟨(2 + 3 * m).toNat, by omega⟩
  go_cut [6] (fun _ wr => ∃ aS cap, SB wr (w.heap.size + 1) (formS m N) aS 6 cap ∧ IsL wr aS (formL m) ∧ Below w.heap.size w wr)
  case first =>
    go_wp2_with fail
    go_loopg [6] N (fun g i wr => ∃ (k : Nat) (aS : Option Addr) (cap : Nat), g + k = N ∧ i = .int .i64 k ∧ SB wr (w.heap.size + 1) (formS m k) aS 6 cap ∧ IsL wr aS (formL m) ∧ Below w.heap.size w wr)
    case atStart => exact ⟨0, _, 6, by omega, rfl, hB0, hI0, hb0⟩
    case round =>
      obtain ⟨k, aS, cap, hg, rfl, hSB, hI, hB⟩ := hrel
      by_cases hk : k < N
      · have hk1 : (k : Int) < 2 + 3 * m := by omega
        have hSc := SCells.of hSB
        have hP := plain_some (n := 6) (c := cap) rfl (form_step m m1 m5 k hk1) hI (by simp [formL]) (by have := form_words m m1 m5 k (by omega); omega) (hV.later hB)
        obtain ⟨s2, hfs⟩ : ∃ s2, Hid (formS m (k + 1) = s2) := ⟨_, rfl⟩
        rw [hfs.out] at hP
        generalize formS m k = s1 at hSB hSc hP
        obtain ⟨y0, y1, y2, y3, y4, y5, y6, y7, y8, y9⟩ := hSc
        unfold stV at hP
        go_wp2_with fail
        refine hP.mono ?_
        rintro e w2 ⟨a', c', rfl, hI2, b2⟩
        go_upto_region 8 with fail
        have hlt := hSB.lt
        have hS2 := hSB.later (b2.alloc b2.size (.cells #[.int .u64 (s2.r 0), .int .u64 (s2.r 1), .int .u64 (s2.r 2), .int .u64 (s2.r 3), .int .u64 (s2.r 4), .int .u64 (s2.r 5), .int .u64 (s2.r 6), .int .u64 (s2.r 7), .slice a' 6 c', .int .i64 s2.pc] 45))
        have hT2 : SB (w2.alloc (.cells #[.int .u64 (s2.r 0), .int .u64 (s2.r 1), .int .u64 (s2.r 2), .int .u64 (s2.r 3), .int .u64 (s2.r 4), .int .u64 (s2.r 5), .int .u64 (s2.r 6), .int .u64 (s2.r 7), .slice a' 6 c', .int .i64 s2.pc] 45)) w2.heap.size s2 a' 6 c' := heap_alloc_new w2 _
        have hI3 : IsN (w2.alloc (.cells #[.int .u64 (s2.r 0), .int .u64 (s2.r 1), .int .u64 (s2.r 2), .int .u64 (s2.r 3), .int .u64 (s2.r 4), .int .u64 (s2.r 5), .int .u64 (s2.r 6), .int .u64 (s2.r 7), .slice a' 6 c', .int .i64 s2.pc] 45)) wr.heap.size a' (formL m) := hI2.alloc _
        have hB3 := past hB (b2.alloc b2.size (.cells #[.int .u64 (s2.r 0), .int .u64 (s2.r 1), .int .u64 (s2.r 2), .int .u64 (s2.r 3), .int .u64 (s2.r 4), .int .u64 (s2.r 5), .int .u64 (s2.r 6), .int .u64 (s2.r 7), .slice a' 6 c', .int .i64 s2.pc] 45))
        have hsz := b2.size
        generalize w2.alloc (.cells #[.int .u64 (s2.r 0), .int .u64 (s2.r 1), .int .u64 (s2.r 2), .int .u64 (s2.r 3), .int .u64 (s2.r 4), .int .u64 (s2.r 5), .int .u64 (s2.r 6), .int .u64 (s2.r 7), .slice a' 6 c', .int .i64 s2.pc] 45) = W2 at *
        generalize w2.heap.size = P2 at *
        obtain ⟨z0, z1, z2, z3, z4, z5, z6, z7, z8, z9⟩ := SCells.of hS2
        obtain ⟨q0, q1, q2, q3, q4, q5, q6, q7, q8, q9⟩ := SCells.of hT2
        have zf := cells_frozen hS2
        clear hP hI y0 y1 y2 y3 y4 y5 y6 y7 y8 y9
        go_wp2_with fail
        go_roundg (N - (k + 1))
        case measure => omega
        case rel => exact ⟨k + 1, a', c', by omega, by go_num, by rw [hfs.out]; exact hS2.put s2 a' 6 c', (put10_isn hI3 hlt).toL, put10_below hB3 (Nat.le_succ _)⟩
      · have hkN : k = N := by omega
        subst hkN
        have hk1 : ¬ ((k : Int) < 2 + 3 * m) := by omega
        go_wp2_with fail
        go_meet
        exact ⟨aS, cap, hSB, hI, hB⟩
  case rest =>
    obtain ⟨aS, cap, hSB, hI, hB⟩ := hcut
    have hE := form_end m m1 m5
    rw [show (2 + 3 * m).toNat = N by omega] at hE
    obtain ⟨e9, e0, e1, e2, e3, e4, e5, e6, e7⟩ := hE
    have hx : nextP (formL m) (formS m N).pc = some ⟨3, 5, 3, 7⟩ := by
      rw [e9]; rfl
    have hpl : plainP (formL m) (formS m N) = none := by unfold plainP; rw [hx]; rfl
    have hSB : SB wc (w.heap.size + 1) (formE m) aS 6 cap := by
      unfold SB at hSB ⊢
      rw [e0, e1, e2, e3, e4, e5, e6, e7, e9] at hSB
      exact hSB
    have hx : nextP (formL m) (formE m).pc = some ⟨3, 5, 3, 7⟩ := by rw [← hx, e9]; rfl
    have hpl : plainP (formL m) (formE m) = none := by unfold plainP; rw [hx]; rfl
    clear e0 e1 e2 e3 e4 e5 e6 e7 e9 hN
    have hNx := next_any (c := cap) (formE m) hI (by simp [formL]) (hV.later hB)
    rw [hx] at hNx
    obtain ⟨y0, y1, y2, y3, y4, y5, y6, y7, y8, y9⟩ := SCells.of hSB
    unfold stV nextV insV at hNx
    simp only [formE, Nat.reduceEqDiff, if_true, if_false] at hNx y0 y1 y2 y3 y4 y5 y6 y7 y8 y9
    go_upto_region 12 with (go_at_call 19; refine hNx.mono ?_; rintro e w2 ⟨rfl, b2⟩)
    have bX := (Below.refl w2.heap.size w2).alloc (Nat.le_refl _) (.cells #[.int .i64 3, .int .i64 5, .int .i64 3, .int .i64 7] 32)
    have hX3 := C4.new w2 3 5 3 7 32
    have b3 := past b2 bX
    generalize w2.alloc (.cells #[.int .i64 3, .int .i64 5, .int .i64 3, .int .i64 7] 32) = W3 at *
    generalize w2.heap.size = P3 at *
    have hI3 := hI.later b3
    have hSB3 := hSB.later b3
    have hB3 := past hB b3
    clear bX b2 hNx y0 y1 y2 y3 y4 y5 y6 y7 y8 y9
    clear hI hSB b3
    obtain ⟨y0, y1, y2, y3, y4, y5, y6, y7, y8, y9⟩ := SCells.of hSB3
    obtain ⟨x0, x1, x2, x3, xf⟩ := id hX3
    have hAd := address_any (w := W3) (formE m) aS 6 cap ⟨3, 5, 3, 7⟩ (by decide) (by show 0 ≤ 2 * m ∧ 2 * m < 18446744073709551616; omega)
    rw [show addW ((formE m).reg 3) 7 = 2 * m + 7 by show (2 * m + 7) % 18446744073709551616 = _; omega] at hAd
    unfold stV insV at hAd
    simp only [formE, Nat.reduceEqDiff, if_true, if_false] at hAd y0 y1 y2 y3 y4 y5 y6 y7 y8 y9
    go_upto_region 14 with (go_at_call 20; refine hAd.mono ?_; rintro e w4 ⟨rfl, b4⟩)
    have hI4 := hI3.later b4
    have hSB4 := hSB3.later b4
    have hX4 := hX3.later b4
    have hB4 := past hB3 b4
    clear hAd y0 y1 y2 y3 y4 y5 y6 y7 y8 y9 x0 x1 x2 x3 xf b4
    clear hI3 hSB3 hX3 hB3 W3
    have hPl := plain_none (n := 6) (c := cap) rfl hpl hI4 (by simp [formL]) (show (-9223372036854775808 : Int) ≤ 5 by decide) (hV.later hB4)
    obtain ⟨y0, y1, y2, y3, y4, y5, y6, y7, y8, y9⟩ := SCells.of hSB4
    unfold stV at hPl
    simp only [formE, Nat.reduceEqDiff, if_true, if_false] at hPl y0 y1 y2 y3 y4 y5 y6 y7 y8 y9
    go_upto_region 17 with (go_at_call 18; refine hPl.mono ?_; rintro e w5 ⟨rfl, b5⟩)
    have hTa : ∀ o, Below w4.heap.size w4 (w5.alloc o) := fun o => b5.alloc b5.size o
    generalize hW5 : w5.alloc _ = W5
    have b5 : Below w4.heap.size w4 W5 := by rw [← hW5]; exact hTa _
    have hI5 := hI4.later b5
    have hSB5 := hSB4.later b5
    have hX5 := hX4.later b5
    have hB5 := past hB4 b5
    clear hPl y0 y1 y2 y3 y4 y5 y6 y7 y8 y9 hTa hW5 b5 hI4 hSB4 hX4 hB4
    have HS : ∀ wx, Below W5.heap.size W5 wx → (fun wx => wx.cell? ⟨w.heap.size + 1, 0, none⟩ = some (.int .u64 0) ∧ wx.cell? ⟨w.heap.size + 1, 1, none⟩ = some (.int .u64 0) ∧ wx.cell? ⟨w.heap.size + 1, 2, none⟩ = some (.int .u64 18446744073709551615) ∧ wx.cell? ⟨w.heap.size + 1, 3, none⟩ = some (.int .u64 (2 * m)) ∧ wx.cell? ⟨w.heap.size + 1, 4, none⟩ = some (.int .u64 2) ∧ wx.cell? ⟨w.heap.size + 1, 5, none⟩ = some (.int .u64 0) ∧ wx.cell? ⟨w.heap.size + 1, 6, none⟩ = some (.int .u64 0) ∧ wx.cell? ⟨w.heap.size + 1, 7, none⟩ = some (.int .u64 0) ∧ wx.cell? ⟨w.heap.size + 1, 8, none⟩ = some (.slice aS 6 cap) ∧ wx.cell? ⟨w.heap.size + 1, 9, none⟩ = some (.int .i64 5) ∧ wx.cell? ⟨P3, 0, none⟩ = some (.int .i64 3) ∧ wx.cell? ⟨P3, 1, none⟩ = some (.int .i64 5) ∧ wx.cell? ⟨P3, 2, none⟩ = some (.int .i64 3) ∧ wx.cell? ⟨P3, 3, none⟩ = some (.int .i64 7)) wx := fun wx bx => by
      obtain ⟨y0, y1, y2, y3, y4, y5, y6, y7, y8, y9⟩ := SCells.of (hSB5.later bx)
      obtain ⟨x0, x1, x2, x3, xf⟩ := hX5.later bx
      exact ⟨y0, y1, y2, y3, y4, y5, y6, y7, y8, y9, x0, x1, x2, x3⟩
    have d5 : Hid ((doneP 6 (formE m) ⟨3, 5, 3, 7⟩ v).r 5 = v ∧ (doneP 6 (formE m) ⟨3, 5, 3, 7⟩ v).pc = 0) := ⟨rfl, rfl⟩
    have f5 : Hid ((faultP 6 (formE m) 3).r 7 = 103 ∧ (faultP 6 (formE m) 3).r 5 = 0 ∧ (faultP 6 (formE m) 3).pc = 0) := ⟨rfl, rfl, rfl⟩
    have hDn : ∀ wx, Below W5.heap.size W5 wx → Calls Tryd.prog 21 #[.agg #[.int .u64 0, .int .u64 0, .int .u64 18446744073709551615, .int .u64 (2 * m), .int .u64 2, .int .u64 0, .int .u64 0, .int .u64 0, .slice aS 6 cap, .int .i64 5], .agg #[.int .i64 3, .int .i64 5, .int .i64 3, .int .i64 7], .int .u64 v] wx fun e w' => ∃ a' c', e = .returned (.agg #[.int .u64 ((doneP 6 (formE m) ⟨3, 5, 3, 7⟩ v).r 0), .int .u64 ((doneP 6 (formE m) ⟨3, 5, 3, 7⟩ v).r 1), .int .u64 ((doneP 6 (formE m) ⟨3, 5, 3, 7⟩ v).r 2), .int .u64 ((doneP 6 (formE m) ⟨3, 5, 3, 7⟩ v).r 3), .int .u64 ((doneP 6 (formE m) ⟨3, 5, 3, 7⟩ v).r 4), .int .u64 ((doneP 6 (formE m) ⟨3, 5, 3, 7⟩ v).r 5), .int .u64 ((doneP 6 (formE m) ⟨3, 5, 3, 7⟩ v).r 6), .int .u64 ((doneP 6 (formE m) ⟨3, 5, 3, 7⟩ v).r 7), .slice a' 6 c', .int .i64 (doneP 6 (formE m) ⟨3, 5, 3, 7⟩ v).pc]) ∧ Below wx.heap.size wx w' := fun wx bx => (done_some (n := 6) (c := cap) (w := wx) (s := formE m) ⟨3, 5, 3, 7⟩ v rfl rfl (hI5.later bx) (by simp [formL]) (show (-9223372036854775808 : Int) ≤ 5 by decide)).mono fun e w' h => by
      obtain ⟨a', c', he, hi, hb⟩ := h
      exact ⟨a', c', he, hb⟩
    have hFl : ∀ wx, Below W5.heap.size W5 wx → Calls Tryd.prog 22 #[.agg #[.int .u64 0, .int .u64 0, .int .u64 18446744073709551615, .int .u64 (2 * m), .int .u64 2, .int .u64 0, .int .u64 0, .int .u64 0, .slice aS 6 cap, .int .i64 5], .int .i64 3] wx fun e w' => ∃ a' c', e = .returned (.agg #[.int .u64 ((faultP 6 (formE m) 3).r 0), .int .u64 ((faultP 6 (formE m) 3).r 1), .int .u64 ((faultP 6 (formE m) 3).r 2), .int .u64 ((faultP 6 (formE m) 3).r 3), .int .u64 ((faultP 6 (formE m) 3).r 4), .int .u64 ((faultP 6 (formE m) 3).r 5), .int .u64 ((faultP 6 (formE m) 3).r 6), .int .u64 ((faultP 6 (formE m) 3).r 7), .slice a' 6 c', .int .i64 (faultP 6 (formE m) 3).pc]) ∧ Below wx.heap.size wx w' := fun wx bx => (fault_some (n := 6) (c := cap) (w := wx) (s := formE m) 3 rfl rfl (hI5.later bx) (by simp [formL]) (show (-9223372036854775808 : Int) ≤ 5 by decide) (by decide)).mono fun e w' h => by
      obtain ⟨a', c', he, hi, hb⟩ := h
      exact ⟨a', c', he, hb⟩
    generalize doneP 6 (formE m) ⟨3, 5, 3, 7⟩ v = sd at *
    generalize faultP 6 (formE m) 3 = sf at *
    have hcur : Below W5.heap.size W5 W5.drew := (Below.refl _ W5).drew
    go_cut [13, 14] (fun v13 v14 wx => ∃ P13 P14 aD cD aF cF, v13 = .pointer (some ⟨P13, 0, none⟩) ∧ v14 = .pointer (some ⟨P14, 0, none⟩) ∧ SB wx P13 sd aD 6 cD ∧ SB wx P14 sf aF 6 cF ∧ Below W5.heap.size W5 wx)
    case first =>
      refine wp_region_held_drew (S := (fun wx => wx.cell? ⟨w.heap.size + 1, 0, none⟩ = some (.int .u64 0) ∧ wx.cell? ⟨w.heap.size + 1, 1, none⟩ = some (.int .u64 0) ∧ wx.cell? ⟨w.heap.size + 1, 2, none⟩ = some (.int .u64 18446744073709551615) ∧ wx.cell? ⟨w.heap.size + 1, 3, none⟩ = some (.int .u64 (2 * m)) ∧ wx.cell? ⟨w.heap.size + 1, 4, none⟩ = some (.int .u64 2) ∧ wx.cell? ⟨w.heap.size + 1, 5, none⟩ = some (.int .u64 0) ∧ wx.cell? ⟨w.heap.size + 1, 6, none⟩ = some (.int .u64 0) ∧ wx.cell? ⟨w.heap.size + 1, 7, none⟩ = some (.int .u64 0) ∧ wx.cell? ⟨w.heap.size + 1, 8, none⟩ = some (.slice aS 6 cap) ∧ wx.cell? ⟨w.heap.size + 1, 9, none⟩ = some (.int .i64 5) ∧ wx.cell? ⟨P3, 0, none⟩ = some (.int .i64 3) ∧ wx.cell? ⟨P3, 1, none⟩ = some (.int .i64 5) ∧ wx.cell? ⟨P3, 2, none⟩ = some (.int .i64 3) ∧ wx.cell? ⟨P3, 3, none⟩ = some (.int .i64 7))) (by kernel_rfl) (HS _ hcur) (fun hHeld => ?_)
      generalize W5.drew = V0 at *
      refine wpAnyH_take (i := 0) (oi := { dst := some 94, op := _, type := _, pos := _, after := _, guard := _ }) (v := ?_) rfl (by kernel_rfl) (by kernel_rfl) (by kernel_rfl) (fun _ _ _ h => h) (Or.inl ⟨by rfl, ?_⟩) (by assumption) ?_
      rotate_left
      · intro wz hSw; (try dsimp only at hSw); go_simp; try with_reducible rfl
      (try simp only [Act.put]); (try simp only [List.setIfInBounds_toArray]); (try simp only [List.set_cons_succ]); (try simp only [List.set_cons_zero])
      refine wpAnyH_take (i := 1) (oi := { dst := some 95, op := _, type := _, pos := _, after := _, guard := _ }) (v := ?_) rfl (by kernel_rfl) (by kernel_rfl) (by kernel_rfl) (fun _ _ _ h => h) (Or.inl ⟨by rfl, ?_⟩) (by assumption) ?_
      rotate_left
      · intro wz hSw; (try dsimp only at hSw); go_simp; try with_reducible rfl
      (try simp only [Act.put]); (try simp only [List.setIfInBounds_toArray]); (try simp only [List.set_cons_succ]); (try simp only [List.set_cons_zero])
      refine wpAnyH_take (i := 2) (oi := { dst := some 96, op := _, type := _, pos := _, after := _, guard := _ }) (v := ?_) rfl (by kernel_rfl) (by kernel_rfl) (by kernel_rfl) (fun _ _ _ h => h) (Or.inl ⟨by rfl, ?_⟩) (by assumption) ?_
      rotate_left
      · intro wz hSw; (try dsimp only at hSw); go_simp; try with_reducible rfl
      (try simp only [Act.put]); (try simp only [List.setIfInBounds_toArray]); (try simp only [List.set_cons_succ]); (try simp only [List.set_cons_zero])
      refine wpAnyH_take (i := 4) (oi := { dst := some 98, op := _, type := _, pos := _, after := _, guard := _ }) (v := ?_) rfl (by kernel_rfl) (by kernel_rfl) (by kernel_rfl) (fun _ _ _ h => h) (Or.inl ⟨by rfl, ?_⟩) (by assumption) ?_
      rotate_left
      · intro wz hSw; (try dsimp only at hSw); go_simp; try with_reducible rfl
      (try simp only [Act.put]); (try simp only [List.setIfInBounds_toArray]); (try simp only [List.set_cons_succ]); (try simp only [List.set_cons_zero])
      refine wpAnyH_ready (rs := [3, 6, 7]) (by kernel_rfl) (by simp) ?_
      refine AllReadyH.cons (o := { dst := some 97, op := _, type := _, pos := _, after := _, guard := _ }) rfl (fun K hK => ?_) (AllReadyH.cons (o := { dst := some 13, op := _, type := _, pos := _, after := _, guard := _ }) rfl (fun K hK => ?_) (AllReadyH.cons (o := { dst := some 14, op := _, type := _, pos := _, after := _, guard := _ }) rfl (fun K hK => ?_) AllReadyH.nil))
      · go_simp
        with_reducible refine (hDn _ hcur).mono ?_
        rintro e V1 ⟨aD, cD, rfl, bq⟩
        try dsimp only
        have hcur := past hcur bq
        refine hK.out _ _ (HS _ hcur) (fun hHeld => ?_)
        clear hK K
        (try simp only [Act.put]); (try simp only [List.setIfInBounds_toArray]); (try simp only [List.set_cons_succ]); (try simp only [List.set_cons_zero])
        refine wpAnyH_ready (rs := [5, 6, 7]) (by kernel_rfl) (by simp) ?_
        refine AllReadyH.cons (o := { dst := some 99, op := _, type := _, pos := _, after := _, guard := _ }) rfl (fun K hK => ?_) (AllReadyH.cons (o := { dst := some 13, op := _, type := _, pos := _, after := _, guard := _ }) rfl (fun K hK => ?_) (AllReadyH.cons (o := { dst := some 14, op := _, type := _, pos := _, after := _, guard := _ }) rfl (fun K hK => ?_) AllReadyH.nil))
        · go_simp
          with_reducible refine (hFl _ hcur).mono ?_
          rintro e V2 ⟨aF, cF, rfl, bq⟩
          try dsimp only
          have hcur := past hcur bq
          refine hK.out _ _ (HS _ hcur) (fun hHeld => ?_)
          clear hK K
          (try simp only [Act.put]); (try simp only [List.setIfInBounds_toArray]); (try simp only [List.set_cons_succ]); (try simp only [List.set_cons_zero])
          refine wpAnyH_ready (rs := [6, 7]) (by kernel_rfl) (by simp) ?_
          refine AllReadyH.cons (o := { dst := some 13, op := _, type := _, pos := _, after := _, guard := _ }) rfl (fun K hK => ?_) (AllReadyH.cons (o := { dst := some 14, op := _, type := _, pos := _, after := _, guard := _ }) rfl (fun K hK => ?_) AllReadyH.nil)
          · go_simp
            have z13 := heap_alloc_new V2 (.cells zCells 45)
            have g13 : W5.heap.size ≤ V2.heap.size := hcur.size
            have hcur := hcur.alloc hcur.size (.cells zCells 45)
            generalize V2.alloc (.cells zCells 45) = V3 at *
            generalize V2.heap.size = P13 at *
            refine hK.out _ _ (HS _ hcur) (fun hHeld => ?_)
            clear hK K
            (try simp only [Act.put]); (try simp only [List.setIfInBounds_toArray]); (try simp only [List.set_cons_succ]); (try simp only [List.set_cons_zero])
            refine wpAnyH_ready (rs := [7]) (by kernel_rfl) (by simp) ?_
            refine AllReadyH.cons (o := { dst := some 14, op := _, type := _, pos := _, after := _, guard := _ }) rfl (fun K hK => ?_) AllReadyH.nil
            · go_simp
              have z14 := heap_alloc_new V3 (.cells zCells 45)
              have g14 : W5.heap.size ≤ V3.heap.size := hcur.size
              have hne : P13 ≠ V3.heap.size := by have := lt_of_block z13; omega
              have z13 := cells_of z13 ((Below.refl _ V3).alloc (Nat.le_refl _) (.cells zCells 45))
              have hcur := hcur.alloc hcur.size (.cells zCells 45)
              generalize V3.alloc (.cells zCells 45) = V4 at *
              generalize V3.heap.size = P14 at *
              refine hK.out _ _ (HS _ hcur) (fun hHeld => ?_)
              clear hK K
              (try simp only [Act.put]); (try simp only [List.setIfInBounds_toArray]); (try simp only [List.set_cons_succ]); (try simp only [List.set_cons_zero])
              have hne13 : P14 ≠ P13 := by first | exact hne | exact Ne.symm hne
              have fD := (SB.zero z13).put sd aD 6 cD
              have fz := (put10_block (w := V4) (B := P13) (s := sd) (a := aD) (n := 6) (c := cD) hne13).trans z14
              have hcur := put10_below (s := sd) (a := aD) (n := 6) (c := cD) hcur g13
              have fD2 := fD.other (Ne.symm hne13) sf aF 6 cF
              have fF := (SB.zero fz).put sf aF 6 cF
              have hcur2 := put10_below (s := sf) (a := aF) (n := 6) (c := cF) hcur g14
              obtain ⟨m0, m1, m2, m3, m4, m5, m6, m7, m8, m9⟩ := SCells.of (r := fun _ => 0) z13
              have mf := cells_frozen z13
              obtain ⟨k0, k1, k2, k3, k4, k5, k6, k7, k8, k9⟩ := SCells.of (r := fun _ => 0) fz
              have kf := cells_frozen fz
              have hS1 := HS _ hcur
              have hS2 := HS _ hcur2
              clear fD fz
              dsimp only [put10] at *
              refine wpAnyH_ready (rs := [8]) (by kernel_rfl) (by simp) ?_
              refine AllReadyH.cons (o := { dst := none, op := _, type := _, pos := _, after := _, guard := _ }) rfl (fun K hK => ?_) AllReadyH.nil
              go_simp
              refine hK.out _ _ hS1 (fun hHeld => ?_)
              clear hK K
              (try simp only [Act.put]); (try simp only [List.setIfInBounds_toArray]); (try simp only [List.set_cons_succ]); (try simp only [List.set_cons_zero])
              refine wpAnyH_ready (rs := [9]) (by kernel_rfl) (by simp) ?_
              refine AllReadyH.cons (o := { dst := none, op := _, type := _, pos := _, after := _, guard := _ }) rfl (fun K hK => ?_) AllReadyH.nil
              go_simp
              refine hK.out _ _ hS2 (fun hHeld => ?_)
              clear hK K
              (try simp only [Act.put]); (try simp only [List.setIfInBounds_toArray]); (try simp only [List.set_cons_succ]); (try simp only [List.set_cons_zero])
              refine wpAnyH_done (by kernel_rfl) ?_ _
              go_wp2
              go_meet
              exact ⟨P13, P14, aD, cD, aF, cF, rfl, rfl, fD2, fF, hcur2⟩
          · go_simp
            have z14 := heap_alloc_new V2 (.cells zCells 45)
            have g14 : W5.heap.size ≤ V2.heap.size := hcur.size
            have hcur := hcur.alloc hcur.size (.cells zCells 45)
            generalize V2.alloc (.cells zCells 45) = V3 at *
            generalize V2.heap.size = P14 at *
            refine hK.out _ _ (HS _ hcur) (fun hHeld => ?_)
            clear hK K
            (try simp only [Act.put]); (try simp only [List.setIfInBounds_toArray]); (try simp only [List.set_cons_succ]); (try simp only [List.set_cons_zero])
            refine wpAnyH_ready (rs := [6]) (by kernel_rfl) (by simp) ?_
            refine AllReadyH.cons (o := { dst := some 13, op := _, type := _, pos := _, after := _, guard := _ }) rfl (fun K hK => ?_) AllReadyH.nil
            · go_simp
              have z13 := heap_alloc_new V3 (.cells zCells 45)
              have g13 : W5.heap.size ≤ V3.heap.size := hcur.size
              have hne : P14 ≠ V3.heap.size := by have := lt_of_block z14; omega
              have z14 := cells_of z14 ((Below.refl _ V3).alloc (Nat.le_refl _) (.cells zCells 45))
              have hcur := hcur.alloc hcur.size (.cells zCells 45)
              generalize V3.alloc (.cells zCells 45) = V4 at *
              generalize V3.heap.size = P13 at *
              refine hK.out _ _ (HS _ hcur) (fun hHeld => ?_)
              clear hK K
              (try simp only [Act.put]); (try simp only [List.setIfInBounds_toArray]); (try simp only [List.set_cons_succ]); (try simp only [List.set_cons_zero])
              have hne13 : P14 ≠ P13 := by first | exact hne | exact Ne.symm hne
              have fD := (SB.zero z13).put sd aD 6 cD
              have fz := (put10_block (w := V4) (B := P13) (s := sd) (a := aD) (n := 6) (c := cD) hne13).trans z14
              have hcur := put10_below (s := sd) (a := aD) (n := 6) (c := cD) hcur g13
              have fD2 := fD.other (Ne.symm hne13) sf aF 6 cF
              have fF := (SB.zero fz).put sf aF 6 cF
              have hcur2 := put10_below (s := sf) (a := aF) (n := 6) (c := cF) hcur g14
              obtain ⟨m0, m1, m2, m3, m4, m5, m6, m7, m8, m9⟩ := SCells.of (r := fun _ => 0) z13
              have mf := cells_frozen z13
              obtain ⟨k0, k1, k2, k3, k4, k5, k6, k7, k8, k9⟩ := SCells.of (r := fun _ => 0) fz
              have kf := cells_frozen fz
              have hS1 := HS _ hcur
              have hS2 := HS _ hcur2
              clear fD fz
              dsimp only [put10] at *
              refine wpAnyH_ready (rs := [8]) (by kernel_rfl) (by simp) ?_
              refine AllReadyH.cons (o := { dst := none, op := _, type := _, pos := _, after := _, guard := _ }) rfl (fun K hK => ?_) AllReadyH.nil
              go_simp
              refine hK.out _ _ hS1 (fun hHeld => ?_)
              clear hK K
              (try simp only [Act.put]); (try simp only [List.setIfInBounds_toArray]); (try simp only [List.set_cons_succ]); (try simp only [List.set_cons_zero])
              refine wpAnyH_ready (rs := [9]) (by kernel_rfl) (by simp) ?_
              refine AllReadyH.cons (o := { dst := none, op := _, type := _, pos := _, after := _, guard := _ }) rfl (fun K hK => ?_) AllReadyH.nil
              go_simp
              refine hK.out _ _ hS2 (fun hHeld => ?_)
              clear hK K
              (try simp only [Act.put]); (try simp only [List.setIfInBounds_toArray]); (try simp only [List.set_cons_succ]); (try simp only [List.set_cons_zero])
              refine wpAnyH_done (by kernel_rfl) ?_ _
              go_wp2
              go_meet
              exact ⟨P13, P14, aD, cD, aF, cF, rfl, rfl, fD2, fF, hcur2⟩
        · go_simp
          have z13 := heap_alloc_new V1 (.cells zCells 45)
          have g13 : W5.heap.size ≤ V1.heap.size := hcur.size
          have hcur := hcur.alloc hcur.size (.cells zCells 45)
          generalize V1.alloc (.cells zCells 45) = V2 at *
          generalize V1.heap.size = P13 at *
          refine hK.out _ _ (HS _ hcur) (fun hHeld => ?_)
          clear hK K
          (try simp only [Act.put]); (try simp only [List.setIfInBounds_toArray]); (try simp only [List.set_cons_succ]); (try simp only [List.set_cons_zero])
          refine wpAnyH_ready (rs := [5, 7]) (by kernel_rfl) (by simp) ?_
          refine AllReadyH.cons (o := { dst := some 99, op := _, type := _, pos := _, after := _, guard := _ }) rfl (fun K hK => ?_) (AllReadyH.cons (o := { dst := some 14, op := _, type := _, pos := _, after := _, guard := _ }) rfl (fun K hK => ?_) AllReadyH.nil)
          · go_simp
            with_reducible refine (hFl _ hcur).mono ?_
            rintro e V3 ⟨aF, cF, rfl, bq⟩
            try dsimp only
            have hcur := past hcur bq
            have z13 := cells_of z13 bq
            refine hK.out _ _ (HS _ hcur) (fun hHeld => ?_)
            clear hK K
            (try simp only [Act.put]); (try simp only [List.setIfInBounds_toArray]); (try simp only [List.set_cons_succ]); (try simp only [List.set_cons_zero])
            refine wpAnyH_ready (rs := [7]) (by kernel_rfl) (by simp) ?_
            refine AllReadyH.cons (o := { dst := some 14, op := _, type := _, pos := _, after := _, guard := _ }) rfl (fun K hK => ?_) AllReadyH.nil
            · go_simp
              have z14 := heap_alloc_new V3 (.cells zCells 45)
              have g14 : W5.heap.size ≤ V3.heap.size := hcur.size
              have hne : P13 ≠ V3.heap.size := by have := lt_of_block z13; omega
              have z13 := cells_of z13 ((Below.refl _ V3).alloc (Nat.le_refl _) (.cells zCells 45))
              have hcur := hcur.alloc hcur.size (.cells zCells 45)
              generalize V3.alloc (.cells zCells 45) = V4 at *
              generalize V3.heap.size = P14 at *
              refine hK.out _ _ (HS _ hcur) (fun hHeld => ?_)
              clear hK K
              (try simp only [Act.put]); (try simp only [List.setIfInBounds_toArray]); (try simp only [List.set_cons_succ]); (try simp only [List.set_cons_zero])
              have hne13 : P14 ≠ P13 := by first | exact hne | exact Ne.symm hne
              have fD := (SB.zero z13).put sd aD 6 cD
              have fz := (put10_block (w := V4) (B := P13) (s := sd) (a := aD) (n := 6) (c := cD) hne13).trans z14
              have hcur := put10_below (s := sd) (a := aD) (n := 6) (c := cD) hcur g13
              have fD2 := fD.other (Ne.symm hne13) sf aF 6 cF
              have fF := (SB.zero fz).put sf aF 6 cF
              have hcur2 := put10_below (s := sf) (a := aF) (n := 6) (c := cF) hcur g14
              obtain ⟨m0, m1, m2, m3, m4, m5, m6, m7, m8, m9⟩ := SCells.of (r := fun _ => 0) z13
              have mf := cells_frozen z13
              obtain ⟨k0, k1, k2, k3, k4, k5, k6, k7, k8, k9⟩ := SCells.of (r := fun _ => 0) fz
              have kf := cells_frozen fz
              have hS1 := HS _ hcur
              have hS2 := HS _ hcur2
              clear fD fz
              dsimp only [put10] at *
              refine wpAnyH_ready (rs := [8]) (by kernel_rfl) (by simp) ?_
              refine AllReadyH.cons (o := { dst := none, op := _, type := _, pos := _, after := _, guard := _ }) rfl (fun K hK => ?_) AllReadyH.nil
              go_simp
              refine hK.out _ _ hS1 (fun hHeld => ?_)
              clear hK K
              (try simp only [Act.put]); (try simp only [List.setIfInBounds_toArray]); (try simp only [List.set_cons_succ]); (try simp only [List.set_cons_zero])
              refine wpAnyH_ready (rs := [9]) (by kernel_rfl) (by simp) ?_
              refine AllReadyH.cons (o := { dst := none, op := _, type := _, pos := _, after := _, guard := _ }) rfl (fun K hK => ?_) AllReadyH.nil
              go_simp
              refine hK.out _ _ hS2 (fun hHeld => ?_)
              clear hK K
              (try simp only [Act.put]); (try simp only [List.setIfInBounds_toArray]); (try simp only [List.set_cons_succ]); (try simp only [List.set_cons_zero])
              refine wpAnyH_done (by kernel_rfl) ?_ _
              go_wp2
              go_meet
              exact ⟨P13, P14, aD, cD, aF, cF, rfl, rfl, fD2, fF, hcur2⟩
          · go_simp
            have z14 := heap_alloc_new V2 (.cells zCells 45)
            have g14 : W5.heap.size ≤ V2.heap.size := hcur.size
            have hne : P13 ≠ V2.heap.size := by have := lt_of_block z13; omega
            have z13 := cells_of z13 ((Below.refl _ V2).alloc (Nat.le_refl _) (.cells zCells 45))
            have hcur := hcur.alloc hcur.size (.cells zCells 45)
            generalize V2.alloc (.cells zCells 45) = V3 at *
            generalize V2.heap.size = P14 at *
            refine hK.out _ _ (HS _ hcur) (fun hHeld => ?_)
            clear hK K
            (try simp only [Act.put]); (try simp only [List.setIfInBounds_toArray]); (try simp only [List.set_cons_succ]); (try simp only [List.set_cons_zero])
            refine wpAnyH_ready (rs := [5]) (by kernel_rfl) (by simp) ?_
            refine AllReadyH.cons (o := { dst := some 99, op := _, type := _, pos := _, after := _, guard := _ }) rfl (fun K hK => ?_) AllReadyH.nil
            · go_simp
              with_reducible refine (hFl _ hcur).mono ?_
              rintro e V4 ⟨aF, cF, rfl, bq⟩
              try dsimp only
              have hcur := past hcur bq
              have z13 := cells_of z13 bq
              have z14 := cells_of z14 bq
              refine hK.out _ _ (HS _ hcur) (fun hHeld => ?_)
              clear hK K
              (try simp only [Act.put]); (try simp only [List.setIfInBounds_toArray]); (try simp only [List.set_cons_succ]); (try simp only [List.set_cons_zero])
              have hne13 : P14 ≠ P13 := by first | exact hne | exact Ne.symm hne
              have fD := (SB.zero z13).put sd aD 6 cD
              have fz := (put10_block (w := V4) (B := P13) (s := sd) (a := aD) (n := 6) (c := cD) hne13).trans z14
              have hcur := put10_below (s := sd) (a := aD) (n := 6) (c := cD) hcur g13
              have fD2 := fD.other (Ne.symm hne13) sf aF 6 cF
              have fF := (SB.zero fz).put sf aF 6 cF
              have hcur2 := put10_below (s := sf) (a := aF) (n := 6) (c := cF) hcur g14
              obtain ⟨m0, m1, m2, m3, m4, m5, m6, m7, m8, m9⟩ := SCells.of (r := fun _ => 0) z13
              have mf := cells_frozen z13
              obtain ⟨k0, k1, k2, k3, k4, k5, k6, k7, k8, k9⟩ := SCells.of (r := fun _ => 0) fz
              have kf := cells_frozen fz
              have hS1 := HS _ hcur
              have hS2 := HS _ hcur2
              clear fD fz
              dsimp only [put10] at *
              refine wpAnyH_ready (rs := [8]) (by kernel_rfl) (by simp) ?_
              refine AllReadyH.cons (o := { dst := none, op := _, type := _, pos := _, after := _, guard := _ }) rfl (fun K hK => ?_) AllReadyH.nil
              go_simp
              refine hK.out _ _ hS1 (fun hHeld => ?_)
              clear hK K
              (try simp only [Act.put]); (try simp only [List.setIfInBounds_toArray]); (try simp only [List.set_cons_succ]); (try simp only [List.set_cons_zero])
              refine wpAnyH_ready (rs := [9]) (by kernel_rfl) (by simp) ?_
              refine AllReadyH.cons (o := { dst := none, op := _, type := _, pos := _, after := _, guard := _ }) rfl (fun K hK => ?_) AllReadyH.nil
              go_simp
              refine hK.out _ _ hS2 (fun hHeld => ?_)
              clear hK K
              (try simp only [Act.put]); (try simp only [List.setIfInBounds_toArray]); (try simp only [List.set_cons_succ]); (try simp only [List.set_cons_zero])
              refine wpAnyH_done (by kernel_rfl) ?_ _
              go_wp2
              go_meet
              exact ⟨P13, P14, aD, cD, aF, cF, rfl, rfl, fD2, fF, hcur2⟩
        · go_simp
          have z14 := heap_alloc_new V1 (.cells zCells 45)
          have g14 : W5.heap.size ≤ V1.heap.size := hcur.size
          have hcur := hcur.alloc hcur.size (.cells zCells 45)
          generalize V1.alloc (.cells zCells 45) = V2 at *
          generalize V1.heap.size = P14 at *
          refine hK.out _ _ (HS _ hcur) (fun hHeld => ?_)
          clear hK K
          (try simp only [Act.put]); (try simp only [List.setIfInBounds_toArray]); (try simp only [List.set_cons_succ]); (try simp only [List.set_cons_zero])
          refine wpAnyH_ready (rs := [5, 6]) (by kernel_rfl) (by simp) ?_
          refine AllReadyH.cons (o := { dst := some 99, op := _, type := _, pos := _, after := _, guard := _ }) rfl (fun K hK => ?_) (AllReadyH.cons (o := { dst := some 13, op := _, type := _, pos := _, after := _, guard := _ }) rfl (fun K hK => ?_) AllReadyH.nil)
          · go_simp
            with_reducible refine (hFl _ hcur).mono ?_
            rintro e V3 ⟨aF, cF, rfl, bq⟩
            try dsimp only
            have hcur := past hcur bq
            have z14 := cells_of z14 bq
            refine hK.out _ _ (HS _ hcur) (fun hHeld => ?_)
            clear hK K
            (try simp only [Act.put]); (try simp only [List.setIfInBounds_toArray]); (try simp only [List.set_cons_succ]); (try simp only [List.set_cons_zero])
            refine wpAnyH_ready (rs := [6]) (by kernel_rfl) (by simp) ?_
            refine AllReadyH.cons (o := { dst := some 13, op := _, type := _, pos := _, after := _, guard := _ }) rfl (fun K hK => ?_) AllReadyH.nil
            · go_simp
              have z13 := heap_alloc_new V3 (.cells zCells 45)
              have g13 : W5.heap.size ≤ V3.heap.size := hcur.size
              have hne : P14 ≠ V3.heap.size := by have := lt_of_block z14; omega
              have z14 := cells_of z14 ((Below.refl _ V3).alloc (Nat.le_refl _) (.cells zCells 45))
              have hcur := hcur.alloc hcur.size (.cells zCells 45)
              generalize V3.alloc (.cells zCells 45) = V4 at *
              generalize V3.heap.size = P13 at *
              refine hK.out _ _ (HS _ hcur) (fun hHeld => ?_)
              clear hK K
              (try simp only [Act.put]); (try simp only [List.setIfInBounds_toArray]); (try simp only [List.set_cons_succ]); (try simp only [List.set_cons_zero])
              have hne13 : P14 ≠ P13 := by first | exact hne | exact Ne.symm hne
              have fD := (SB.zero z13).put sd aD 6 cD
              have fz := (put10_block (w := V4) (B := P13) (s := sd) (a := aD) (n := 6) (c := cD) hne13).trans z14
              have hcur := put10_below (s := sd) (a := aD) (n := 6) (c := cD) hcur g13
              have fD2 := fD.other (Ne.symm hne13) sf aF 6 cF
              have fF := (SB.zero fz).put sf aF 6 cF
              have hcur2 := put10_below (s := sf) (a := aF) (n := 6) (c := cF) hcur g14
              obtain ⟨m0, m1, m2, m3, m4, m5, m6, m7, m8, m9⟩ := SCells.of (r := fun _ => 0) z13
              have mf := cells_frozen z13
              obtain ⟨k0, k1, k2, k3, k4, k5, k6, k7, k8, k9⟩ := SCells.of (r := fun _ => 0) fz
              have kf := cells_frozen fz
              have hS1 := HS _ hcur
              have hS2 := HS _ hcur2
              clear fD fz
              dsimp only [put10] at *
              refine wpAnyH_ready (rs := [8]) (by kernel_rfl) (by simp) ?_
              refine AllReadyH.cons (o := { dst := none, op := _, type := _, pos := _, after := _, guard := _ }) rfl (fun K hK => ?_) AllReadyH.nil
              go_simp
              refine hK.out _ _ hS1 (fun hHeld => ?_)
              clear hK K
              (try simp only [Act.put]); (try simp only [List.setIfInBounds_toArray]); (try simp only [List.set_cons_succ]); (try simp only [List.set_cons_zero])
              refine wpAnyH_ready (rs := [9]) (by kernel_rfl) (by simp) ?_
              refine AllReadyH.cons (o := { dst := none, op := _, type := _, pos := _, after := _, guard := _ }) rfl (fun K hK => ?_) AllReadyH.nil
              go_simp
              refine hK.out _ _ hS2 (fun hHeld => ?_)
              clear hK K
              (try simp only [Act.put]); (try simp only [List.setIfInBounds_toArray]); (try simp only [List.set_cons_succ]); (try simp only [List.set_cons_zero])
              refine wpAnyH_done (by kernel_rfl) ?_ _
              go_wp2
              go_meet
              exact ⟨P13, P14, aD, cD, aF, cF, rfl, rfl, fD2, fF, hcur2⟩
          · go_simp
            have z13 := heap_alloc_new V2 (.cells zCells 45)
            have g13 : W5.heap.size ≤ V2.heap.size := hcur.size
            have hne : P14 ≠ V2.heap.size := by have := lt_of_block z14; omega
            have z14 := cells_of z14 ((Below.refl _ V2).alloc (Nat.le_refl _) (.cells zCells 45))
            have hcur := hcur.alloc hcur.size (.cells zCells 45)
            generalize V2.alloc (.cells zCells 45) = V3 at *
            generalize V2.heap.size = P13 at *
            refine hK.out _ _ (HS _ hcur) (fun hHeld => ?_)
            clear hK K
            (try simp only [Act.put]); (try simp only [List.setIfInBounds_toArray]); (try simp only [List.set_cons_succ]); (try simp only [List.set_cons_zero])
            refine wpAnyH_ready (rs := [5]) (by kernel_rfl) (by simp) ?_
            refine AllReadyH.cons (o := { dst := some 99, op := _, type := _, pos := _, after := _, guard := _ }) rfl (fun K hK => ?_) AllReadyH.nil
            · go_simp
              with_reducible refine (hFl _ hcur).mono ?_
              rintro e V4 ⟨aF, cF, rfl, bq⟩
              try dsimp only
              have hcur := past hcur bq
              have z13 := cells_of z13 bq
              have z14 := cells_of z14 bq
              refine hK.out _ _ (HS _ hcur) (fun hHeld => ?_)
              clear hK K
              (try simp only [Act.put]); (try simp only [List.setIfInBounds_toArray]); (try simp only [List.set_cons_succ]); (try simp only [List.set_cons_zero])
              have hne13 : P14 ≠ P13 := by first | exact hne | exact Ne.symm hne
              have fD := (SB.zero z13).put sd aD 6 cD
              have fz := (put10_block (w := V4) (B := P13) (s := sd) (a := aD) (n := 6) (c := cD) hne13).trans z14
              have hcur := put10_below (s := sd) (a := aD) (n := 6) (c := cD) hcur g13
              have fD2 := fD.other (Ne.symm hne13) sf aF 6 cF
              have fF := (SB.zero fz).put sf aF 6 cF
              have hcur2 := put10_below (s := sf) (a := aF) (n := 6) (c := cF) hcur g14
              obtain ⟨m0, m1, m2, m3, m4, m5, m6, m7, m8, m9⟩ := SCells.of (r := fun _ => 0) z13
              have mf := cells_frozen z13
              obtain ⟨k0, k1, k2, k3, k4, k5, k6, k7, k8, k9⟩ := SCells.of (r := fun _ => 0) fz
              have kf := cells_frozen fz
              have hS1 := HS _ hcur
              have hS2 := HS _ hcur2
              clear fD fz
              dsimp only [put10] at *
              refine wpAnyH_ready (rs := [8]) (by kernel_rfl) (by simp) ?_
              refine AllReadyH.cons (o := { dst := none, op := _, type := _, pos := _, after := _, guard := _ }) rfl (fun K hK => ?_) AllReadyH.nil
              go_simp
              refine hK.out _ _ hS1 (fun hHeld => ?_)
              clear hK K
              (try simp only [Act.put]); (try simp only [List.setIfInBounds_toArray]); (try simp only [List.set_cons_succ]); (try simp only [List.set_cons_zero])
              refine wpAnyH_ready (rs := [9]) (by kernel_rfl) (by simp) ?_
              refine AllReadyH.cons (o := { dst := none, op := _, type := _, pos := _, after := _, guard := _ }) rfl (fun K hK => ?_) AllReadyH.nil
              go_simp
              refine hK.out _ _ hS2 (fun hHeld => ?_)
              clear hK K
              (try simp only [Act.put]); (try simp only [List.setIfInBounds_toArray]); (try simp only [List.set_cons_succ]); (try simp only [List.set_cons_zero])
              refine wpAnyH_done (by kernel_rfl) ?_ _
              go_wp2
              go_meet
              exact ⟨P13, P14, aD, cD, aF, cF, rfl, rfl, fD2, fF, hcur2⟩
      · go_simp
        have z13 := heap_alloc_new V0 (.cells zCells 45)
        have g13 : W5.heap.size ≤ V0.heap.size := hcur.size
        have hcur := hcur.alloc hcur.size (.cells zCells 45)
        generalize V0.alloc (.cells zCells 45) = V1 at *
        generalize V0.heap.size = P13 at *
        refine hK.out _ _ (HS _ hcur) (fun hHeld => ?_)
        clear hK K
        (try simp only [Act.put]); (try simp only [List.setIfInBounds_toArray]); (try simp only [List.set_cons_succ]); (try simp only [List.set_cons_zero])
        refine wpAnyH_ready (rs := [3, 7]) (by kernel_rfl) (by simp) ?_
        refine AllReadyH.cons (o := { dst := some 97, op := _, type := _, pos := _, after := _, guard := _ }) rfl (fun K hK => ?_) (AllReadyH.cons (o := { dst := some 14, op := _, type := _, pos := _, after := _, guard := _ }) rfl (fun K hK => ?_) AllReadyH.nil)
        · go_simp
          with_reducible refine (hDn _ hcur).mono ?_
          rintro e V2 ⟨aD, cD, rfl, bq⟩
          try dsimp only
          have hcur := past hcur bq
          have z13 := cells_of z13 bq
          refine hK.out _ _ (HS _ hcur) (fun hHeld => ?_)
          clear hK K
          (try simp only [Act.put]); (try simp only [List.setIfInBounds_toArray]); (try simp only [List.set_cons_succ]); (try simp only [List.set_cons_zero])
          refine wpAnyH_ready (rs := [5, 7]) (by kernel_rfl) (by simp) ?_
          refine AllReadyH.cons (o := { dst := some 99, op := _, type := _, pos := _, after := _, guard := _ }) rfl (fun K hK => ?_) (AllReadyH.cons (o := { dst := some 14, op := _, type := _, pos := _, after := _, guard := _ }) rfl (fun K hK => ?_) AllReadyH.nil)
          · go_simp
            with_reducible refine (hFl _ hcur).mono ?_
            rintro e V3 ⟨aF, cF, rfl, bq⟩
            try dsimp only
            have hcur := past hcur bq
            have z13 := cells_of z13 bq
            refine hK.out _ _ (HS _ hcur) (fun hHeld => ?_)
            clear hK K
            (try simp only [Act.put]); (try simp only [List.setIfInBounds_toArray]); (try simp only [List.set_cons_succ]); (try simp only [List.set_cons_zero])
            refine wpAnyH_ready (rs := [7]) (by kernel_rfl) (by simp) ?_
            refine AllReadyH.cons (o := { dst := some 14, op := _, type := _, pos := _, after := _, guard := _ }) rfl (fun K hK => ?_) AllReadyH.nil
            · go_simp
              have z14 := heap_alloc_new V3 (.cells zCells 45)
              have g14 : W5.heap.size ≤ V3.heap.size := hcur.size
              have hne : P13 ≠ V3.heap.size := by have := lt_of_block z13; omega
              have z13 := cells_of z13 ((Below.refl _ V3).alloc (Nat.le_refl _) (.cells zCells 45))
              have hcur := hcur.alloc hcur.size (.cells zCells 45)
              generalize V3.alloc (.cells zCells 45) = V4 at *
              generalize V3.heap.size = P14 at *
              refine hK.out _ _ (HS _ hcur) (fun hHeld => ?_)
              clear hK K
              (try simp only [Act.put]); (try simp only [List.setIfInBounds_toArray]); (try simp only [List.set_cons_succ]); (try simp only [List.set_cons_zero])
              have hne13 : P14 ≠ P13 := by first | exact hne | exact Ne.symm hne
              have fD := (SB.zero z13).put sd aD 6 cD
              have fz := (put10_block (w := V4) (B := P13) (s := sd) (a := aD) (n := 6) (c := cD) hne13).trans z14
              have hcur := put10_below (s := sd) (a := aD) (n := 6) (c := cD) hcur g13
              have fD2 := fD.other (Ne.symm hne13) sf aF 6 cF
              have fF := (SB.zero fz).put sf aF 6 cF
              have hcur2 := put10_below (s := sf) (a := aF) (n := 6) (c := cF) hcur g14
              obtain ⟨m0, m1, m2, m3, m4, m5, m6, m7, m8, m9⟩ := SCells.of (r := fun _ => 0) z13
              have mf := cells_frozen z13
              obtain ⟨k0, k1, k2, k3, k4, k5, k6, k7, k8, k9⟩ := SCells.of (r := fun _ => 0) fz
              have kf := cells_frozen fz
              have hS1 := HS _ hcur
              have hS2 := HS _ hcur2
              clear fD fz
              dsimp only [put10] at *
              refine wpAnyH_ready (rs := [8]) (by kernel_rfl) (by simp) ?_
              refine AllReadyH.cons (o := { dst := none, op := _, type := _, pos := _, after := _, guard := _ }) rfl (fun K hK => ?_) AllReadyH.nil
              go_simp
              refine hK.out _ _ hS1 (fun hHeld => ?_)
              clear hK K
              (try simp only [Act.put]); (try simp only [List.setIfInBounds_toArray]); (try simp only [List.set_cons_succ]); (try simp only [List.set_cons_zero])
              refine wpAnyH_ready (rs := [9]) (by kernel_rfl) (by simp) ?_
              refine AllReadyH.cons (o := { dst := none, op := _, type := _, pos := _, after := _, guard := _ }) rfl (fun K hK => ?_) AllReadyH.nil
              go_simp
              refine hK.out _ _ hS2 (fun hHeld => ?_)
              clear hK K
              (try simp only [Act.put]); (try simp only [List.setIfInBounds_toArray]); (try simp only [List.set_cons_succ]); (try simp only [List.set_cons_zero])
              refine wpAnyH_done (by kernel_rfl) ?_ _
              go_wp2
              go_meet
              exact ⟨P13, P14, aD, cD, aF, cF, rfl, rfl, fD2, fF, hcur2⟩
          · go_simp
            have z14 := heap_alloc_new V2 (.cells zCells 45)
            have g14 : W5.heap.size ≤ V2.heap.size := hcur.size
            have hne : P13 ≠ V2.heap.size := by have := lt_of_block z13; omega
            have z13 := cells_of z13 ((Below.refl _ V2).alloc (Nat.le_refl _) (.cells zCells 45))
            have hcur := hcur.alloc hcur.size (.cells zCells 45)
            generalize V2.alloc (.cells zCells 45) = V3 at *
            generalize V2.heap.size = P14 at *
            refine hK.out _ _ (HS _ hcur) (fun hHeld => ?_)
            clear hK K
            (try simp only [Act.put]); (try simp only [List.setIfInBounds_toArray]); (try simp only [List.set_cons_succ]); (try simp only [List.set_cons_zero])
            refine wpAnyH_ready (rs := [5]) (by kernel_rfl) (by simp) ?_
            refine AllReadyH.cons (o := { dst := some 99, op := _, type := _, pos := _, after := _, guard := _ }) rfl (fun K hK => ?_) AllReadyH.nil
            · go_simp
              with_reducible refine (hFl _ hcur).mono ?_
              rintro e V4 ⟨aF, cF, rfl, bq⟩
              try dsimp only
              have hcur := past hcur bq
              have z13 := cells_of z13 bq
              have z14 := cells_of z14 bq
              refine hK.out _ _ (HS _ hcur) (fun hHeld => ?_)
              clear hK K
              (try simp only [Act.put]); (try simp only [List.setIfInBounds_toArray]); (try simp only [List.set_cons_succ]); (try simp only [List.set_cons_zero])
              have hne13 : P14 ≠ P13 := by first | exact hne | exact Ne.symm hne
              have fD := (SB.zero z13).put sd aD 6 cD
              have fz := (put10_block (w := V4) (B := P13) (s := sd) (a := aD) (n := 6) (c := cD) hne13).trans z14
              have hcur := put10_below (s := sd) (a := aD) (n := 6) (c := cD) hcur g13
              have fD2 := fD.other (Ne.symm hne13) sf aF 6 cF
              have fF := (SB.zero fz).put sf aF 6 cF
              have hcur2 := put10_below (s := sf) (a := aF) (n := 6) (c := cF) hcur g14
              obtain ⟨m0, m1, m2, m3, m4, m5, m6, m7, m8, m9⟩ := SCells.of (r := fun _ => 0) z13
              have mf := cells_frozen z13
              obtain ⟨k0, k1, k2, k3, k4, k5, k6, k7, k8, k9⟩ := SCells.of (r := fun _ => 0) fz
              have kf := cells_frozen fz
              have hS1 := HS _ hcur
              have hS2 := HS _ hcur2
              clear fD fz
              dsimp only [put10] at *
              refine wpAnyH_ready (rs := [8]) (by kernel_rfl) (by simp) ?_
              refine AllReadyH.cons (o := { dst := none, op := _, type := _, pos := _, after := _, guard := _ }) rfl (fun K hK => ?_) AllReadyH.nil
              go_simp
              refine hK.out _ _ hS1 (fun hHeld => ?_)
              clear hK K
              (try simp only [Act.put]); (try simp only [List.setIfInBounds_toArray]); (try simp only [List.set_cons_succ]); (try simp only [List.set_cons_zero])
              refine wpAnyH_ready (rs := [9]) (by kernel_rfl) (by simp) ?_
              refine AllReadyH.cons (o := { dst := none, op := _, type := _, pos := _, after := _, guard := _ }) rfl (fun K hK => ?_) AllReadyH.nil
              go_simp
              refine hK.out _ _ hS2 (fun hHeld => ?_)
              clear hK K
              (try simp only [Act.put]); (try simp only [List.setIfInBounds_toArray]); (try simp only [List.set_cons_succ]); (try simp only [List.set_cons_zero])
              refine wpAnyH_done (by kernel_rfl) ?_ _
              go_wp2
              go_meet
              exact ⟨P13, P14, aD, cD, aF, cF, rfl, rfl, fD2, fF, hcur2⟩
        · go_simp
          have z14 := heap_alloc_new V1 (.cells zCells 45)
          have g14 : W5.heap.size ≤ V1.heap.size := hcur.size
          have hne : P13 ≠ V1.heap.size := by have := lt_of_block z13; omega
          have z13 := cells_of z13 ((Below.refl _ V1).alloc (Nat.le_refl _) (.cells zCells 45))
          have hcur := hcur.alloc hcur.size (.cells zCells 45)
          generalize V1.alloc (.cells zCells 45) = V2 at *
          generalize V1.heap.size = P14 at *
          refine hK.out _ _ (HS _ hcur) (fun hHeld => ?_)
          clear hK K
          (try simp only [Act.put]); (try simp only [List.setIfInBounds_toArray]); (try simp only [List.set_cons_succ]); (try simp only [List.set_cons_zero])
          refine wpAnyH_ready (rs := [3]) (by kernel_rfl) (by simp) ?_
          refine AllReadyH.cons (o := { dst := some 97, op := _, type := _, pos := _, after := _, guard := _ }) rfl (fun K hK => ?_) AllReadyH.nil
          · go_simp
            with_reducible refine (hDn _ hcur).mono ?_
            rintro e V3 ⟨aD, cD, rfl, bq⟩
            try dsimp only
            have hcur := past hcur bq
            have z13 := cells_of z13 bq
            have z14 := cells_of z14 bq
            refine hK.out _ _ (HS _ hcur) (fun hHeld => ?_)
            clear hK K
            (try simp only [Act.put]); (try simp only [List.setIfInBounds_toArray]); (try simp only [List.set_cons_succ]); (try simp only [List.set_cons_zero])
            refine wpAnyH_ready (rs := [5]) (by kernel_rfl) (by simp) ?_
            refine AllReadyH.cons (o := { dst := some 99, op := _, type := _, pos := _, after := _, guard := _ }) rfl (fun K hK => ?_) AllReadyH.nil
            · go_simp
              with_reducible refine (hFl _ hcur).mono ?_
              rintro e V4 ⟨aF, cF, rfl, bq⟩
              try dsimp only
              have hcur := past hcur bq
              have z13 := cells_of z13 bq
              have z14 := cells_of z14 bq
              refine hK.out _ _ (HS _ hcur) (fun hHeld => ?_)
              clear hK K
              (try simp only [Act.put]); (try simp only [List.setIfInBounds_toArray]); (try simp only [List.set_cons_succ]); (try simp only [List.set_cons_zero])
              have hne13 : P14 ≠ P13 := by first | exact hne | exact Ne.symm hne
              have fD := (SB.zero z13).put sd aD 6 cD
              have fz := (put10_block (w := V4) (B := P13) (s := sd) (a := aD) (n := 6) (c := cD) hne13).trans z14
              have hcur := put10_below (s := sd) (a := aD) (n := 6) (c := cD) hcur g13
              have fD2 := fD.other (Ne.symm hne13) sf aF 6 cF
              have fF := (SB.zero fz).put sf aF 6 cF
              have hcur2 := put10_below (s := sf) (a := aF) (n := 6) (c := cF) hcur g14
              obtain ⟨m0, m1, m2, m3, m4, m5, m6, m7, m8, m9⟩ := SCells.of (r := fun _ => 0) z13
              have mf := cells_frozen z13
              obtain ⟨k0, k1, k2, k3, k4, k5, k6, k7, k8, k9⟩ := SCells.of (r := fun _ => 0) fz
              have kf := cells_frozen fz
              have hS1 := HS _ hcur
              have hS2 := HS _ hcur2
              clear fD fz
              dsimp only [put10] at *
              refine wpAnyH_ready (rs := [8]) (by kernel_rfl) (by simp) ?_
              refine AllReadyH.cons (o := { dst := none, op := _, type := _, pos := _, after := _, guard := _ }) rfl (fun K hK => ?_) AllReadyH.nil
              go_simp
              refine hK.out _ _ hS1 (fun hHeld => ?_)
              clear hK K
              (try simp only [Act.put]); (try simp only [List.setIfInBounds_toArray]); (try simp only [List.set_cons_succ]); (try simp only [List.set_cons_zero])
              refine wpAnyH_ready (rs := [9]) (by kernel_rfl) (by simp) ?_
              refine AllReadyH.cons (o := { dst := none, op := _, type := _, pos := _, after := _, guard := _ }) rfl (fun K hK => ?_) AllReadyH.nil
              go_simp
              refine hK.out _ _ hS2 (fun hHeld => ?_)
              clear hK K
              (try simp only [Act.put]); (try simp only [List.setIfInBounds_toArray]); (try simp only [List.set_cons_succ]); (try simp only [List.set_cons_zero])
              refine wpAnyH_done (by kernel_rfl) ?_ _
              go_wp2
              go_meet
              exact ⟨P13, P14, aD, cD, aF, cF, rfl, rfl, fD2, fF, hcur2⟩
      · go_simp
        have z14 := heap_alloc_new V0 (.cells zCells 45)
        have g14 : W5.heap.size ≤ V0.heap.size := hcur.size
        have hcur := hcur.alloc hcur.size (.cells zCells 45)
        generalize V0.alloc (.cells zCells 45) = V1 at *
        generalize V0.heap.size = P14 at *
        refine hK.out _ _ (HS _ hcur) (fun hHeld => ?_)
        clear hK K
        (try simp only [Act.put]); (try simp only [List.setIfInBounds_toArray]); (try simp only [List.set_cons_succ]); (try simp only [List.set_cons_zero])
        refine wpAnyH_ready (rs := [3, 6]) (by kernel_rfl) (by simp) ?_
        refine AllReadyH.cons (o := { dst := some 97, op := _, type := _, pos := _, after := _, guard := _ }) rfl (fun K hK => ?_) (AllReadyH.cons (o := { dst := some 13, op := _, type := _, pos := _, after := _, guard := _ }) rfl (fun K hK => ?_) AllReadyH.nil)
        · go_simp
          with_reducible refine (hDn _ hcur).mono ?_
          rintro e V2 ⟨aD, cD, rfl, bq⟩
          try dsimp only
          have hcur := past hcur bq
          have z14 := cells_of z14 bq
          refine hK.out _ _ (HS _ hcur) (fun hHeld => ?_)
          clear hK K
          (try simp only [Act.put]); (try simp only [List.setIfInBounds_toArray]); (try simp only [List.set_cons_succ]); (try simp only [List.set_cons_zero])
          refine wpAnyH_ready (rs := [5, 6]) (by kernel_rfl) (by simp) ?_
          refine AllReadyH.cons (o := { dst := some 99, op := _, type := _, pos := _, after := _, guard := _ }) rfl (fun K hK => ?_) (AllReadyH.cons (o := { dst := some 13, op := _, type := _, pos := _, after := _, guard := _ }) rfl (fun K hK => ?_) AllReadyH.nil)
          · go_simp
            with_reducible refine (hFl _ hcur).mono ?_
            rintro e V3 ⟨aF, cF, rfl, bq⟩
            try dsimp only
            have hcur := past hcur bq
            have z14 := cells_of z14 bq
            refine hK.out _ _ (HS _ hcur) (fun hHeld => ?_)
            clear hK K
            (try simp only [Act.put]); (try simp only [List.setIfInBounds_toArray]); (try simp only [List.set_cons_succ]); (try simp only [List.set_cons_zero])
            refine wpAnyH_ready (rs := [6]) (by kernel_rfl) (by simp) ?_
            refine AllReadyH.cons (o := { dst := some 13, op := _, type := _, pos := _, after := _, guard := _ }) rfl (fun K hK => ?_) AllReadyH.nil
            · go_simp
              have z13 := heap_alloc_new V3 (.cells zCells 45)
              have g13 : W5.heap.size ≤ V3.heap.size := hcur.size
              have hne : P14 ≠ V3.heap.size := by have := lt_of_block z14; omega
              have z14 := cells_of z14 ((Below.refl _ V3).alloc (Nat.le_refl _) (.cells zCells 45))
              have hcur := hcur.alloc hcur.size (.cells zCells 45)
              generalize V3.alloc (.cells zCells 45) = V4 at *
              generalize V3.heap.size = P13 at *
              refine hK.out _ _ (HS _ hcur) (fun hHeld => ?_)
              clear hK K
              (try simp only [Act.put]); (try simp only [List.setIfInBounds_toArray]); (try simp only [List.set_cons_succ]); (try simp only [List.set_cons_zero])
              have hne13 : P14 ≠ P13 := by first | exact hne | exact Ne.symm hne
              have fD := (SB.zero z13).put sd aD 6 cD
              have fz := (put10_block (w := V4) (B := P13) (s := sd) (a := aD) (n := 6) (c := cD) hne13).trans z14
              have hcur := put10_below (s := sd) (a := aD) (n := 6) (c := cD) hcur g13
              have fD2 := fD.other (Ne.symm hne13) sf aF 6 cF
              have fF := (SB.zero fz).put sf aF 6 cF
              have hcur2 := put10_below (s := sf) (a := aF) (n := 6) (c := cF) hcur g14
              obtain ⟨m0, m1, m2, m3, m4, m5, m6, m7, m8, m9⟩ := SCells.of (r := fun _ => 0) z13
              have mf := cells_frozen z13
              obtain ⟨k0, k1, k2, k3, k4, k5, k6, k7, k8, k9⟩ := SCells.of (r := fun _ => 0) fz
              have kf := cells_frozen fz
              have hS1 := HS _ hcur
              have hS2 := HS _ hcur2
              clear fD fz
              dsimp only [put10] at *
              refine wpAnyH_ready (rs := [8]) (by kernel_rfl) (by simp) ?_
              refine AllReadyH.cons (o := { dst := none, op := _, type := _, pos := _, after := _, guard := _ }) rfl (fun K hK => ?_) AllReadyH.nil
              go_simp
              refine hK.out _ _ hS1 (fun hHeld => ?_)
              clear hK K
              (try simp only [Act.put]); (try simp only [List.setIfInBounds_toArray]); (try simp only [List.set_cons_succ]); (try simp only [List.set_cons_zero])
              refine wpAnyH_ready (rs := [9]) (by kernel_rfl) (by simp) ?_
              refine AllReadyH.cons (o := { dst := none, op := _, type := _, pos := _, after := _, guard := _ }) rfl (fun K hK => ?_) AllReadyH.nil
              go_simp
              refine hK.out _ _ hS2 (fun hHeld => ?_)
              clear hK K
              (try simp only [Act.put]); (try simp only [List.setIfInBounds_toArray]); (try simp only [List.set_cons_succ]); (try simp only [List.set_cons_zero])
              refine wpAnyH_done (by kernel_rfl) ?_ _
              go_wp2
              go_meet
              exact ⟨P13, P14, aD, cD, aF, cF, rfl, rfl, fD2, fF, hcur2⟩
          · go_simp
            have z13 := heap_alloc_new V2 (.cells zCells 45)
            have g13 : W5.heap.size ≤ V2.heap.size := hcur.size
            have hne : P14 ≠ V2.heap.size := by have := lt_of_block z14; omega
            have z14 := cells_of z14 ((Below.refl _ V2).alloc (Nat.le_refl _) (.cells zCells 45))
            have hcur := hcur.alloc hcur.size (.cells zCells 45)
            generalize V2.alloc (.cells zCells 45) = V3 at *
            generalize V2.heap.size = P13 at *
            refine hK.out _ _ (HS _ hcur) (fun hHeld => ?_)
            clear hK K
            (try simp only [Act.put]); (try simp only [List.setIfInBounds_toArray]); (try simp only [List.set_cons_succ]); (try simp only [List.set_cons_zero])
            refine wpAnyH_ready (rs := [5]) (by kernel_rfl) (by simp) ?_
            refine AllReadyH.cons (o := { dst := some 99, op := _, type := _, pos := _, after := _, guard := _ }) rfl (fun K hK => ?_) AllReadyH.nil
            · go_simp
              with_reducible refine (hFl _ hcur).mono ?_
              rintro e V4 ⟨aF, cF, rfl, bq⟩
              try dsimp only
              have hcur := past hcur bq
              have z13 := cells_of z13 bq
              have z14 := cells_of z14 bq
              refine hK.out _ _ (HS _ hcur) (fun hHeld => ?_)
              clear hK K
              (try simp only [Act.put]); (try simp only [List.setIfInBounds_toArray]); (try simp only [List.set_cons_succ]); (try simp only [List.set_cons_zero])
              have hne13 : P14 ≠ P13 := by first | exact hne | exact Ne.symm hne
              have fD := (SB.zero z13).put sd aD 6 cD
              have fz := (put10_block (w := V4) (B := P13) (s := sd) (a := aD) (n := 6) (c := cD) hne13).trans z14
              have hcur := put10_below (s := sd) (a := aD) (n := 6) (c := cD) hcur g13
              have fD2 := fD.other (Ne.symm hne13) sf aF 6 cF
              have fF := (SB.zero fz).put sf aF 6 cF
              have hcur2 := put10_below (s := sf) (a := aF) (n := 6) (c := cF) hcur g14
              obtain ⟨m0, m1, m2, m3, m4, m5, m6, m7, m8, m9⟩ := SCells.of (r := fun _ => 0) z13
              have mf := cells_frozen z13
              obtain ⟨k0, k1, k2, k3, k4, k5, k6, k7, k8, k9⟩ := SCells.of (r := fun _ => 0) fz
              have kf := cells_frozen fz
              have hS1 := HS _ hcur
              have hS2 := HS _ hcur2
              clear fD fz
              dsimp only [put10] at *
              refine wpAnyH_ready (rs := [8]) (by kernel_rfl) (by simp) ?_
              refine AllReadyH.cons (o := { dst := none, op := _, type := _, pos := _, after := _, guard := _ }) rfl (fun K hK => ?_) AllReadyH.nil
              go_simp
              refine hK.out _ _ hS1 (fun hHeld => ?_)
              clear hK K
              (try simp only [Act.put]); (try simp only [List.setIfInBounds_toArray]); (try simp only [List.set_cons_succ]); (try simp only [List.set_cons_zero])
              refine wpAnyH_ready (rs := [9]) (by kernel_rfl) (by simp) ?_
              refine AllReadyH.cons (o := { dst := none, op := _, type := _, pos := _, after := _, guard := _ }) rfl (fun K hK => ?_) AllReadyH.nil
              go_simp
              refine hK.out _ _ hS2 (fun hHeld => ?_)
              clear hK K
              (try simp only [Act.put]); (try simp only [List.setIfInBounds_toArray]); (try simp only [List.set_cons_succ]); (try simp only [List.set_cons_zero])
              refine wpAnyH_done (by kernel_rfl) ?_ _
              go_wp2
              go_meet
              exact ⟨P13, P14, aD, cD, aF, cF, rfl, rfl, fD2, fF, hcur2⟩
        · go_simp
          have z13 := heap_alloc_new V1 (.cells zCells 45)
          have g13 : W5.heap.size ≤ V1.heap.size := hcur.size
          have hne : P14 ≠ V1.heap.size := by have := lt_of_block z14; omega
          have z14 := cells_of z14 ((Below.refl _ V1).alloc (Nat.le_refl _) (.cells zCells 45))
          have hcur := hcur.alloc hcur.size (.cells zCells 45)
          generalize V1.alloc (.cells zCells 45) = V2 at *
          generalize V1.heap.size = P13 at *
          refine hK.out _ _ (HS _ hcur) (fun hHeld => ?_)
          clear hK K
          (try simp only [Act.put]); (try simp only [List.setIfInBounds_toArray]); (try simp only [List.set_cons_succ]); (try simp only [List.set_cons_zero])
          refine wpAnyH_ready (rs := [3]) (by kernel_rfl) (by simp) ?_
          refine AllReadyH.cons (o := { dst := some 97, op := _, type := _, pos := _, after := _, guard := _ }) rfl (fun K hK => ?_) AllReadyH.nil
          · go_simp
            with_reducible refine (hDn _ hcur).mono ?_
            rintro e V3 ⟨aD, cD, rfl, bq⟩
            try dsimp only
            have hcur := past hcur bq
            have z13 := cells_of z13 bq
            have z14 := cells_of z14 bq
            refine hK.out _ _ (HS _ hcur) (fun hHeld => ?_)
            clear hK K
            (try simp only [Act.put]); (try simp only [List.setIfInBounds_toArray]); (try simp only [List.set_cons_succ]); (try simp only [List.set_cons_zero])
            refine wpAnyH_ready (rs := [5]) (by kernel_rfl) (by simp) ?_
            refine AllReadyH.cons (o := { dst := some 99, op := _, type := _, pos := _, after := _, guard := _ }) rfl (fun K hK => ?_) AllReadyH.nil
            · go_simp
              with_reducible refine (hFl _ hcur).mono ?_
              rintro e V4 ⟨aF, cF, rfl, bq⟩
              try dsimp only
              have hcur := past hcur bq
              have z13 := cells_of z13 bq
              have z14 := cells_of z14 bq
              refine hK.out _ _ (HS _ hcur) (fun hHeld => ?_)
              clear hK K
              (try simp only [Act.put]); (try simp only [List.setIfInBounds_toArray]); (try simp only [List.set_cons_succ]); (try simp only [List.set_cons_zero])
              have hne13 : P14 ≠ P13 := by first | exact hne | exact Ne.symm hne
              have fD := (SB.zero z13).put sd aD 6 cD
              have fz := (put10_block (w := V4) (B := P13) (s := sd) (a := aD) (n := 6) (c := cD) hne13).trans z14
              have hcur := put10_below (s := sd) (a := aD) (n := 6) (c := cD) hcur g13
              have fD2 := fD.other (Ne.symm hne13) sf aF 6 cF
              have fF := (SB.zero fz).put sf aF 6 cF
              have hcur2 := put10_below (s := sf) (a := aF) (n := 6) (c := cF) hcur g14
              obtain ⟨m0, m1, m2, m3, m4, m5, m6, m7, m8, m9⟩ := SCells.of (r := fun _ => 0) z13
              have mf := cells_frozen z13
              obtain ⟨k0, k1, k2, k3, k4, k5, k6, k7, k8, k9⟩ := SCells.of (r := fun _ => 0) fz
              have kf := cells_frozen fz
              have hS1 := HS _ hcur
              have hS2 := HS _ hcur2
              clear fD fz
              dsimp only [put10] at *
              refine wpAnyH_ready (rs := [8]) (by kernel_rfl) (by simp) ?_
              refine AllReadyH.cons (o := { dst := none, op := _, type := _, pos := _, after := _, guard := _ }) rfl (fun K hK => ?_) AllReadyH.nil
              go_simp
              refine hK.out _ _ hS1 (fun hHeld => ?_)
              clear hK K
              (try simp only [Act.put]); (try simp only [List.setIfInBounds_toArray]); (try simp only [List.set_cons_succ]); (try simp only [List.set_cons_zero])
              refine wpAnyH_ready (rs := [9]) (by kernel_rfl) (by simp) ?_
              refine AllReadyH.cons (o := { dst := none, op := _, type := _, pos := _, after := _, guard := _ }) rfl (fun K hK => ?_) AllReadyH.nil
              go_simp
              refine hK.out _ _ hS2 (fun hHeld => ?_)
              clear hK K
              (try simp only [Act.put]); (try simp only [List.setIfInBounds_toArray]); (try simp only [List.set_cons_succ]); (try simp only [List.set_cons_zero])
              refine wpAnyH_done (by kernel_rfl) ?_ _
              go_wp2
              go_meet
              exact ⟨P13, P14, aD, cD, aF, cF, rfl, rfl, fD2, fF, hcur2⟩
    case rest =>
      obtain ⟨P13, P14, aD, cD, aF, cF, rfl, rfl, hSd, hSf, bc⟩ := hcut
      have hI6 := hI5.later bc
      have hSB6 := hSB5.later bc
      have hB6 := past hB5 bc
      clear hI5 hSB5 hX5 hB5 HS hDn hFl hcur bc
      have c5 : Hid ((doneP 6 (formE m) ⟨7, 0, 0, 1⟩ v).r 0 = v) := rfl
      have w5' : Hid ((∀ j, (doneP 6 (formE m) ⟨4, 5, 0, 0⟩ v).r j = (formE m).r j) ∧ (doneP 6 (formE m) ⟨4, 5, 0, 0⟩ v).pc = 0) := ⟨fun j => rfl, rfl⟩
      have hDc : ∀ wx, IsL wx aS (formL m) → Calls Tryd.prog 21 #[.agg #[.int .u64 0, .int .u64 0, .int .u64 18446744073709551615, .int .u64 (2 * m), .int .u64 2, .int .u64 0, .int .u64 0, .int .u64 0, .slice aS 6 cap, .int .i64 5], .agg #[.int .i64 7, .int .i64 0, .int .i64 0, .int .i64 1], .int .u64 v] wx fun e w' => ∃ a' c', e = .returned (.agg #[.int .u64 ((doneP 6 (formE m) ⟨7, 0, 0, 1⟩ v).r 0), .int .u64 ((doneP 6 (formE m) ⟨7, 0, 0, 1⟩ v).r 1), .int .u64 ((doneP 6 (formE m) ⟨7, 0, 0, 1⟩ v).r 2), .int .u64 ((doneP 6 (formE m) ⟨7, 0, 0, 1⟩ v).r 3), .int .u64 ((doneP 6 (formE m) ⟨7, 0, 0, 1⟩ v).r 4), .int .u64 ((doneP 6 (formE m) ⟨7, 0, 0, 1⟩ v).r 5), .int .u64 ((doneP 6 (formE m) ⟨7, 0, 0, 1⟩ v).r 6), .int .u64 ((doneP 6 (formE m) ⟨7, 0, 0, 1⟩ v).r 7), .slice a' 6 c', .int .i64 (doneP 6 (formE m) ⟨7, 0, 0, 1⟩ v).pc]) ∧ Below wx.heap.size wx w' := fun wx hi => (done_some (n := 6) (c := cap) (w := wx) (s := formE m) ⟨7, 0, 0, 1⟩ v rfl rfl hi (by simp [formL]) (show (-9223372036854775808 : Int) ≤ 5 by decide)).mono fun e w' h => by
        obtain ⟨a', c', he, hi, hb⟩ := h
        exact ⟨a', c', he, hb⟩
      have hDw : ∀ wx, IsL wx aS (formL m) → Calls Tryd.prog 21 #[.agg #[.int .u64 0, .int .u64 0, .int .u64 18446744073709551615, .int .u64 (2 * m), .int .u64 2, .int .u64 0, .int .u64 0, .int .u64 0, .slice aS 6 cap, .int .i64 5], .agg #[.int .i64 4, .int .i64 5, .int .i64 0, .int .i64 0], .int .u64 v] wx fun e w' => ∃ a' c', e = .returned (.agg #[.int .u64 ((doneP 6 (formE m) ⟨4, 5, 0, 0⟩ v).r 0), .int .u64 ((doneP 6 (formE m) ⟨4, 5, 0, 0⟩ v).r 1), .int .u64 ((doneP 6 (formE m) ⟨4, 5, 0, 0⟩ v).r 2), .int .u64 ((doneP 6 (formE m) ⟨4, 5, 0, 0⟩ v).r 3), .int .u64 ((doneP 6 (formE m) ⟨4, 5, 0, 0⟩ v).r 4), .int .u64 ((doneP 6 (formE m) ⟨4, 5, 0, 0⟩ v).r 5), .int .u64 ((doneP 6 (formE m) ⟨4, 5, 0, 0⟩ v).r 6), .int .u64 ((doneP 6 (formE m) ⟨4, 5, 0, 0⟩ v).r 7), .slice a' 6 c', .int .i64 (doneP 6 (formE m) ⟨4, 5, 0, 0⟩ v).pc]) ∧ Below wx.heap.size wx w' := fun wx hi => (done_some (n := 6) (c := cap) (w := wx) (s := formE m) ⟨4, 5, 0, 0⟩ v rfl rfl hi (by simp [formL]) (show (-9223372036854775808 : Int) ≤ 5 by decide)).mono fun e w' h => by
        obtain ⟨a', c', he, hi, hb⟩ := h
        exact ⟨a', c', he, hb⟩
      generalize doneP 6 (formE m) ⟨7, 0, 0, 1⟩ v = sc at *
      generalize doneP 6 (formE m) ⟨4, 5, 0, 0⟩ v = sw at *
      obtain ⟨y0, y1, y2, y3, y4, y5, y6, y7, y8, y9⟩ := SCells.of hSB6
      simp only [formE, Nat.reduceEqDiff, if_true, if_false] at y0 y1 y2 y3 y4 y5 y6 y7 y8 y9
      go_upto_region 19 with (go_at_call 21; refine (hDc _ hI6).mono ?_; rintro e w6 ⟨ac, cc, rfl, b6⟩)
      have b6a := b6.alloc b6.size (.cells #[.int .u64 (sc.r 0), .int .u64 (sc.r 1), .int .u64 (sc.r 2), .int .u64 (sc.r 3), .int .u64 (sc.r 4), .int .u64 (sc.r 5), .int .u64 (sc.r 6), .int .u64 (sc.r 7), .slice ac 6 cc, .int .i64 sc.pc] 45)
      have hC7 : SB (w6.alloc (.cells #[.int .u64 (sc.r 0), .int .u64 (sc.r 1), .int .u64 (sc.r 2), .int .u64 (sc.r 3), .int .u64 (sc.r 4), .int .u64 (sc.r 5), .int .u64 (sc.r 6), .int .u64 (sc.r 7), .slice ac 6 cc, .int .i64 sc.pc] 45)) w6.heap.size sc ac 6 cc := heap_alloc_new w6 _
      have hSd7 := hSd.later b6a
      have hSf7 := hSf.later b6a
      have hI7 := hI6.later b6a
      have hSB7 := hSB6.later b6a
      have hB7 := past hB6 b6a
      clear y0 y1 y2 y3 y4 y5 y6 y7 y8 y9 hSd hSf hI6 hSB6 hB6 b6a b6 hDc
      generalize w6.alloc (.cells #[.int .u64 (sc.r 0), .int .u64 (sc.r 1), .int .u64 (sc.r 2), .int .u64 (sc.r 3), .int .u64 (sc.r 4), .int .u64 (sc.r 5), .int .u64 (sc.r 6), .int .u64 (sc.r 7), .slice ac 6 cc, .int .i64 sc.pc] 45) = W7 at *
      generalize w6.heap.size = Pc at *
      obtain ⟨y0, y1, y2, y3, y4, y5, y6, y7, y8, y9⟩ := SCells.of hSB7
      simp only [formE, Nat.reduceEqDiff, if_true, if_false] at y0 y1 y2 y3 y4 y5 y6 y7 y8 y9
      go_upto_region 20 with (go_at_call 21; refine (hDw _ hI7).mono ?_; rintro e w8 ⟨aw, cw, rfl, b8⟩)
      have b8a := b8.alloc b8.size (.cells #[.int .u64 (sw.r 0), .int .u64 (sw.r 1), .int .u64 (sw.r 2), .int .u64 (sw.r 3), .int .u64 (sw.r 4), .int .u64 (sw.r 5), .int .u64 (sw.r 6), .int .u64 (sw.r 7), .slice aw 6 cw, .int .i64 sw.pc] 45)
      have hW9 : SB (w8.alloc (.cells #[.int .u64 (sw.r 0), .int .u64 (sw.r 1), .int .u64 (sw.r 2), .int .u64 (sw.r 3), .int .u64 (sw.r 4), .int .u64 (sw.r 5), .int .u64 (sw.r 6), .int .u64 (sw.r 7), .slice aw 6 cw, .int .i64 sw.pc] 45)) w8.heap.size sw aw 6 cw := heap_alloc_new w8 _
      have hSd9 := SCells.of (hSd7.later b8a)
      have hSf9 := SCells.of (hSf7.later b8a)
      have hC9 := SCells.of (hC7.later b8a)
      have hSB9 := SCells.of (hSB7.later b8a)
      have hB9 := past hB7 b8a
      clear y0 y1 y2 y3 y4 y5 y6 y7 y8 y9 hSd7 hSf7 hI7 hSB7 hB7 b8a b8 hDw hC7
      generalize w8.alloc (.cells #[.int .u64 (sw.r 0), .int .u64 (sw.r 1), .int .u64 (sw.r 2), .int .u64 (sw.r 3), .int .u64 (sw.r 4), .int .u64 (sw.r 5), .int .u64 (sw.r 6), .int .u64 (sw.r 7), .slice aw 6 cw, .int .i64 sw.pc] 45) = W9 at *
      generalize w8.heap.size = Pw at *
      obtain ⟨y0, y1, y2, y3, y4, y5, y6, y7, y8, y9⟩ := hSB9
      have e5 := hSd9.c5
      have e9 := hSd9.c9
      rw [d5.out.1] at e5
      rw [d5.out.2] at e9
      have f7 := hSf9.c7
      have f5' := hSf9.c5
      have f9 := hSf9.c9
      rw [f5.out.1] at f7
      rw [f5.out.2.1] at f5'
      rw [f5.out.2.2] at f9
      have g0 := hC9.c0
      rw [c5.out] at g0
      obtain ⟨v0, v1, v2, v3, v4, v5, v6, v7, v8, v9⟩ := SCells.of hW9
      rw [w5'.out.1] at v0 v1 v2 v3 v4 v5 v6 v7
      rw [w5'.out.2] at v9
      clear hSd9 hSf9 hC9 hW9 d5 f5 c5 w5'
      simp only [formE, Nat.reduceEqDiff, if_true, if_false] at y0 y1 y2 y3 y4 y5 y6 y7 y8 y9 v0 v1 v2 v3 v4 v5 v6 v7
      have heq := eq8 0 0 18446744073709551615 (2 * m) 2 0 0 0
      go_wp2_with fail
      refine (wakes8 _ (hV.later hB9)).mono ?_
      rintro e wz ⟨rfl, bz⟩
      go_wp2_with fail
      go_ret
      exact ⟨rfl, past hB9 bz⟩
end Go.Proofs.YtdhamejgdapdjaaDoor
