/-
  The walk of CacheForms.
-/
import Derived.Test.YtjfdjlinjghddaaCacheG
import Derived.Test.YtjfdjlinjghddaaSlices
namespace Go.Proofs.Ytjfdjlinjghddaa
open Go.ChangeShapes Go.WideShapes Go.ChangeAt Go.RowKit

/-- What a literal lays. -/
theorem Ints.lit (w : World) (arr : Array Value) (n : Nat) (f : Nat → Int) (hn : n ≤ arr.size) (hc : ∀ i, i < n → arr[i]? = some (.int .i64 (f i))) : Ints (w.alloc (.cells arr 3)) (some ⟨w.heap.size, 0, Option.none⟩) n f :=
  Ints.of (rowHas_alloc w arr 3 n _ hn hc)
theorem Ints.part {w : World} {b n m : Nat} {f : Nat → Int} (h : rowHas w b 3 n (fun i => .int .i64 (f i))) (hm : m ≤ n) : Ints w (some ⟨b, 0, Option.none⟩) m f :=
  Or.inr ⟨b, 0, rfl, h.lt, fun i hi => by rw [Nat.zero_add]; exact h.cell (by omega)⟩

def cfL : List Int := [8, 16, 8, 24, 1]
def cfQ (k : Nat) : CQ := (cfL.take k).foldl (fun q x => q.touch 0 x) (CQ.fresh 2)
theorem cfQ_step (k : Nat) (h : k < 5) : cfQ (k + 1) = (cfQ k).touch 0 (cfL.getD k 0) := by
  have : k = 0 ∨ k = 1 ∨ k = 2 ∨ k = 3 ∨ k = 4 := by omega
  rcases this with rfl | rfl | rfl | rfl | rfl <;> rfl
def cf7 : CQ := ((cfQ 5).touch 1 32).touch 1 40
def cfA : List Int := [16, 24, 1, -1, -1, -1, -1, -1]
def cfB : List Int := [32, 40, -1, -1, -1, -1, -1, -1]
def cfS : List Int := [16, 24, 32, 40, 1, -1, -1, -1]
theorem cf_a : ∀ i, i < 8 → tg (cf7.F 0) 2 i = cfA.getD i 0 := by decide
theorem cf_b : ∀ i, i < 8 → tg (cf7.F 1) 2 i = cfB.getD i 0 := by decide
theorem cf_s : ∀ i, i < 8 → tg cf7.Sh 4 i = cfS.getD i 0 := by decide
theorem lit8 (a b c d e f g h : Int) : ∀ i, i < 8 → (#[.int .i64 a, .int .i64 b, .int .i64 c, .int .i64 d, .int .i64 e, .int .i64 f, .int .i64 g, .int .i64 h] : Array Value)[i]? = some (.int .i64 ([a, b, c, d, e, f, g, h].getD i 0)) := fun i hi => by
  have : i = 0 ∨ i = 1 ∨ i = 2 ∨ i = 3 ∨ i = 4 ∨ i = 5 ∨ i = 6 ∨ i = 7 := by omega
  rcases this with rfl | rfl | rfl | rfl | rfl | rfl | rfl | rfl <;> rfl
theorem isame_lit8 {w : World} {c n k k' : Nat} {F : Nat → Int} (a b x d e f g h : Int) (hA : rowHas w c 3 n (fun i => .int .i64 (F i))) (hn : 8 ≤ n) (he : ∀ i, i < 8 → F i = [a, b, x, d, e, f, g, h].getD i 0) :
    Calls Try.prog 13 #[.slice (some ⟨c, 0, none⟩) 8 k, .slice (some ⟨w.heap.size, 0, none⟩) 8 k'] (w.alloc (.cells #[.int .i64 a, .int .i64 b, .int .i64 x, .int .i64 d, .int .i64 e, .int .i64 f, .int .i64 g, .int .i64 h] 3)) fun e w' => e = .returned (.bool true) ∧ Touch Nil w w' :=
  (isame_yes (Ints.part (hA.alloc _) hn) (Ints.lit w _ 8 _ (by simp) (lit8 a b x d e f g h)) (by omega) he).mono fun _ _ ⟨h1, m, h2⟩ => ⟨h1, h2 ▸ ((Touch.refl Nil w).alloc _).drews m⟩

set_option maxRecDepth 10000 in
set_option maxHeartbeats 4000000 in
theorem cacheForms_walk (a0 : Int) (w : World) :
    Calls Try.prog 3 #[.int .i64 a0] w fun e w' => e = .returned (.bool true) ∧ Below w.heap.size w w' := by
  have m2 : CQ.fresh (CQ.many 2) = cfQ 0 := rfl
  have hm : ∀ (k : Nat) (x : Int), 0 ≤ x → k ≤ 5 → (cfQ k).may 0 x = true := fun k x hx hk => by
    have : k = 0 ∨ k = 1 ∨ k = 2 ∨ k = 3 ∨ k = 4 ∨ k = 5 := by omega
    rcases this with rfl | rfl | rfl | rfl | rfl | rfl <;> simp [CQ.may, CQ.hasC, hx] <;> decide
  go_enter Try.func3, Try.ntmps3
  go_wp2_with (go_at_call 9; refine (cnew_any _ _).mono ?_; rintro e w1 ⟨rfl, hC, hT⟩; rw [m2] at hC)
  have hL : rowHas (w1.alloc (.cells #[.int .i64 8, .int .i64 16, .int .i64 8, .int .i64 24, .int .i64 1] 3)) w1.heap.size 3 5 (fun i => .int .i64 (cfL.getD i 0)) := rowHas_alloc w1 _ _ 5 _ (by decide) (fun i hi => by
    have : i = 0 ∨ i = 1 ∨ i = 2 ∨ i = 3 ∨ i = 4 := by omega
    rcases this with rfl | rfl | rfl | rfl | rfl <;> rfl)
  have hC0 := hC.touch ((Touch.refl Nil w1).alloc (.cells #[.int .i64 8, .int .i64 16, .int .i64 8, .int .i64 24, .int .i64 1] 3)) (fun _ _ _ e => e)
  have hz0 : w1.heap.size ≤ (w1.alloc (.cells #[.int .i64 8, .int .i64 16, .int .i64 8, .int .i64 24, .int .i64 1] 3)).heap.size := by simp
  go_loopw [14] (fun i wr => ∃ k : Nat, k ≤ 5 ∧ i = .int .i64 k ∧ CAt wr (w.heap.size + 4) w.heap.size w1.heap.size (cfQ k) ∧ rowHas wr w1.heap.size 3 5 (fun i => .int .i64 (cfL.getD i 0)) ∧ Touch Nil w wr ∧ w1.heap.size ≤ wr.heap.size) (fun i _ => 5 - (intOf i).toNat)
  case atStart => exact ⟨0, by omega, rfl, hC0, hL, hT.alloc _, hz0⟩
  case round =>
    have hsz := hT.size
    clear hC hL hC0 hz0 hT
    obtain ⟨k, hk, rfl, hC, hL, hT, hz⟩ := hrel
    generalize w.heap.size + 4 = b at *
    generalize w1.heap.size = hi at *
    by_cases hlt : k < 5
    · have k1 : (k : Int) < 5 := by omega
      have q0 := hL.cell (i := k) hlt
      have hst : Hid ((cfQ k).touch 0 (cfL.getD k 0) = cfQ (k + 1)) := (cfQ_step k hlt).symm
      have hx : cfL.getD k 0 < 9223372036854775808 := by
        have : k = 0 ∨ k = 1 ∨ k = 2 ∨ k = 3 ∨ k = 4 := by omega
        rcases this with rfl | rfl | rfl | rfl | rfl <;> decide
      generalize cfL.getD k 0 = x at q0 hst hx
      go_wp2_with (go_at_call 10; refine (ctouch_any hC _ _ hx).mono ?_; rintro e w2 ⟨hx2, hC2, hT2⟩; subst hx2; rw [hst.out] at hC2)
      go_roundw
      case rel => exact ⟨k + 1, by omega, by go_num, hC2, hL.touch hT2 (by omega), hT.transNew hT2 (fun i h e => by omega), Nat.le_trans hz hT2.size⟩
      case measure => simp [intOf]; omega
    · have hk5 : k = 5 := by omega
      subst hk5
      clear hL
      obtain ⟨q7, hq7⟩ : ∃ q, Hid (((cfQ 5).touch 1 32).touch 1 40 = q) := ⟨_, rfl⟩
      obtain ⟨q8, hq8⟩ : ∃ q, Hid (q7.clear 40 = q) := ⟨_, rfl⟩
      have e0 : q7 = cf7 := hq7.out.symm
      have e8 : q8 = cf7.clear 40 := by rw [← hq8.out, e0]
      have f0 : q7.hasC 0 = true := by rw [e0]; decide
      have f1 : q7.hasC 1 = true := by rw [e0]; decide
      have fa : ∀ i, i < 8 → tg (q7.F (0 : Int).toNat) 2 i = cfA.getD i 0 := by rw [e0]; exact cf_a
      have fb : ∀ i, i < 8 → tg (q7.F (1 : Int).toNat) 2 i = cfB.getD i 0 := by rw [e0]; exact cf_b
      have fs : ∀ i, i < 8 → tg q7.Sh 4 i = cfS.getD i 0 := by rw [e0]; exact cf_s
      have n1 : q7.near 0 16 = true := by rw [e0]; decide
      have n2 : q7.near 0 8 = false := by rw [e0]; decide
      have n3 : q7.near 0 32 = false := by rw [e0]; decide
      have n4 : q7.cleared 40 = true := by rw [e0]; decide
      have n5 : q8.near 1 40 = false := by rw [e8]; decide
      have q0 := Int.emod_nonneg a0 (b := 50) (by omega)
      have q1 := Int.emod_lt_of_pos a0 (b := 50) (by omega)
      have n6 : q8.hasC (2 + a0 % 50) = false := by
        rw [CQ.hasC_no]; right
        have : q8.n = 2 := by rw [e8]; rfl
        omega
      have n7 : q8.may (2 + a0 % 50) 1 = false := by simp [CQ.may, n6]
      have n8 : q8.near (2 + a0 % 50) 1 = false := by simp [CQ.near, n7]
      have n9 : Hid (q8.touch (2 + a0 % 50) 1 = q8) := show _ = _ by simp [CQ.touch, n7]
      have n10 : Hid (q8.evict (2 + a0 % 50) 1 = q8) := show _ = _ by simp [CQ.evict, n7]
      clear e0 e8
      go_wp2_with (first
        | (go_at_call 10; refine (ctouch_any hC _ _ (by omega)).mono ?_; rintro e w2 ⟨hx2, hC2, t2⟩; subst hx2; replace hC := hC2; clear hC2; replace hz := Nat.le_trans hz t2.size; replace hT := hT.transNew t2 (fun i h e => by omega); try rw [hq7.out] at hC; try rw [n9.out] at hC)
        | (go_at_call_has 11 (Value.int .i64 0); refine (ctags_yes hC 0 f0).mono ?_; rintro e w3 ⟨cA, capA, rfl, gA, rA, t3, _, _⟩; replace hC := hC.touch t3 (fun _ _ _ e => e); replace gA := Nat.le_trans hz gA; replace hz := Nat.le_trans hz t3.size; replace hT := hT.trans t3)
        | (go_at_call_has 11 (Value.int .i64 1); refine (ctags_yes hC 1 f1).mono ?_; rintro e w4 ⟨cB, capB, rfl, gB, rB, t4, _, _⟩; replace hC := hC.touch t4 (fun _ _ _ e => e); replace hz := Nat.le_trans hz t4.size; replace hT := hT.trans t4; replace rA := rA.touch t4 id)
        | (go_at_call 12; refine (cshared_any hC).mono ?_; rintro e w5 ⟨cS, capS, rfl, gS, rS, t5, kS1, kS2⟩; have kS3 : (8 : Int) ≤ (capS : Int) := Int.ofNat_le.2 (Nat.le_trans (by decide) kS1); clear kS2; replace hC := hC.touch t5 (fun _ _ _ e => e); replace hz := Nat.le_trans hz t5.size; replace hT := hT.trans t5; replace rA := rA.touch t5 id; replace rB := rB.touch t5 id)
        | (go_at_call_has 13 (Value.slice (some ⟨cA, 0, none⟩) 8 capA); refine (isame_lit8 _ _ _ _ _ _ _ _ rA (by omega) fa).mono ?_; rintro e w6 ⟨rfl, t6⟩; replace hC := hC.touch t6 (fun _ _ _ e => e); replace hz := Nat.le_trans hz t6.size; replace hT := hT.trans t6; replace rA := rA.touch t6 id; replace rB := rB.touch t6 id; replace rS := rS.touch t6 id)
        | (go_at_call_has 13 (Value.slice (some ⟨cB, 0, none⟩) 8 capB); refine (isame_lit8 _ _ _ _ _ _ _ _ rB (by omega) fb).mono ?_; rintro e w7 ⟨rfl, t7⟩; replace hC := hC.touch t7 (fun _ _ _ e => e); replace hz := Nat.le_trans hz t7.size; replace hT := hT.trans t7; replace rA := rA.touch t7 id; replace rS := rS.touch t7 id)
        | (go_at_call_has 13 (Value.slice (some ⟨cS, 0, none⟩) 8 capS); refine (isame_lit8 _ _ _ _ _ _ _ _ rS (by omega) fs).mono ?_; rintro e w8 ⟨rfl, t8⟩; replace hC := hC.touch t8 (fun _ _ _ e => e); replace hz := Nat.le_trans hz t8.size; replace hT := hT.trans t8; replace rA := rA.touch t8 id; have xA := rA.cell (i := 0) (by omega); have yA := rA.frozen 0))
      have t9 : Touch (· = cA) w8 (w8.setCell ⟨cA, 0, none⟩ (.int .i64 99)) := (Touch.refl (· = cA) w8).setCell (p := ⟨cA, 0, none⟩) rfl _
      replace hC := hC.touch t9 (fun k _ h2 e => by have : k = cA := e; omega)
      replace hz := Nat.le_trans hz t9.size
      replace hT := hT.transNew t9 (fun i h e => by have : i = cA := e; omega)
      clear rA rB rS xA yA t2 t3 t4 t5 t6 t7 t8 t9 fa fb fs
      generalize w8.setCell ⟨cA, 0, none⟩ (.int .i64 99) = w9 at *
      go_wp2_with (first
        | (go_at_call 14; refine (within_any _ _ _ (by omega) (by omega)).mono ?_; rintro e wq ⟨rfl, rfl⟩)
        | (go_at_call 15; refine (cnear_t hC _ _ (by omega)).mono ?_; rintro e wn ⟨rfl, tn⟩; replace hC := hC.touch tn (fun _ _ _ e => e); replace hz := Nat.le_trans hz tn.size; replace hT := hT.trans tn)
        | (go_at_call 16; refine (cclear_any hC _ (by omega)).mono ?_; rintro e w10 ⟨hx, hC2, t10⟩; subst hx; replace hC := hC2; clear hC2; replace hz := Nat.le_trans hz t10.size; replace hT := hT.transNew t10 (fun i h e => by omega); rw [hq8.out] at hC)
        | (go_at_call 10; refine (ctouch_any hC _ _ (by omega)).mono ?_; rintro e w11 ⟨hx, hC2, t11⟩; subst hx; replace hC := hC2; clear hC2; replace hz := Nat.le_trans hz t11.size; replace hT := hT.transNew t11 (fun i h e => by omega); rw [n9.out] at hC)
        | (go_at_call 17; refine (cevict_any hC _ _ (by omega)).mono ?_; rintro e w12 ⟨hx, hC2, t12⟩; subst hx; replace hC := hC2; clear hC2; replace hz := Nat.le_trans hz t12.size; replace hT := hT.transNew t12 (fun i h e => by omega); rw [n10.out] at hC)
        | (go_at_call 11; refine (ctags_no hC _ n6).mono ?_; rintro e wq ⟨rfl, rfl⟩)
        | (go_at_call 18; refine (wakes4_any _).mono ?_; rintro e w13 ⟨rfl, t13⟩; replace hT := hT.trans t13))
      go_ret
      exact ⟨rfl, hT.below (Nat.le_refl _) (fun _ e => e.elim)⟩
end Go.Proofs.Ytjfdjlinjghddaa
