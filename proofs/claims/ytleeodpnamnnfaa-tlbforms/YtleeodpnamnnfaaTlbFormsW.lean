/-
  The walk of TlbForms.
-/
import Derived.Test.YtleeodpnamnnfaaTlbI
namespace Go.Proofs.Ytleeodpnamnnfaa
open Go.ChangeShapes Go.WideShapes Go.ChangeAt Go.RowKit

def tfA (q : Int) : It := ⟨1, 5, 1 + q, false, false, false⟩
def tfB (q : Int) : It := ⟨2, 5, 1 + q + 1, false, true, false⟩
def tfG (q : Int) : It := ⟨1, 6, 1 + q + 2, false, false, true⟩
def tfC (q : Int) : It := ⟨2, 5, 1 + q + 9, false, false, false⟩

set_option maxRecDepth 10000 in
set_option maxHeartbeats 1000000 in
theorem tlbForms_walk (a0 : Int) (w : World) :
    Calls Try.prog 3 #[.int .i64 a0] w fun e w' => e = .returned (.bool true) ∧ Below w.heap.size w w' := by
  have hw := within_any a0 60
  have q0 := Int.emod_nonneg a0 (b := 60) (by omega)
  have q1 := Int.emod_lt_of_pos a0 (b := 60) (by omega)
  generalize a0 % 60 = q at *
  have p1 : put (tfA q) [] = [tfA q] := rfl
  have p2 : put (tfB q) [tfA q] = [tfA q, tfB q] := rfl
  have p3 : put (tfG q) [tfA q, tfB q] = [tfA q, tfB q, tfG q] := rfl
  have f1 : found 1 5 [tfA q, tfB q, tfG q] = tfA q := rfl
  have f2 : found 2 5 [tfA q, tfB q, tfG q] = tfB q := rfl
  have f3 : found 9 6 [tfA q, tfB q, tfG q] = tfG q := rfl
  have f4 : finds 9 6 [tfA q, tfB q, tfG q] = true := rfl
  have f5 : finds 3 5 [tfA q, tfB q, tfG q] = false := rfl
  have d1 : dropName 1 [tfA q, tfB q, tfG q] = [tfB q, tfG q] := rfl
  have f7 : finds 1 5 [tfB q, tfG q] = false := rfl
  have f8 : found 1 5 [tfB q, tfG q] = It.zero := rfl
  have f9 : finds 1 6 [tfB q, tfG q] = true := rfl
  have f10 : found 1 6 [tfB q, tfG q] = tfG q := rfl
  have d2 : dropPage 7 6 [tfB q, tfG q] = [tfB q] := rfl
  have f11 : finds 1 6 [tfB q] = false := rfl
  have f12 : found 1 6 [tfB q] = It.zero := rfl
  have p4 : put (tfC q) [tfB q] = [tfC q] := rfl
  have f13 : found 2 5 [tfC q] = tfC q := rfl
  have z1 : (tfC q).fr = 1 + q + 9 := rfl
  have z2 : (tfC q).us = false := rfl
  have f6 : found 3 5 [tfA q, tfB q, tfG q] = It.zero := rfl
  go_enter Try.func3, Try.ntmps3
  go_wp2_with (first
    | (go_at_call 8; refine (st_new _).mono ?_; rintro e w1 ⟨rfl, hA, hS⟩)
    | (go_at_call 9; refine (hw _ (by omega) (by omega)).mono ?_; rintro e wq ⟨rfl, rfl⟩))
  have hB : Bs w1 w.heap.size none [] := fun _ h => by cases h
  replace hB := hB.new hA.at' (tfA q) 26
  replace hA := hA.alloc (bxO (tfA q) 26)
  replace hB := hB.new hA.at' (tfB q) 26
  replace hA := hA.alloc (bxO (tfB q) 26)
  replace hB := hB.new hA.at' (tfG q) 26
  replace hA := hA.alloc (bxO (tfG q) 26)
  simp only [World.size_alloc, hS] at hB
  go_wp2_with (first
    | (go_at_call_has 10 (Value.int .i64 (1 + q)); refine (st_put hA (tfA q)).mono ?_; rintro e w2 ⟨rfl, g2, hA2, t2, fr2⟩; replace hB := hB.put t2 fr2; rw [p1] at hA2; replace hA := hA2; clear hA2 fr2 t2; have b2' := hB.six (.tail _ (.head _)))
    | (go_at_call_has 10 (Value.int .i64 (tfB q).fr); refine (st_put hA (tfB q)).mono ?_; rintro e w3 ⟨rfl, g3, hA2, t2, fr2⟩; replace hB := hB.put t2 fr2; rw [p2] at hA2; replace hA := hA2; clear hA2 fr2 t2 b2'; have b3' := hB.six (.head _))
    | (go_at_call_has 10 (Value.int .i64 (tfG q).fr); refine (st_put hA (tfG q)).mono ?_; rintro e w4 ⟨rfl, g4, hA2, t2, fr2⟩; replace hB := hB.put t2 fr2; rw [p3] at hA2; replace hA := hA2; clear hA2 fr2 t2 b3')
    | (go_at_call_has 11 (Value.int .i64 1); refine (st_find hA 1 5).mono ?_; rw [f1]; rintro e w5 ⟨rfl, hA2, t2⟩; replace hB := hB.nil t2; replace hA := hA2; clear hA2 t2)
    | (go_at_call_has 11 (Value.int .i64 2); replace hB := hB.new hA.at' (tfA q) 26; replace hA := hA.alloc (bxO (tfA q) 26); refine (st_find hA 2 5).mono ?_; rw [f2]; rintro e w6 ⟨rfl, hA2, t2⟩; replace hB := hB.nil t2; replace hA := hA2; clear hA2 t2)
    | (go_at_call_has 11 (Value.int .i64 9); have hy6 := hA.t.size; replace hB := hB.new hA.at' (tfB q) 26; replace hA := hA.alloc (bxO (tfB q) 26); refine (st_find hA 9 6).mono ?_; rw [f3, f4]; rintro e w7 ⟨rfl, hA2, t2⟩; replace hB := hB.nil t2; replace hA := hA2; clear hA2 t2)
    | (go_at_call_has 11 (Value.int .i64 3); replace hB := hB.new hA.at' (tfG q) 26; replace hA := hA.alloc (bxO (tfG q) 26); refine (st_find hA 3 5).mono ?_; rw [f5, f6]; rintro e w8 ⟨rfl, hA2, t2⟩; replace hB := (hB.nil t2).new hA2.at' It.zero 26; replace hA := hA2.alloc (bxO It.zero 26); clear hA2 t2
       have c1 := hB.six (.tail _ (.head _)); have c2 := hB.six (.tail _ (.tail _ (.head _))); have c3 := hB.six (.tail _ (.tail _ (.tail _ (.head _)))); have c4 := hB.six (.tail _ (.tail _ (.tail _ (.tail _ (.head _))))); have c5 := hB.six (.tail _ (.tail _ (.tail _ (.tail _ (.tail _ (.head _)))))); have c6 := hB.six (.tail _ (.tail _ (.tail _ (.tail _ (.tail _ (.tail _ (.head _))))))); dsimp only [bxO] at c1 c2 c3 c4 c5 c6))
  clear c1 c2 c3 c4 c5 c6
  replace hB : Bs _ _ _ [(w6.heap.size, tfB q)] := fun p hp => hB p (by simp at hp; subst hp; simp)
  go_wp2_with (first
    | (go_at_call 12; refine (st_name hA 1).mono ?_; rintro e w9 ⟨rfl, hA2, t2⟩; rw [d1] at hA2; replace hB := hB.drop t2; replace hA := hA2; clear hA2 t2)
    | (go_at_call_has 11 (Value.int .i64 5); with_reducible refine (st_find hA 1 5).mono ?_; rw [f7, f8]; rintro e w10 ⟨rfl, hA2, t2⟩; replace hB := (hB.nil t2).nil ((Touch.refl Nil _).alloc (bxO It.zero 26)); replace hA := hA2.alloc (bxO It.zero 26); clear hA2 t2)
    | (go_at_call_has 11 (Value.int .i64 6); with_reducible refine (st_find hA 1 6).mono ?_; rw [f9, f10]; rintro e w11 ⟨rfl, hA2, t2⟩; replace hB := (hB.nil t2).nil ((Touch.refl Nil _).alloc (bxO (tfG q) 26)); replace hA := hA2.alloc (bxO (tfG q) 26); clear hA2 t2)
    | (go_at_call 13; refine (st_page hA 7 6).mono ?_; rintro e w12 ⟨rfl, hA2, t2⟩; rw [d2] at hA2; replace hB := hB.drop t2; replace hA := hA2; clear hA2 t2)
    | (go_at_call_has 11 (Value.int .i64 6); with_reducible refine (st_find hA 1 6).mono ?_; rw [f11, f12]; rintro e w13 ⟨rfl, hA2, t2⟩; replace hB := (hB.nil t2).nil ((Touch.refl Nil _).alloc (bxO It.zero 26)); replace hA := hA2.alloc (bxO It.zero 26); clear hA2 t2)
    | (go_at_call 14; with_reducible refine (st_list hA).mono ?_; rintro e w14 ⟨a, cap, rfl, hA2, _, _, _, t2⟩; replace hB := hB.nil t2; replace hA := hA2; clear hA2 t2)
    | (go_at_call 10; refine (st_put hA (tfC q)).mono ?_; rintro e w15 ⟨rfl, g5, hA2, t2, fr2⟩; replace hB := hB.put t2 fr2; rw [p4] at hA2; replace hA := hA2; clear hA2 fr2 t2))
  refine (st_find hA 2 5).mono ?_
  rw [f13]
  rintro e w16 ⟨rfl, hA2, t2⟩
  replace hB := hB.nil t2
  replace hA := hA2
  clear hA2 t2
  have hth : w16.there w6.heap.size 0 (#[.int .i64 (tfC q).pc, .int .i64 (tfC q).pg, .int .i64 (tfC q).fr, .bool (tfC q).wr, .bool (tfC q).us, .bool (tfC q).gl] : Array Value).size := (hB.box (.head _)).th
  go_wp2_with (first
    | (refine wpList_store_mid rfl 26 _ _ rfl w6.heap.size 0 #[.int .i64 (tfC q).pc, .int .i64 (tfC q).pg, .int .i64 (tfC q).fr, .bool (tfC q).wr, .bool (tfC q).us, .bool (tfC q).gl] (by rfl) (by rfl) (by exact hth) (by kernel_rfl) (by kernel_rfl) ?_
       replace hA := hA.sets (hB.box (.head _)).out hy6 (tfC q).vs 0
       replace hB : Bs (w16.setCells w6.heap.size 0 (tfC q).vs) _ _ [(w6.heap.size, tfC q)] := fun p hp => by simp at hp; subst hp; exact (hB.box (.head _)).store (tfC q)
       change wpList _ _ _ _ _ (w16.setCells w6.heap.size 0 (tfC q).vs)
       clear hth
       generalize w16.setCells w6.heap.size 0 (tfC q).vs = w17 at hA hB ⊢
       have y' := hB.six (.head _)))
  refine (st_list hA).mono ?_
  rintro e w18 ⟨a, cap, rfl, hA2, _, _, _, t2⟩
  replace hB := hB.nil t2
  replace hA := hA2
  clear hA2 t2 y'
  go_wp2_with fail
  refine (st_list hA).mono ?_
  rintro e w19 ⟨a, cap, rfl, hA2, hL, hfr, ho, t2⟩
  have hlt := (hB.box (.head _)).lt
  have hlp := hA.at'.blt
  have hlg := hA.at'.glt
  have hlw := hA.t.size
  obtain ⟨k, o, rfl, hL'⟩ := LAt.row hL (by simp)
  obtain rfl : o = 0 := (ho _ rfl).1
  have hk := hfr k ⟨_, rfl, rfl⟩
  clear hfr ho hL
  replace hB := hB.nil t2
  replace hA := hA2
  clear hA2 t2
  have hk1 : ¬ own w.heap.size g5 k := by
    rintro (e | e)
    · omega
    · have := hlg _ e; omega
  have hk2 : ¬ (w6.heap.size = k) := by omega
  obtain ⟨c0, c1, c2, c3, c4, c5⟩ := hL'.six0 (i := 0) (x := tfC q) rfl
  have hfz := (hL'.there 2 1 (by have := hL'.1; simp at this; omega) 0 (by omega)).2
  simp only [Nat.zero_mul, Nat.zero_add, Nat.add_zero] at c0 c1 c2 c3 c4 c5 hfz
  have hge : w.heap.size ≤ k := by omega
  go_wp2_with fail
  have tS : Touch (· = k) w19 (w19.setCell ⟨k, 2, none⟩ (.int .i64 99)) := (Touch.refl (· = k) w19).setCell (p := ⟨k, 2, none⟩) rfl _
  have hB' : Bs (w19.setCell ⟨k, 2, none⟩ (.int .i64 99)) w.heap.size g5 [(w6.heap.size, tfC q)] := fun p hp => by
    simp at hp; subst hp
    exact (hB.box (.head _)).touch tS hk2
  have hA' : St w (w19.setCell ⟨k, 2, none⟩ (.int .i64 99)) w.heap.size g5 [tfC q] :=
    ⟨hA.at'.touch tS (fun j hj e => hk1 (e ▸ hj)), hA.t.setNew (p := ⟨k, 2, none⟩) hge _, hA.p, hA.gg⟩
  clear hA hB c0 c1 c2 c3 c4 c5 hfz hL' tS
  generalize w19.setCell ⟨k, 2, none⟩ (.int .i64 99) = w20 at hA' hB' ⊢
  refine (st_find hA' 2 5).mono ?_
  rw [f13]
  rintro e w21 ⟨rfl, hA, t2⟩
  have hB := hB'.nil t2
  clear hA' hB' t2
  have hth : w21.there w6.heap.size 0 (#[.int .i64 (tfC q).pc, .int .i64 (tfC q).pg, .int .i64 (tfC q).fr, .bool (tfC q).wr, .bool (tfC q).us, .bool (tfC q).gl] : Array Value).size := (hB.box (.head _)).th
  go_wp2_with (first
    | (refine wpList_store_mid rfl 26 _ _ rfl w6.heap.size 0 #[.int .i64 (tfC q).pc, .int .i64 (tfC q).pg, .int .i64 (tfC q).fr, .bool (tfC q).wr, .bool (tfC q).us, .bool (tfC q).gl] (by rfl) (by rfl) (by exact hth) (by kernel_rfl) (by kernel_rfl) ?_
       replace hA := hA.sets (hB.box (.head _)).out hy6 (tfC q).vs 0
       replace hB : Bs (w21.setCells w6.heap.size 0 (tfC q).vs) _ _ [(w6.heap.size, tfC q)] := fun p hp => by simp at hp; subst hp; exact (hB.box (.head _)).store (tfC q)
       change wpList _ _ _ _ _ (w21.setCells w6.heap.size 0 (tfC q).vs)
       clear hth
       generalize w21.setCells w6.heap.size 0 (tfC q).vs = w22 at hA hB ⊢
       have y' := hB.six (.head _)))
  have n1 : hasN 0 [tfC q] = true := rfl
  have n2 : forgetI 0 [tfC q] = [] := rfl
  have n3 : hasN 0 [] = false := rfl
  have n4 : forgetI 0 [] = [] := rfl
  have n5 : hasN (-1) [] = false := rfl
  have n6 : forgetI (-1) [] = [] := rfl
  clear hB y'
  refine (st_forget hA 0).mono ?_
  rw [n1, n2]
  rintro e w23 ⟨rfl, hA2, _⟩
  go_wp2_with fail
  refine (st_forget hA2 0).mono ?_
  rw [n3, n4]
  rintro e w24 ⟨rfl, hA3, _⟩
  go_wp2_with fail
  refine (st_forget hA3 (-1)).mono ?_
  rw [n5, n6]
  rintro e w25 ⟨rfl, hA4, _⟩
  go_wp2_with fail
  refine (wakes6_any _).mono ?_
  rintro e w26 ⟨rfl, t6⟩
  go_wp2_with fail
  go_ret
  exact ⟨rfl, (hA4.t.trans t6).below (Nat.le_refl _) (by simp [Nil])⟩
end Go.Proofs.Ytleeodpnamnnfaa
