/-
  A process's tables: plain facts on what is set; New where frames are too few.
-/
import Derived.Test.YtaofkedcdeocjaaSpJ
namespace Go.Proofs.Ytaofkedcdeocjaa
open Go.ChangeShapes Go.WideShapes Go.ChangeAt Go.RowKit

theorem mark_left2 {s : MS} {f : Nat} {c : Int} (hc : c = 1 ∨ c = 2) (hL : Least s f) (o : Int) : (s.mark (f : Int) c o).left + 1 = s.left := by
  have hm : s.mayM (f : Int) c = true := by
    unfold MS.mayM
    rw [(s.hasF_iff _).2 ⟨by omega, by have := hL.hi; omega⟩]
    rcases hc with rfl | rfl <;> rfl
  unfold MS.left MS.mark
  rw [if_pos hm]
  have := cnt_set (v := c) hL.lo hL.free (by rcases hc with rfl | rfl <;> decide) (s.n - 15)
  rw [if_pos (by have := hL.lo; have := hL.hi; omega)] at this
  simpa using this
theorem rd_write {s : MS} {a : Int} (h : s.hasW a = true) (x : Int) : (s.write a x).rd a = x := by
  unfold MS.rd
  have : (s.write a x).hasW a = true := by unfold MS.hasW at h ⊢; rw [MS.write_n]; exact h
  rw [if_pos this]; unfold MS.write; rw [if_pos h]; simp
theorem rd_other {s : MS} {a b : Int} (hb : 0 ≤ b) (ha : 0 ≤ a) (h : a ≠ b) (x : Int) : (s.write b x).rd a = s.rd a := by
  unfold MS.rd
  have e : (s.write b x).hasW a = s.hasW a := by unfold MS.hasW; rw [MS.write_n]
  rw [e]; unfold MS.write
  split
  · split
    · dsimp only; rw [if_neg (by omega)]
    · rfl
  · rfl
theorem hasW_n {s s' : MS} (h : s'.n = s.n) (a : Int) : s'.hasW a = s.hasW a := by unfold MS.hasW; rw [h]
theorem up1_up {y : YS} {i : Nat} (hl : y.S.up i = 0 → 1 ≤ y.s.left) (hn : y.s.n ≤ 64) : (y.up1 i).S.up i ≠ 0 := by
  unfold YS.up1
  split
  · rename_i h0
    have := least_lt (hl h0) hn
    simp only [SS.setUp, if_true]
    omega
  · assumption
theorem la1_up (y : YS) (i j k : Nat) : (y.la1 i j).S.up k = y.S.up k := by unfold YS.la1; split <;> rfl
theorem la1_la {y : YS} {i j : Nat} (hl : y.S.la (i * 8 + j) = 0 → 1 ≤ y.s.left) (hn : y.s.n ≤ 64) : (y.la1 i j).S.la (i * 8 + j) ≠ 0 := by
  unfold YS.la1
  split
  · rename_i h0
    have := least_lt (hl h0) hn
    simp only [SS.setLa, if_true]
    omega
  · assumption
theorem up1_kern (y : YS) (i : Nat) : (y.up1 i).S.kern = y.S.kern := by unfold YS.up1; split <;> rfl
theorem la1_kern (y : YS) (i j : Nat) : (y.la1 i j).S.kern = y.S.kern := by unfold YS.la1; split <;> rfl
theorem la1_n (y : YS) (i j : Nat) : (y.la1 i j).s.n = y.s.n := by
  unfold YS.la1; split
  · rw [MS.write_n, MS.mark_n]
  · rfl
theorem up1_left {y : YS} {i : Nat} (hl : y.S.up i = 0 → 1 ≤ y.s.left) : (y.up1 i).s.left + (if y.S.up i = 0 then 1 else 0) = y.s.left := by
  unfold YS.up1
  split
  · rename_i h0
    rw [roots_left]; exact mark_left (least_left (hl h0)) _
  · rfl
theorem la1_left {y : YS} {i j : Nat} (hl : y.S.la (i * 8 + j) = 0 → 1 ≤ y.s.left) : (y.la1 i j).s.left + (if y.S.la (i * 8 + j) = 0 then 1 else 0) = y.s.left := by
  unfold YS.la1
  split
  · rename_i h0
    rw [write_left]; exact mark_left (least_left (hl h0)) _
  · rfl
/-- Behind a set: the tables are there; as many frames are left as were not taken. -/
theorem set_facts {y : YS} {page : Int} (hm : y.may page = true) (hn : y.s.n ≤ 64) (x : Int) :
    (y.set page x).S.up (page / 64).toNat ≠ 0 ∧ (y.set page x).S.la ((page / 64).toNat * 8 + (page / 8 % 8).toNat) ≠ 0 ∧ (y.set page x).S.kern = y.S.kern ∧ (y.set page x).s.n = y.s.n ∧ (y.set page x).s.left + y.S.need [page] = y.s.left := by
  have h1 := may_up hm
  have h2 := may_la hm
  have hp : y.S.hasP page = true := by simp only [YS.may, Bool.and_eq_true] at hm; exact hm.1
  unfold YS.set
  dsimp only
  have l1 := up1_left h1
  have l2 := la1_left h2
  rw [up1_la] at l2
  refine ⟨by rw [la1_up]; exact up1_up h1 hn, la1_la h2 (by rw [up1_n]; exact hn), by rw [la1_kern, up1_kern], by rw [MS.write_n, la1_n, up1_n], ?_⟩
  rw [write_left, need_is hp]
  omega
theorem set_ok {y : YS} {page : Int} (ok : y.S.ok) (hm : y.may page = true) (hn : y.s.n ≤ 64) (x : Int) : (y.set page x).S.ok :=
  la1_ok (up1_ok ok (may_up hm) hn) (may_la hm) (by rw [up1_n]; exact hn)
theorem need_zero {S : SS} {page : Int} (h1 : S.up (page / 64).toNat ≠ 0) (h2 : S.la ((page / 64).toNat * 8 + (page / 8 % 8).toNat) ≠ 0) : S.need [page] = 0 := by
  cases hp : S.hasP page
  · unfold SS.need; simp [needS, hp]
  · rw [need_is hp, if_neg h1, if_neg h2]
/-- A set where the tables are there. -/
theorem set_there {y : YS} {page : Int} (h1 : y.S.up (page / 64).toNat ≠ 0) (h2 : y.S.la ((page / 64).toNat * 8 + (page / 8 % 8).toNat) ≠ 0) (x : Int) : y.set page x = ⟨y.S, y.R, y.s.write (y.S.pl page) x⟩ := by
  unfold YS.set
  have e1 : y.up1 (page / 64).toNat = y := by unfold YS.up1; rw [if_neg h1]
  have e2 : y.la1 (page / 64).toNat (page / 8 % 8).toNat = y := by unfold YS.la1; rw [if_neg h2]
  rw [e1, e2]
theorem set_s (y : YS) (page x : Int) : (y.set page x).s = ((y.up1 (page / 64).toNat).la1 (page / 64).toNat (page / 8 % 8).toNat).s.write ((y.set page x).S.pl page) x := rfl
/-- The last table of a page that was set just now is one of the memory's, if it was not there. -/
theorem set_new {y : YS} {page : Int} (hm : y.may page = true) (h0 : y.S.la ((page / 64).toNat * 8 + (page / 8 % 8).toNat) = 0) (x : Int) :
    15 ≤ (y.set page x).S.la ((page / 64).toNat * 8 + (page / 8 % 8).toNat) ∧ (y.set page x).S.la ((page / 64).toNat * 8 + (page / 8 % 8).toNat) < y.s.n := by
  have h2 := may_la hm
  have e0 : (y.up1 (page / 64).toNat).S.la ((page / 64).toNat * 8 + (page / 8 % 8).toNat) = 0 := by rw [up1_la]; exact h0
  have hL := least_left (h2 e0)
  unfold YS.set
  dsimp only
  unfold YS.la1
  rw [if_pos e0]
  simp only [SS.setLa, if_true]
  have a := hL.lo; have b := hL.hi
  rw [up1_n] at b
  omega
theorem xor_one (pg : Int) (h0 : 0 ≤ pg) (h1 : pg < 256) : ∃ p' : Int, bits .xor .i64 pg 1 = p' ∧ 0 ≤ p' ∧ p' < 256 ∧ p' / 64 = pg / 64 ∧ p' / 8 % 8 = pg / 8 % 8 ∧ p' % 8 ≠ pg % 8 := by
  obtain ⟨n, rfl⟩ := Int.eq_ofNat_of_zero_le h0
  have hn : n < 256 := by omega
  have hall : ∀ n < 256, bits .xor .i64 ((n : Nat) : Int) 1 = (if (n : Int) % 2 = 0 then (n : Int) + 1 else (n : Int) - 1) := by decide +kernel
  refine ⟨_, hall n hn, ?_⟩
  split <;> omega

set_option maxHeartbeats 1000000 in
theorem new_no {w : World} {p b c : Nat} {R : Nat → Int} {s : MS} (po : PoolAt w p b R) (me : MemAt w b c s) (F P : Int) (kpti inv : Bool) (own : Int) (fx : Array Value) (h2 : fx = #[.int .i64 3, .int .i64 13]) (hl : s.left < (if kpti = true then 2 else 1)) :
    Calls Try.prog 13 #[cfV F P kpti inv, .agg fx, .pointer (some ⟨b, 0, none⟩), .pointer (some ⟨p, 0, none⟩), .int .i64 own] w fun e w' => e = .returned (.tuple #[.pointer none, .bool false]) ∧ Touch Nil w w' := by
  subst h2
  unfold cfV
  have t0 := ((Touch.refl Nil w).alloc (.cells #[.int .i64 F, .int .i64 P, .bool kpti, .bool inv] 25)).alloc (.cells #[.int .i64 3, .int .i64 13] 29)
  have po0 := po.touch t0 (fun h => h)
  have me0 := me.touch t0 (fun h => h) (fun h => h)
  cases kpti with
  | true =>
    simp only [if_true] at hl
    have l1 : (s.left : Int) < 2 := by omega
    go_enter Try.func13, Try.ntmps13
    go_wp2_with (go_at_call 12; refine (pleft_any po0 me0).mono ?_; rintro e wq ⟨rfl, rfl⟩)
    go_ret2
    exact ⟨rfl, t0⟩
  | false =>
    simp only [if_false, Bool.false_eq_true] at hl
    have l1 : (s.left : Int) < 1 := by omega
    go_enter Try.func13, Try.ntmps13
    go_wp2_with (go_at_call 12; refine (pleft_any po0 me0).mono ?_; rintro e wq ⟨rfl, rfl⟩)
    go_ret2
    exact ⟨rfl, t0⟩
end Go.Proofs.Ytaofkedcdeocjaa
