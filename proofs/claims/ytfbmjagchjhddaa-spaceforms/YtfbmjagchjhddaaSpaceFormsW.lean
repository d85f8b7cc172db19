/-
  The law SpaceForms, walked.
-/
import Derived.Test.YtfbmjagchjhddaaSpJ
import Derived.Test.YtfbmjagchjhddaaKeep
namespace Go.Proofs.Ytfbmjagchjhddaa
open Go.ChangeShapes Go.WideShapes Go.ChangeAt Go.RowKit

theorem up30_left {k : Bool} : (MS.up 30 k).left = 15 := by cases k <;> decide +kernel
theorem new_ok30 (k : Bool) : (YS.new 0 k (fun _ => 0) (MS.up 30 k)).S.ok := by
  rw [new_S]
  refine ⟨?_, ?_, fun _ => ⟨Int.le_refl 0, by show (0 : Int) < 64; decide⟩, fun _ => ⟨Int.le_refl 0, by show (0 : Int) < 64; decide⟩⟩ <;> cases k <;> decide +kernel
theorem user0 (k : Nat) (h : k < 7) : (YS.new 0 true (fun _ => 0) (MS.up 30 true)).s.rd (128 + (k : Int)) = 0 := by
  have hall : ∀ k < 7, (YS.new 0 true (fun _ => 0) (MS.up 30 true)).s.rd (128 + ((k : Nat) : Int)) = 0 := by decide +kernel
  exact hall k h
theorem need_two {w : World} {q b p : Nat} {s : SS} (h : SpAt w q b p s) (x y : Int) :
    Calls Try.prog 13 #[.pointer (some ⟨q, 0, none⟩), .slice (some ⟨w.heap.size, 0, none⟩) 2 2] (w.alloc (.cells #[.int .i64 x, .int .i64 y] 3)) fun e w' => e = .returned (.int .i64 (s.need [x, y])) ∧ Touch Nil w w' := by
  have t := (Touch.refl Nil w).alloc (.cells #[.int .i64 x, .int .i64 y] 3)
  refine (need_any (h.touch t (fun h => h)) (some ⟨w.heap.size, 0, none⟩) 2 2 [x, y] (by omega) (Or.inr ⟨w.heap.size, 0, rfl, by simp, fun i hi => ?_⟩) rfl).mono ?_
  · rcases (by omega : i = 0 ∨ i = 1) with rfl | rfl <;> simp [go_sem]
  · rintro e w' ⟨rfl, t'⟩
    exact ⟨rfl, t.transNew t' (fun _ _ h => h)⟩
theorem need_three {w : World} {q b p : Nat} {s : SS} (h : SpAt w q b p s) (x y z : Int) :
    Calls Try.prog 13 #[.pointer (some ⟨q, 0, none⟩), .slice (some ⟨w.heap.size, 0, none⟩) 3 3] (w.alloc (.cells #[.int .i64 x, .int .i64 y, .int .i64 z] 3)) fun e w' => e = .returned (.int .i64 (s.need [x, y, z])) ∧ Touch Nil w w' := by
  have t := (Touch.refl Nil w).alloc (.cells #[.int .i64 x, .int .i64 y, .int .i64 z] 3)
  refine (need_any (h.touch t (fun h => h)) (some ⟨w.heap.size, 0, none⟩) 3 3 [x, y, z] (by omega) (Or.inr ⟨w.heap.size, 0, rfl, by simp, fun i hi => ?_⟩) rfl).mono ?_
  · rcases (by omega : i = 0 ∨ i = 1 ∨ i = 2) with rfl | rfl | rfl <;> simp [go_sem]
  · rintro e w' ⟨rfl, t'⟩
    exact ⟨rfl, t.transNew t' (fun _ _ h => h)⟩
theorem fill_lack (t : TT) (i j : Nat) : (t.fill i j).lack i j = 0 := by
  unfold TT.fill TT.lack
  simp only [if_true]
  by_cases h1 : t.up i = 0 <;> by_cases h2 : t.la (i * 8 + j) = 0 <;> simp [h1, h2]
theorem new_need2 {own : Int} {kpti : Bool} {R : Nat → Int} {s : MS} (hk : s.least ≠ 0) {page : Int} (h0 : 0 ≤ page) (h1 : page < 256) : (YS.new own kpti R s).S.need [page, page] = 2 := by
  have hp : (YS.new own kpti R s).S.hasP page = true := (hasP_iff _ _).2 ⟨by rw [new_S]; show ((s.least : Nat) : Int) ≠ 0; omega, h0, h1⟩
  have h2 := new_need (own := own) (kpti := kpti) (R := R) hk h0 h1
  generalize (YS.new own kpti R s).S = S at *
  have e : ∀ a : TT × Nat, needS S a page = (a.1.fill (page / 64).toNat (page / 8 % 8).toNat, a.2 + a.1.lack (page / 64).toNat (page / 8 % 8).toNat) := fun a => by unfold needS; rw [if_pos hp]
  unfold SS.need at h2 ⊢
  simp only [List.foldl_cons, List.foldl_nil, e] at h2 ⊢
  rw [fill_lack]; omega
theorem pairsT (k : Nat) (h : k < 14) : ∃ A V : Int, 0 ≤ A ∧ A < 1000 ∧ (#[.int .u64 24, .int .u64 16387, .int .u64 31, .int .u64 45059, .int .u64 32, .int .u64 3, .int .u64 33, .int .u64 4099, .int .u64 61, .int .u64 118787, .int .u64 62, .int .u64 0, .int .u64 88, .int .u64 0, .int .u64 104, .int .u64 57351, .int .u64 105, .int .u64 0, .int .u64 112, .int .u64 49413, .int .u64 124, .int .u64 12291, .int .u64 127, .int .u64 53255, .int .u64 96, .int .u64 0, .int .u64 8, .int .u64 0] : Array Value)[k * 2]? = some (.int .u64 A) ∧ (#[.int .u64 24, .int .u64 16387, .int .u64 31, .int .u64 45059, .int .u64 32, .int .u64 3, .int .u64 33, .int .u64 4099, .int .u64 61, .int .u64 118787, .int .u64 62, .int .u64 0, .int .u64 88, .int .u64 0, .int .u64 104, .int .u64 57351, .int .u64 105, .int .u64 0, .int .u64 112, .int .u64 49413, .int .u64 124, .int .u64 12291, .int .u64 127, .int .u64 53255, .int .u64 96, .int .u64 0, .int .u64 8, .int .u64 0] : Array Value)[k * 2 + 1]? = some (.int .u64 V) ∧ (YS.new 0 true (fun _ => 0) (MS.up 30 true)).s.rd A = V ∧ (YS.new 0 true (fun _ => 0) (MS.up 30 true)).s.hasW A = true := by
  have hall : ∀ k < 14, (YS.new 0 true (fun _ => 0) (MS.up 30 true)).s.rd (([(24, 16387), (31, 45059), (32, 3), (33, 4099), (61, 118787), (62, 0), (88, 0), (104, 57351), (105, 0), (112, 49413), (124, 12291), (127, 53255), (96, 0), (8, 0)] : List (Int × Int)).getD k (0, 0)).1 = (([(24, 16387), (31, 45059), (32, 3), (33, 4099), (61, 118787), (62, 0), (88, 0), (104, 57351), (105, 0), (112, 49413), (124, 12291), (127, 53255), (96, 0), (8, 0)] : List (Int × Int)).getD k (0, 0)).2 ∧ (YS.new 0 true (fun _ => 0) (MS.up 30 true)).s.hasW (([(24, 16387), (31, 45059), (32, 3), (33, 4099), (61, 118787), (62, 0), (88, 0), (104, 57351), (105, 0), (112, 49413), (124, 12291), (127, 53255), (96, 0), (8, 0)] : List (Int × Int)).getD k (0, 0)).1 = true ∧ 0 ≤ (([(24, 16387), (31, 45059), (32, 3), (33, 4099), (61, 118787), (62, 0), (88, 0), (104, 57351), (105, 0), (112, 49413), (124, 12291), (127, 53255), (96, 0), (8, 0)] : List (Int × Int)).getD k (0, 0)).1 ∧ (([(24, 16387), (31, 45059), (32, 3), (33, 4099), (61, 118787), (62, 0), (88, 0), (104, 57351), (105, 0), (112, 49413), (124, 12291), (127, 53255), (96, 0), (8, 0)] : List (Int × Int)).getD k (0, 0)).1 < 1000 := by decide +kernel
  obtain ⟨h1, h2, h3, h4⟩ := hall k h
  refine ⟨(([(24, 16387), (31, 45059), (32, 3), (33, 4099), (61, 118787), (62, 0), (88, 0), (104, 57351), (105, 0), (112, 49413), (124, 12291), (127, 53255), (96, 0), (8, 0)] : List (Int × Int)).getD k (0, 0)).1, (([(24, 16387), (31, 45059), (32, 3), (33, 4099), (61, 118787), (62, 0), (88, 0), (104, 57351), (105, 0), (112, 49413), (124, 12291), (127, 53255), (96, 0), (8, 0)] : List (Int × Int)).getD k (0, 0)).2, h3, h4, ?_, ?_, h1, h2⟩
  · rcases (by omega : k = 0 ∨ k = 1 ∨ k = 2 ∨ k = 3 ∨ k = 4 ∨ k = 5 ∨ k = 6 ∨ k = 7 ∨ k = 8 ∨ k = 9 ∨ k = 10 ∨ k = 11 ∨ k = 12 ∨ k = 13) with rfl | rfl | rfl | rfl | rfl | rfl | rfl | rfl | rfl | rfl | rfl | rfl | rfl | rfl <;> rfl
  · rcases (by omega : k = 0 ∨ k = 1 ∨ k = 2 ∨ k = 3 ∨ k = 4 ∨ k = 5 ∨ k = 6 ∨ k = 7 ∨ k = 8 ∨ k = 9 ∨ k = 10 ∨ k = 11 ∨ k = 12 ∨ k = 13) with rfl | rfl | rfl | rfl | rfl | rfl | rfl | rfl | rfl | rfl | rfl | rfl | rfl | rfl <;> rfl
theorem classesT (k : Nat) (h : k < 16) : ∃ V : Int, (#[.int .i64 5, .int .i64 4, .int .i64 4, .int .i64 1, .int .i64 1, .int .i64 1, .int .i64 1, .int .i64 1, .int .i64 1, .int .i64 1, .int .i64 1, .int .i64 1, .int .i64 3, .int .i64 1, .int .i64 1, .int .i64 1] : Array Value)[k]? = some (.int .i64 V) ∧ (YS.new 0 true (fun _ => 0) (MS.up 30 true)).s.cls (k : Int) = V := by
  have hall : ∀ k < 16, (YS.new 0 true (fun _ => 0) (MS.up 30 true)).s.cls ((k : Nat) : Int) = (([5, 4, 4, 1, 1, 1, 1, 1, 1, 1, 1, 1, 3, 1, 1, 1] : List Int).getD k 0) := by decide +kernel
  refine ⟨([5, 4, 4, 1, 1, 1, 1, 1, 1, 1, 1, 1, 3, 1, 1, 1] : List Int).getD k 0, ?_, hall k h⟩
  rcases (by omega : k = 0 ∨ k = 1 ∨ k = 2 ∨ k = 3 ∨ k = 4 ∨ k = 5 ∨ k = 6 ∨ k = 7 ∨ k = 8 ∨ k = 9 ∨ k = 10 ∨ k = 11 ∨ k = 12 ∨ k = 13 ∨ k = 14 ∨ k = 15) with rfl | rfl | rfl | rfl | rfl | rfl | rfl | rfl | rfl | rfl | rfl | rfl | rfl | rfl | rfl | rfl <;> rfl

theorem pairsF (k : Nat) (h : k < 14) : ∃ A V : Int, 0 ≤ A ∧ A < 1000 ∧ (#[.int .u64 24, .int .u64 16387, .int .u64 31, .int .u64 45059, .int .u64 32, .int .u64 259, .int .u64 33, .int .u64 4355, .int .u64 61, .int .u64 119043, .int .u64 62, .int .u64 0, .int .u64 88, .int .u64 0, .int .u64 104, .int .u64 57351, .int .u64 105, .int .u64 0, .int .u64 112, .int .u64 49413, .int .u64 124, .int .u64 12291, .int .u64 127, .int .u64 53255, .int .u64 96, .int .u64 0, .int .u64 8, .int .u64 0] : Array Value)[k * 2]? = some (.int .u64 A) ∧ (#[.int .u64 24, .int .u64 16387, .int .u64 31, .int .u64 45059, .int .u64 32, .int .u64 259, .int .u64 33, .int .u64 4355, .int .u64 61, .int .u64 119043, .int .u64 62, .int .u64 0, .int .u64 88, .int .u64 0, .int .u64 104, .int .u64 57351, .int .u64 105, .int .u64 0, .int .u64 112, .int .u64 49413, .int .u64 124, .int .u64 12291, .int .u64 127, .int .u64 53255, .int .u64 96, .int .u64 0, .int .u64 8, .int .u64 0] : Array Value)[k * 2 + 1]? = some (.int .u64 V) ∧ (YS.new 0 false (fun _ => 0) (MS.up 30 false)).s.rd A = V ∧ (YS.new 0 false (fun _ => 0) (MS.up 30 false)).s.hasW A = true := by
  have hall : ∀ k < 14, (YS.new 0 false (fun _ => 0) (MS.up 30 false)).s.rd (([(24, 16387), (31, 45059), (32, 259), (33, 4355), (61, 119043), (62, 0), (88, 0), (104, 57351), (105, 0), (112, 49413), (124, 12291), (127, 53255), (96, 0), (8, 0)] : List (Int × Int)).getD k (0, 0)).1 = (([(24, 16387), (31, 45059), (32, 259), (33, 4355), (61, 119043), (62, 0), (88, 0), (104, 57351), (105, 0), (112, 49413), (124, 12291), (127, 53255), (96, 0), (8, 0)] : List (Int × Int)).getD k (0, 0)).2 ∧ (YS.new 0 false (fun _ => 0) (MS.up 30 false)).s.hasW (([(24, 16387), (31, 45059), (32, 259), (33, 4355), (61, 119043), (62, 0), (88, 0), (104, 57351), (105, 0), (112, 49413), (124, 12291), (127, 53255), (96, 0), (8, 0)] : List (Int × Int)).getD k (0, 0)).1 = true ∧ 0 ≤ (([(24, 16387), (31, 45059), (32, 259), (33, 4355), (61, 119043), (62, 0), (88, 0), (104, 57351), (105, 0), (112, 49413), (124, 12291), (127, 53255), (96, 0), (8, 0)] : List (Int × Int)).getD k (0, 0)).1 ∧ (([(24, 16387), (31, 45059), (32, 259), (33, 4355), (61, 119043), (62, 0), (88, 0), (104, 57351), (105, 0), (112, 49413), (124, 12291), (127, 53255), (96, 0), (8, 0)] : List (Int × Int)).getD k (0, 0)).1 < 1000 := by decide +kernel
  obtain ⟨h1, h2, h3, h4⟩ := hall k h
  refine ⟨(([(24, 16387), (31, 45059), (32, 259), (33, 4355), (61, 119043), (62, 0), (88, 0), (104, 57351), (105, 0), (112, 49413), (124, 12291), (127, 53255), (96, 0), (8, 0)] : List (Int × Int)).getD k (0, 0)).1, (([(24, 16387), (31, 45059), (32, 259), (33, 4355), (61, 119043), (62, 0), (88, 0), (104, 57351), (105, 0), (112, 49413), (124, 12291), (127, 53255), (96, 0), (8, 0)] : List (Int × Int)).getD k (0, 0)).2, h3, h4, ?_, ?_, h1, h2⟩
  · rcases (by omega : k = 0 ∨ k = 1 ∨ k = 2 ∨ k = 3 ∨ k = 4 ∨ k = 5 ∨ k = 6 ∨ k = 7 ∨ k = 8 ∨ k = 9 ∨ k = 10 ∨ k = 11 ∨ k = 12 ∨ k = 13) with rfl | rfl | rfl | rfl | rfl | rfl | rfl | rfl | rfl | rfl | rfl | rfl | rfl | rfl <;> rfl
  · rcases (by omega : k = 0 ∨ k = 1 ∨ k = 2 ∨ k = 3 ∨ k = 4 ∨ k = 5 ∨ k = 6 ∨ k = 7 ∨ k = 8 ∨ k = 9 ∨ k = 10 ∨ k = 11 ∨ k = 12 ∨ k = 13) with rfl | rfl | rfl | rfl | rfl | rfl | rfl | rfl | rfl | rfl | rfl | rfl | rfl | rfl <;> rfl
theorem classesF (k : Nat) (h : k < 16) : ∃ V : Int, (#[.int .i64 5, .int .i64 4, .int .i64 4, .int .i64 1, .int .i64 1, .int .i64 1, .int .i64 1, .int .i64 1, .int .i64 1, .int .i64 1, .int .i64 1, .int .i64 1, .int .i64 3, .int .i64 1, .int .i64 1, .int .i64 1] : Array Value)[k]? = some (.int .i64 V) ∧ (YS.new 0 false (fun _ => 0) (MS.up 30 false)).s.cls (k : Int) = V := by
  have hall : ∀ k < 16, (YS.new 0 false (fun _ => 0) (MS.up 30 false)).s.cls ((k : Nat) : Int) = (([5, 4, 4, 1, 1, 1, 1, 1, 1, 1, 1, 1, 3, 1, 1, 1] : List Int).getD k 0) := by decide +kernel
  refine ⟨([5, 4, 4, 1, 1, 1, 1, 1, 1, 1, 1, 1, 3, 1, 1, 1] : List Int).getD k 0, ?_, hall k h⟩
  rcases (by omega : k = 0 ∨ k = 1 ∨ k = 2 ∨ k = 3 ∨ k = 4 ∨ k = 5 ∨ k = 6 ∨ k = 7 ∨ k = 8 ∨ k = 9 ∨ k = 10 ∨ k = 11 ∨ k = 12 ∨ k = 13 ∨ k = 14 ∨ k = 15) with rfl | rfl | rfl | rfl | rfl | rfl | rfl | rfl | rfl | rfl | rfl | rfl | rfl | rfl | rfl | rfl <;> rfl

set_option maxRecDepth 20000 in
set_option maxHeartbeats 4000000 in
theorem spaceForms_walk (kpti : Bool) (page : Int) (w : World) :
    Calls Try.prog 3 #[.bool kpti, .int .i64 page] w fun e w' => e = .returned (.bool true) ∧ Touch Nil w w' := by
  cases kpti with
  | true =>
    go_enter Try.func3, Try.ntmps3
    go_upto_region 2 with fail
    have t0 := (Touch.refl Nil w).alloc (.cells #[.int .i64 30, .int .i64 1, .bool true, .bool false] 23)
    have hO := one_any 30 (by omega) (by omega) 1 (by decide) true false (by rw [up30_left]; decide) (w.alloc (.cells #[.int .i64 30, .int .i64 1, .bool true, .bool false] 23))
    unfold cfV at hO
    go_upto_region 8 with (go_at_call 7; refine hO.mono ?_; rintro e w1 ⟨q, p, b, c, rfl, _, _, _, _, h1, t1⟩)
    clear hO
    have T1 := t0.trans t1
    clear t0 t1
    obtain ⟨y, hy⟩ : ∃ y, Hid (YS.new 0 true (fun _ => 0) (MS.up 30 true) = y) := ⟨_, rfl⟩
    rw [hy.out] at h1
    have hor0 : bits .or .u64 3 0 = 3 := by decide +kernel
    have hor1 : bits .or .u64 4099 0 = 4099 := by decide +kernel
    have hor2 : bits .or .u64 118787 0 = 118787 := by decide +kernel
    go_upto_block 0 with fail
    have t2 := T1.alloc (.cells #[.int .u64 24, .int .u64 16387, .int .u64 31, .int .u64 45059, .int .u64 32, .int .u64 3, .int .u64 33, .int .u64 4099, .int .u64 61, .int .u64 118787, .int .u64 62, .int .u64 0, .int .u64 88, .int .u64 0, .int .u64 104, .int .u64 57351, .int .u64 105, .int .u64 0, .int .u64 112, .int .u64 49413, .int .u64 124, .int .u64 12291, .int .u64 127, .int .u64 53255, .int .u64 96, .int .u64 0, .int .u64 8, .int .u64 0] 29)
    have hL : (w1.alloc (.cells #[.int .u64 24, .int .u64 16387, .int .u64 31, .int .u64 45059, .int .u64 32, .int .u64 3, .int .u64 33, .int .u64 4099, .int .u64 61, .int .u64 118787, .int .u64 62, .int .u64 0, .int .u64 88, .int .u64 0, .int .u64 104, .int .u64 57351, .int .u64 105, .int .u64 0, .int .u64 112, .int .u64 49413, .int .u64 124, .int .u64 12291, .int .u64 127, .int .u64 53255, .int .u64 96, .int .u64 0, .int .u64 8, .int .u64 0] 29)).heap[w1.heap.size]? = some (.cells #[.int .u64 24, .int .u64 16387, .int .u64 31, .int .u64 45059, .int .u64 32, .int .u64 3, .int .u64 33, .int .u64 4099, .int .u64 61, .int .u64 118787, .int .u64 62, .int .u64 0, .int .u64 88, .int .u64 0, .int .u64 104, .int .u64 57351, .int .u64 105, .int .u64 0, .int .u64 112, .int .u64 49413, .int .u64 124, .int .u64 12291, .int .u64 127, .int .u64 53255, .int .u64 96, .int .u64 0, .int .u64 8, .int .u64 0] 29 (0, 0)) := heap_alloc_new w1 _
    have h2 := h1.nil ((Touch.refl Nil w1).alloc (.cells #[.int .u64 24, .int .u64 16387, .int .u64 31, .int .u64 45059, .int .u64 32, .int .u64 3, .int .u64 33, .int .u64 4099, .int .u64 61, .int .u64 118787, .int .u64 62, .int .u64 0, .int .u64 88, .int .u64 0, .int .u64 104, .int .u64 57351, .int .u64 105, .int .u64 0, .int .u64 112, .int .u64 49413, .int .u64 124, .int .u64 12291, .int .u64 127, .int .u64 53255, .int .u64 96, .int .u64 0, .int .u64 8, .int .u64 0] 29))
    generalize w1.alloc (.cells #[.int .u64 24, .int .u64 16387, .int .u64 31, .int .u64 45059, .int .u64 32, .int .u64 3, .int .u64 33, .int .u64 4099, .int .u64 61, .int .u64 118787, .int .u64 62, .int .u64 0, .int .u64 88, .int .u64 0, .int .u64 104, .int .u64 57351, .int .u64 105, .int .u64 0, .int .u64 112, .int .u64 49413, .int .u64 124, .int .u64 12291, .int .u64 127, .int .u64 53255, .int .u64 96, .int .u64 0, .int .u64 8, .int .u64 0] 29) = W at *
    generalize w1.heap.size = G at *
    have hGl : G < W.heap.size := lt_of_block' hL
    clear h1 T1
    go_cut [55] (fun _ wx => YAt wx q p b c y ∧ Touch Nil w wx)
    case first =>
      go_wp2_with fail
      go_loopg [55] 14 (fun g i wr => ∃ k : Nat, g + k = 14 ∧ i = .int .i64 k ∧ YAt wr q p b c y ∧ Touch Nil W wr)
      case atStart => exact ⟨0, by omega, rfl, h2, Touch.refl _ _⟩
      case round =>
        obtain ⟨k, hg, rfl, hk, tk⟩ := hrel
        by_cases h14 : k < 14
        · have k1 : (k : Int) < 14 := by omega
          have hLk := (tk.block G hGl (fun h => h)).trans hL
          obtain ⟨A, V, hA0, hA1, c0, c1, hrd⟩ := pairsT k h14
          have d0 : wr.cell? ⟨G, k * 2, none⟩ = some (.int .u64 A) := by unfold World.cell?; simp only [hLk]; exact c0
          have d1 : wr.cell? ⟨G, k * 2 + 1, none⟩ = some (.int .u64 V) := by unfold World.cell?; simp only [hLk]; exact c1
          rw [hy.out] at hrd
          have hR := read_any (((hk.nil ((Touch.refl Nil wr).alloc (.cells #[.int .u64 A, .int .u64 V] 29)))).me) A (by omega)
          rw [hrd.1, hrd.2] at hR
          have hwA : IntKind.i64.wrap A = A := by rw [IntKind.wrap_i64]; omega
          clear hLk c0 c1 hrd
          go_wp2_with (go_at_call 8; refine hR.mono ?_; rintro e wq ⟨rfl, rfl⟩)
          go_roundg (14 - (k + 1))
          case measure => omega
          case rel => exact ⟨k + 1, by omega, by go_num, hk.nil ((Touch.refl Nil wr).alloc _), tk.alloc _⟩
        · have k1 : ¬ ((k : Int) < 14) := by omega
          go_wp2_with fail
          go_meet
          exact ⟨hk, t2.trans tk⟩
    case rest =>
      clear h2 t2 hL hGl
      obtain ⟨h3, t3⟩ := hcut
      have hRt := sroots_any h3.sp
      have ek : y.S.kern = 15 := by rw [← hy.out]; decide +kernel
      have eu : y.S.user = 16 := by rw [← hy.out]; decide +kernel
      rw [ek, eu] at hRt
      go_upto_region 18 with (go_at_call 9; refine hRt.mono ?_; rintro e w4 ⟨rfl, t4⟩)
      have h4 := h3.nil t4
      have T4 := t3.trans t4
      clear hRt h3 t3 t4
      go_upto_block 2 with fail
      have t5 := T4.alloc (.cells #[.int .i64 5, .int .i64 4, .int .i64 4, .int .i64 1, .int .i64 1, .int .i64 1, .int .i64 1, .int .i64 1, .int .i64 1, .int .i64 1, .int .i64 1, .int .i64 1, .int .i64 3, .int .i64 1, .int .i64 1, .int .i64 1] 3)
      have hL : (w4.alloc (.cells #[.int .i64 5, .int .i64 4, .int .i64 4, .int .i64 1, .int .i64 1, .int .i64 1, .int .i64 1, .int .i64 1, .int .i64 1, .int .i64 1, .int .i64 1, .int .i64 1, .int .i64 3, .int .i64 1, .int .i64 1, .int .i64 1] 3)).heap[w4.heap.size]? = some (.cells #[.int .i64 5, .int .i64 4, .int .i64 4, .int .i64 1, .int .i64 1, .int .i64 1, .int .i64 1, .int .i64 1, .int .i64 1, .int .i64 1, .int .i64 1, .int .i64 1, .int .i64 3, .int .i64 1, .int .i64 1, .int .i64 1] 3 (0, 0)) := heap_alloc_new w4 _
      have h5 := h4.nil ((Touch.refl Nil w4).alloc (.cells #[.int .i64 5, .int .i64 4, .int .i64 4, .int .i64 1, .int .i64 1, .int .i64 1, .int .i64 1, .int .i64 1, .int .i64 1, .int .i64 1, .int .i64 1, .int .i64 1, .int .i64 3, .int .i64 1, .int .i64 1, .int .i64 1] 3))
      generalize w4.alloc (.cells #[.int .i64 5, .int .i64 4, .int .i64 4, .int .i64 1, .int .i64 1, .int .i64 1, .int .i64 1, .int .i64 1, .int .i64 1, .int .i64 1, .int .i64 1, .int .i64 1, .int .i64 3, .int .i64 1, .int .i64 1, .int .i64 1] 3) = W5 at *
      generalize w4.heap.size = G2 at *
      clear h4 T4
      go_cut [100] (fun _ wx => wx = W5)
      case first =>
        go_wp2_with fail
        go_loopg [100] 16 (fun g i wr => ∃ k : Nat, g + k = 16 ∧ i = .int .i64 k ∧ wr = W5)
        case atStart => exact ⟨0, by omega, rfl, rfl⟩
        case round =>
          obtain ⟨k, hg, rfl, rfl⟩ := hrel
          by_cases h16 : k < 16
          · have k1 : (k : Int) < 16 := by omega
            obtain ⟨V, c0, hcl⟩ := classesT k h16
            have d0 : wr.cell? ⟨G2, k, none⟩ = some (.int .i64 V) := by unfold World.cell?; simp only [hL]; exact c0
            rw [hy.out] at hcl
            have hC := class_any h5.me (k : Int)
            rw [hcl] at hC
            clear c0 hcl
            go_wp2_with (go_at_call 10; refine hC.mono ?_; rintro e wq ⟨rfl, rfl⟩)
            go_roundg (16 - (k + 1))
            case measure => omega
            case rel => exact ⟨k + 1, by omega, by go_num, rfl⟩
          · have k1 : ¬ ((k : Int) < 16) := by omega
            go_wp2_with fail
            go_meet
            rfl
      case rest =>
        subst hcut
        go_upto_if 111 with fail
        go_cut [18, 19] (fun v _ wx => v = .int .i64 2 ∧ wx = wc)
        case first =>
          go_wp2_with fail
          go_loopg [19] 7 (fun g i wr => ∃ k : Nat, g + k = 7 ∧ i = .int .i64 k ∧ wr = wc)
          case atStart => exact ⟨0, by omega, rfl, rfl⟩
          case round =>
            obtain ⟨k, hg, rfl, rfl⟩ := hrel
            by_cases h7 : k < 7
            · have k1 : (k : Int) < 7 := by omega
              have hz := user0 k h7
              rw [hy.out] at hz
              have hR := read_any h5.me (128 + (k : Int)) (by omega)
              rw [hz] at hR
              have hw : IntKind.i64.wrap (128 + (k : Int)) = 128 + (k : Int) := by rw [IntKind.wrap_i64]; omega
              clear hz
              go_wp2_with (go_at_call 8; refine hR.mono ?_; rintro e wq ⟨rfl, rfl⟩)
              go_roundg (7 - (k + 1))
              case measure => omega
              case rel => exact ⟨k + 1, by omega, by go_num, rfl⟩
            · have k1 : ¬ ((k : Int) < 7) := by omega
              go_wp2_with fail
              go_meet
              exact ⟨rfl, rfl⟩
        case rest =>
        obtain ⟨rfl, rfl⟩ := hcut
        have hWn := within_any page 256 wc (by decide) (by decide)
        have p0 := Int.emod_nonneg page (b := 256) (by omega)
        have p1 := Int.emod_lt_of_pos page (b := 256) (by omega)
        generalize page % 256 = pg at *
        have hTb := tables_any h5.sp
        have htl : y.S.tabs.length = 2 := by rw [← hy.out]; decide +kernel
        rw [htl] at hTb
        have hk0 : (MS.up 30 true).least ≠ 0 := by decide +kernel
        have hn1 : y.S.need [pg] = 2 := by rw [← hy.out]; exact new_need hk0 p0 p1
        have hn2 : y.S.need [pg, pg] = 2 := by rw [← hy.out]; exact new_need2 hk0 p0 p1
        have hn3 : y.S.need [0, 8, 64] = 5 := by rw [← hy.out]; decide +kernel
        have hg0 : getP y.S y.s pg = 0 := by unfold getP; rw [if_neg (by rw [hn1]; simp)]
        have ok : y.S.ok := by rw [← hy.out]; exact new_ok30 true
        go_upto_region 34 with (go_at_call 11; refine hWn.mono ?_; rintro e wq ⟨rfl, rfl⟩)
        clear hWn
        go_wp2_with fail
        refine hTb.mono ?_
        rintro e w6 ⟨a6, c6, rfl, _, b6⟩
        have t6 : Touch Nil wc w6 := Touch.ofBelow b6
        have h6 := h5.nil t6
        have hN1 := need_one h6.sp pg
        rw [hn1] at hN1
        go_wp2_with fail
        refine hN1.mono ?_
        rintro e w7 ⟨rfl, t7⟩
        have h7 := h6.nil t7
        have hN2 := need_two h7.sp pg pg
        rw [hn2] at hN2
        go_wp2_with fail
        refine hN2.mono ?_
        rintro e w8 ⟨rfl, t8⟩
        have h8 := h7.nil t8
        have hN3 := need_three h8.sp 0 8 64
        rw [hn3] at hN3
        go_wp2_with fail
        refine hN3.mono ?_
        rintro e w9 ⟨rfl, t9⟩
        have h9 := h8.nil t9
        have hGt := get_any h9 ok pg
        rw [hg0] at hGt
        go_wp2_with fail
        refine hGt.mono ?_
        rintro e w10 ⟨rfl, t10⟩
        go_wp2_with fail
        refine (wakes9 _).mono ?_
        rintro e w11 ⟨rfl, t11⟩
        go_wp2_with fail
        go_ret
        exact ⟨rfl, (((((t5.trans t6).trans t7).trans t8).trans t9).trans t10).trans t11⟩

  | false =>
    go_enter Try.func3, Try.ntmps3
    go_upto_region 2 with fail
    have t0 := (Touch.refl Nil w).alloc (.cells #[.int .i64 30, .int .i64 1, .bool false, .bool false] 23)
    have hO := one_any 30 (by omega) (by omega) 1 (by decide) false false (by rw [up30_left]; decide) (w.alloc (.cells #[.int .i64 30, .int .i64 1, .bool false, .bool false] 23))
    unfold cfV at hO
    go_upto_region 8 with (go_at_call 7; refine hO.mono ?_; rintro e w1 ⟨q, p, b, c, rfl, _, _, _, _, h1, t1⟩)
    clear hO
    have T1 := t0.trans t1
    clear t0 t1
    obtain ⟨y, hy⟩ : ∃ y, Hid (YS.new 0 false (fun _ => 0) (MS.up 30 false) = y) := ⟨_, rfl⟩
    rw [hy.out] at h1
    have hor0 : bits .or .u64 3 256 = 259 := by decide +kernel
    have hor1 : bits .or .u64 4099 256 = 4355 := by decide +kernel
    have hor2 : bits .or .u64 118787 256 = 119043 := by decide +kernel
    go_upto_block 0 with fail
    have t2 := T1.alloc (.cells #[.int .u64 24, .int .u64 16387, .int .u64 31, .int .u64 45059, .int .u64 32, .int .u64 259, .int .u64 33, .int .u64 4355, .int .u64 61, .int .u64 119043, .int .u64 62, .int .u64 0, .int .u64 88, .int .u64 0, .int .u64 104, .int .u64 57351, .int .u64 105, .int .u64 0, .int .u64 112, .int .u64 49413, .int .u64 124, .int .u64 12291, .int .u64 127, .int .u64 53255, .int .u64 96, .int .u64 0, .int .u64 8, .int .u64 0] 29)
    have hL : (w1.alloc (.cells #[.int .u64 24, .int .u64 16387, .int .u64 31, .int .u64 45059, .int .u64 32, .int .u64 259, .int .u64 33, .int .u64 4355, .int .u64 61, .int .u64 119043, .int .u64 62, .int .u64 0, .int .u64 88, .int .u64 0, .int .u64 104, .int .u64 57351, .int .u64 105, .int .u64 0, .int .u64 112, .int .u64 49413, .int .u64 124, .int .u64 12291, .int .u64 127, .int .u64 53255, .int .u64 96, .int .u64 0, .int .u64 8, .int .u64 0] 29)).heap[w1.heap.size]? = some (.cells #[.int .u64 24, .int .u64 16387, .int .u64 31, .int .u64 45059, .int .u64 32, .int .u64 259, .int .u64 33, .int .u64 4355, .int .u64 61, .int .u64 119043, .int .u64 62, .int .u64 0, .int .u64 88, .int .u64 0, .int .u64 104, .int .u64 57351, .int .u64 105, .int .u64 0, .int .u64 112, .int .u64 49413, .int .u64 124, .int .u64 12291, .int .u64 127, .int .u64 53255, .int .u64 96, .int .u64 0, .int .u64 8, .int .u64 0] 29 (0, 0)) := heap_alloc_new w1 _
    have h2 := h1.nil ((Touch.refl Nil w1).alloc (.cells #[.int .u64 24, .int .u64 16387, .int .u64 31, .int .u64 45059, .int .u64 32, .int .u64 259, .int .u64 33, .int .u64 4355, .int .u64 61, .int .u64 119043, .int .u64 62, .int .u64 0, .int .u64 88, .int .u64 0, .int .u64 104, .int .u64 57351, .int .u64 105, .int .u64 0, .int .u64 112, .int .u64 49413, .int .u64 124, .int .u64 12291, .int .u64 127, .int .u64 53255, .int .u64 96, .int .u64 0, .int .u64 8, .int .u64 0] 29))
    generalize w1.alloc (.cells #[.int .u64 24, .int .u64 16387, .int .u64 31, .int .u64 45059, .int .u64 32, .int .u64 259, .int .u64 33, .int .u64 4355, .int .u64 61, .int .u64 119043, .int .u64 62, .int .u64 0, .int .u64 88, .int .u64 0, .int .u64 104, .int .u64 57351, .int .u64 105, .int .u64 0, .int .u64 112, .int .u64 49413, .int .u64 124, .int .u64 12291, .int .u64 127, .int .u64 53255, .int .u64 96, .int .u64 0, .int .u64 8, .int .u64 0] 29) = W at *
    generalize w1.heap.size = G at *
    have hGl : G < W.heap.size := lt_of_block' hL
    clear h1 T1
    go_cut [55] (fun _ wx => YAt wx q p b c y ∧ Touch Nil w wx)
    case first =>
      go_wp2_with fail
      go_loopg [55] 14 (fun g i wr => ∃ k : Nat, g + k = 14 ∧ i = .int .i64 k ∧ YAt wr q p b c y ∧ Touch Nil W wr)
      case atStart => exact ⟨0, by omega, rfl, h2, Touch.refl _ _⟩
      case round =>
        obtain ⟨k, hg, rfl, hk, tk⟩ := hrel
        by_cases h14 : k < 14
        · have k1 : (k : Int) < 14 := by omega
          have hLk := (tk.block G hGl (fun h => h)).trans hL
          obtain ⟨A, V, hA0, hA1, c0, c1, hrd⟩ := pairsF k h14
          have d0 : wr.cell? ⟨G, k * 2, none⟩ = some (.int .u64 A) := by unfold World.cell?; simp only [hLk]; exact c0
          have d1 : wr.cell? ⟨G, k * 2 + 1, none⟩ = some (.int .u64 V) := by unfold World.cell?; simp only [hLk]; exact c1
          rw [hy.out] at hrd
          have hR := read_any (((hk.nil ((Touch.refl Nil wr).alloc (.cells #[.int .u64 A, .int .u64 V] 29)))).me) A (by omega)
          rw [hrd.1, hrd.2] at hR
          have hwA : IntKind.i64.wrap A = A := by rw [IntKind.wrap_i64]; omega
          clear hLk c0 c1 hrd
          go_wp2_with (go_at_call 8; refine hR.mono ?_; rintro e wq ⟨rfl, rfl⟩)
          go_roundg (14 - (k + 1))
          case measure => omega
          case rel => exact ⟨k + 1, by omega, by go_num, hk.nil ((Touch.refl Nil wr).alloc _), tk.alloc _⟩
        · have k1 : ¬ ((k : Int) < 14) := by omega
          go_wp2_with fail
          go_meet
          exact ⟨hk, t2.trans tk⟩
    case rest =>
      clear h2 t2 hL hGl
      obtain ⟨h3, t3⟩ := hcut
      have hRt := sroots_any h3.sp
      have ek : y.S.kern = 15 := by rw [← hy.out]; decide +kernel
      have eu : y.S.user = 15 := by rw [← hy.out]; decide +kernel
      rw [ek, eu] at hRt
      go_upto_region 18 with (go_at_call 9; refine hRt.mono ?_; rintro e w4 ⟨rfl, t4⟩)
      have h4 := h3.nil t4
      have T4 := t3.trans t4
      clear hRt h3 t3 t4
      go_upto_block 2 with fail
      have t5 := T4.alloc (.cells #[.int .i64 5, .int .i64 4, .int .i64 4, .int .i64 1, .int .i64 1, .int .i64 1, .int .i64 1, .int .i64 1, .int .i64 1, .int .i64 1, .int .i64 1, .int .i64 1, .int .i64 3, .int .i64 1, .int .i64 1, .int .i64 1] 3)
      have hL : (w4.alloc (.cells #[.int .i64 5, .int .i64 4, .int .i64 4, .int .i64 1, .int .i64 1, .int .i64 1, .int .i64 1, .int .i64 1, .int .i64 1, .int .i64 1, .int .i64 1, .int .i64 1, .int .i64 3, .int .i64 1, .int .i64 1, .int .i64 1] 3)).heap[w4.heap.size]? = some (.cells #[.int .i64 5, .int .i64 4, .int .i64 4, .int .i64 1, .int .i64 1, .int .i64 1, .int .i64 1, .int .i64 1, .int .i64 1, .int .i64 1, .int .i64 1, .int .i64 1, .int .i64 3, .int .i64 1, .int .i64 1, .int .i64 1] 3 (0, 0)) := heap_alloc_new w4 _
      have h5 := h4.nil ((Touch.refl Nil w4).alloc (.cells #[.int .i64 5, .int .i64 4, .int .i64 4, .int .i64 1, .int .i64 1, .int .i64 1, .int .i64 1, .int .i64 1, .int .i64 1, .int .i64 1, .int .i64 1, .int .i64 1, .int .i64 3, .int .i64 1, .int .i64 1, .int .i64 1] 3))
      generalize w4.alloc (.cells #[.int .i64 5, .int .i64 4, .int .i64 4, .int .i64 1, .int .i64 1, .int .i64 1, .int .i64 1, .int .i64 1, .int .i64 1, .int .i64 1, .int .i64 1, .int .i64 1, .int .i64 3, .int .i64 1, .int .i64 1, .int .i64 1] 3) = W5 at *
      generalize w4.heap.size = G2 at *
      clear h4 T4
      go_cut [100] (fun _ wx => wx = W5)
      case first =>
        go_wp2_with fail
        go_loopg [100] 16 (fun g i wr => ∃ k : Nat, g + k = 16 ∧ i = .int .i64 k ∧ wr = W5)
        case atStart => exact ⟨0, by omega, rfl, rfl⟩
        case round =>
          obtain ⟨k, hg, rfl, rfl⟩ := hrel
          by_cases h16 : k < 16
          · have k1 : (k : Int) < 16 := by omega
            obtain ⟨V, c0, hcl⟩ := classesF k h16
            have d0 : wr.cell? ⟨G2, k, none⟩ = some (.int .i64 V) := by unfold World.cell?; simp only [hL]; exact c0
            rw [hy.out] at hcl
            have hC := class_any h5.me (k : Int)
            rw [hcl] at hC
            clear c0 hcl
            go_wp2_with (go_at_call 10; refine hC.mono ?_; rintro e wq ⟨rfl, rfl⟩)
            go_roundg (16 - (k + 1))
            case measure => omega
            case rel => exact ⟨k + 1, by omega, by go_num, rfl⟩
          · have k1 : ¬ ((k : Int) < 16) := by omega
            go_wp2_with fail
            go_meet
            rfl
      case rest =>
        subst hcut
        have hWn := within_any page 256 wc (by decide) (by decide)
        have p0 := Int.emod_nonneg page (b := 256) (by omega)
        have p1 := Int.emod_lt_of_pos page (b := 256) (by omega)
        generalize page % 256 = pg at *
        have hTb := tables_any h5.sp
        have htl : y.S.tabs.length = 1 := by rw [← hy.out]; decide +kernel
        rw [htl] at hTb
        have hk0 : (MS.up 30 false).least ≠ 0 := by decide +kernel
        have hn1 : y.S.need [pg] = 2 := by rw [← hy.out]; exact new_need hk0 p0 p1
        have hn2 : y.S.need [pg, pg] = 2 := by rw [← hy.out]; exact new_need2 hk0 p0 p1
        have hn3 : y.S.need [0, 8, 64] = 5 := by rw [← hy.out]; decide +kernel
        have hg0 : getP y.S y.s pg = 0 := by unfold getP; rw [if_neg (by rw [hn1]; simp)]
        have ok : y.S.ok := by rw [← hy.out]; exact new_ok30 false
        go_upto_region 34 with (go_at_call 11; refine hWn.mono ?_; rintro e wq ⟨rfl, rfl⟩)
        clear hWn
        go_wp2_with fail
        refine hTb.mono ?_
        rintro e w6 ⟨a6, c6, rfl, _, b6⟩
        have t6 : Touch Nil wc w6 := Touch.ofBelow b6
        have h6 := h5.nil t6
        have hN1 := need_one h6.sp pg
        rw [hn1] at hN1
        go_wp2_with fail
        refine hN1.mono ?_
        rintro e w7 ⟨rfl, t7⟩
        have h7 := h6.nil t7
        have hN2 := need_two h7.sp pg pg
        rw [hn2] at hN2
        go_wp2_with fail
        refine hN2.mono ?_
        rintro e w8 ⟨rfl, t8⟩
        have h8 := h7.nil t8
        have hN3 := need_three h8.sp 0 8 64
        rw [hn3] at hN3
        go_wp2_with fail
        refine hN3.mono ?_
        rintro e w9 ⟨rfl, t9⟩
        have h9 := h8.nil t9
        have hGt := get_any h9 ok pg
        rw [hg0] at hGt
        go_wp2_with fail
        refine hGt.mono ?_
        rintro e w10 ⟨rfl, t10⟩
        go_wp2_with fail
        refine (wakes9 _).mono ?_
        rintro e w11 ⟨rfl, t11⟩
        go_wp2_with fail
        go_ret
        exact ⟨rfl, (((((t5.trans t6).trans t7).trans t8).trans t9).trans t10).trans t11⟩

end Go.Proofs.Ytfbmjagchjhddaa
