/-
  The document's registers (penumbraref01): on, Done, Fault, Address.
-/
import Derived.Test.YtdhamejgdapdjaaDoorRegH
namespace Go.Proofs.YtdhamejgdapdjaaDoor
open Go.ChangeShapes Go.WideShapes Go.ChangeAt Go.RowKit

set_option maxRecDepth 20000 in
set_option maxHeartbeats 1000000 in
theorem ron_any {w : World} (s : RS) (a : Option Addr) (n c : Nat) (pc : Int) :
    Calls Tryd.prog 50 #[stV s a n c, .int .i64 pc] w fun e w' => e = .returned (stV (s.go n pc) a n c) ∧ Below w.heap.size w w' := by
  unfold stV RS.go
  by_cases h : (n : Int) ≤ pc
  · rw [if_pos h]
    go_enter Tryd.func50, Tryd.ntmps50
    go_wp2_with fail
    refine bodyPost_ret (v := stV ⟨s.r, 0⟩ a n c) (by simp [results, Tryd.results50, go_sem, stV]) rfl ⟨rfl, ?_⟩
    exact ((Below.refl _ w).alloc (Nat.le_refl _) _).alloc (by simp) _
  · rw [if_neg h]
    go_enter Tryd.func50, Tryd.ntmps50
    go_wp2_with fail
    refine bodyPost_ret (v := stV ⟨s.r, pc⟩ a n c) (by simp [results, Tryd.results50, go_sem, stV]) rfl ⟨rfl, ?_⟩
    exact ((Below.refl _ w).alloc (Nat.le_refl _) _).alloc (by simp) _

theorem SCells.cell {w : World} {B : Nat} {r : Nat → Int} {v p : Value} (h : SCells w B r v p) {k : Nat} (hk : k < 8) : w.cell? ⟨B, k, none⟩ = some (.int .u64 (r k)) := by
  obtain ⟨c0, c1, c2, c3, c4, c5, c6, c7, _, _⟩ := h
  rcases nat8 hk with rfl | rfl | rfl | rfl | rfl | rfl | rfl | rfl <;> assumption
/-- .. the caller's ten cells beside it. -/
theorem ron_with {W : World} {B : Nat} (s : RS) (a : Option Addr) (n c : Nat) (pc : Int) {s2 : RS} (hs : s.go n pc = s2) (hB : W.heap[B]? = some (.cells zCells 57 (0, 0))) :
    Calls Tryd.prog 50 #[stV s a n c, .int .i64 pc] W fun e w' => e = .returned (stV s2 a n c) ∧ Below W.heap.size W w' ∧ SCells w' B (fun _ => 0) (.slice none 0 0) (.int .i64 0) ∧ (∀ i, w'.frozen? ⟨B, i, none⟩ = false) := by
  subst hs
  refine (ron_any s a n c pc).mono ?_
  rintro e w1 ⟨he, b1⟩
  exact ⟨he, b1, SCells.of (r := fun _ => 0) (cells_of hB b1), cells_frozen (cells_of hB b1)⟩
/-- A state, ten new cells. -/
abbrev rBox (w : World) (s : RS) (a : Option Addr) (n c : Nat) : World := (w.alloc (.cells #[.int .u64 (s.r 0), .int .u64 (s.r 1), .int .u64 (s.r 2), .int .u64 (s.r 3), .int .u64 (s.r 4), .int .u64 (s.r 5), .int .u64 (s.r 6), .int .u64 (s.r 7), .slice a n c, .int .i64 s.pc] 57)).alloc (.cells zCells 57)
theorem rBox_new (w : World) (s : RS) (a : Option Addr) (n c : Nat) : (rBox w s a n c).heap[w.heap.size + 1]? = some (.cells zCells 57 (0, 0)) := by
  have := heap_alloc_new (w.alloc (.cells #[.int .u64 (s.r 0), .int .u64 (s.r 1), .int .u64 (s.r 2), .int .u64 (s.r 3), .int .u64 (s.r 4), .int .u64 (s.r 5), .int .u64 (s.r 6), .int .u64 (s.r 7), .slice a n c, .int .i64 s.pc] 57)) (.cells zCells 57)
  simpa using this
theorem rBox_below (w : World) (s : RS) (a : Option Addr) (n c : Nat) : Below w.heap.size w (rBox w s a n c) := ((Below.refl _ w).alloc (Nat.le_refl _) _).alloc (by simp) _

theorem on_go (s : RS) (n : Nat) (h : s.pc < n) : s.on n = s.go n (s.pc + 1) := by
  unfold RS.on; rw [if_neg (by omega)]

set_option maxRecDepth 20000 in
set_option maxHeartbeats 1000000 in
theorem rfault_any {w : World} (s : RS) (a : Option Addr) (n c : Nat) (k : Int) (hk : 0 ≤ k ∧ k < 9) (hp : 0 ≤ s.pc ∧ s.pc < n) (hn : n ≤ 1000) :
    Calls Tryd.prog 31 #[stV s a n c, .int .i64 k] w fun e w' => e = .returned (stV (faultP n s k) a n c) ∧ Below w.heap.size w w' := by
  obtain ⟨hk0, hk9⟩ := hk
  obtain ⟨hp0, hpn⟩ := hp
  have hs : RS.set s 7 (100 + k) = ⟨fun j => if j = 7 then 100 + k else s.r j, s.pc⟩ := rfl
  obtain ⟨s2, h2⟩ : ∃ s2, Hid (faultP n s k = s2) := ⟨_, rfl⟩
  rw [h2.out]
  have h3 : RS.go ⟨fun j => if j = 7 then 100 + k else s.r j, s.pc⟩ n (s.pc + 1) = s2 := by
    rw [← h2.out, faultP, hs]
    exact (on_go ⟨fun j => if j = 7 then 100 + k else s.r j, s.pc⟩ n hpn).symm
  have hB := rBox_new w ⟨fun j => if j = 7 then 100 + k else s.r j, s.pc⟩ a n c
  have hW := rBox_below w ⟨fun j => if j = 7 then 100 + k else s.r j, s.pc⟩ a n c
  have hO := ron_with ⟨fun j => if j = 7 then 100 + k else s.r j, s.pc⟩ a n c (s.pc + 1) h3 hB
  have hq : wrap64 (s.pc + 1) = s.pc + 1 := by unfold wrap64; omega
  clear h3 hs h2
  unfold stV at hO
  simp only [rBox, Nat.reduceEqDiff, if_true, if_false] at hO hW
  unfold stV
  go_enter Tryd.func31, Tryd.ntmps31
  go_wp2_with fail
  refine hO.mono ?_
  rintro e w1 ⟨rfl, b1, ⟨m0, m1, m2, m3, m4, m5, m6, m7, m8, m9⟩, mf⟩
  go_wp2_with fail
  refine bodyPost_ret (v := stV s2 a n c) (by simp [results, Tryd.results31, go_sem, stV, m0, m1, m2, m3, m4, m5, m6, m7, m8, m9]) rfl ⟨rfl, ?_⟩
  exact put10_below (s := s2) (past hW b1) (Nat.le_succ _)
/-- A state, an instruction, ten new cells. -/
abbrev qBox (w : World) (s : RS) (x : Ins) (a : Option Addr) (n c : Nat) : World := ((w.alloc (.cells #[.int .u64 (s.r 0), .int .u64 (s.r 1), .int .u64 (s.r 2), .int .u64 (s.r 3), .int .u64 (s.r 4), .int .u64 (s.r 5), .int .u64 (s.r 6), .int .u64 (s.r 7), .slice a n c, .int .i64 s.pc] 57)).alloc (.cells #[.int .i64 x.op, .int .i64 x.a, .int .i64 x.b, .int .i64 x.n] 32)).alloc (.cells zCells 57)
theorem qBox_new (w : World) (s : RS) (x : Ins) (a : Option Addr) (n c : Nat) : (qBox w s x a n c).heap[w.heap.size + 2]? = some (.cells zCells 57 (0, 0)) := by
  have := heap_alloc_new ((w.alloc (.cells #[.int .u64 (s.r 0), .int .u64 (s.r 1), .int .u64 (s.r 2), .int .u64 (s.r 3), .int .u64 (s.r 4), .int .u64 (s.r 5), .int .u64 (s.r 6), .int .u64 (s.r 7), .slice a n c, .int .i64 s.pc] 57)).alloc (.cells #[.int .i64 x.op, .int .i64 x.a, .int .i64 x.b, .int .i64 x.n] 32)) (.cells zCells 57)
  simpa using this
theorem qBox_below (w : World) (s : RS) (x : Ins) (a : Option Addr) (n c : Nat) : Below w.heap.size w (qBox w s x a n c) := (((Below.refl _ w).alloc (Nat.le_refl _) _).alloc (by simp) _).alloc (by simp; omega) _

set_option maxRecDepth 20000 in
set_option maxHeartbeats 4000000 in
theorem rdone_any {w : World} (s : RS) (a : Option Addr) (n c : Nat) (x : Ins) (v : Int) (hx : okP x = true) (hp : 0 ≤ s.pc ∧ s.pc < n) (hn : n ≤ 1000) :
    Calls Tryd.prog 30 #[stV s a n c, insV x, .int .u64 v] w fun e w' => e = .returned (stV (doneP n s x v) a n c) ∧ Below w.heap.size w w' := by
  obtain ⟨hp0, hpn⟩ := hp
  have hab := (ok_ab hx).1
  obtain ⟨op, xa, xb, xn⟩ := x
  simp only at hab
  have hq : wrap64 (s.pc + 1) = s.pc + 1 := by unfold wrap64; omega
  obtain ⟨s2, h2⟩ : ∃ s2, Hid (doneP n s ⟨op, xa, xb, xn⟩ v = s2) := ⟨_, rfl⟩
  rw [h2.out]
  unfold doneP at h2
  by_cases h3' : op = 3
  · subst h3'
    rw [if_pos rfl] at h2
    clear hx
    rcases eight hab.1 hab.2 with rfl | rfl | rfl | rfl | rfl | rfl | rfl | rfl
    · -- register 0
      have h3 : RS.go ⟨fun j => if j = 0 then v else s.r j, s.pc⟩ n (s.pc + 1) = s2 := by
        rw [← h2.out]; exact (on_go ⟨fun j => if j = 0 then v else s.r j, s.pc⟩ n hpn).symm
      have hB := qBox_new w ⟨fun j => if j = 0 then v else s.r j, s.pc⟩ ⟨3, 0, xb, xn⟩ a n c
      have hW := qBox_below w ⟨fun j => if j = 0 then v else s.r j, s.pc⟩ ⟨3, 0, xb, xn⟩ a n c
      have hO := ron_with ⟨fun j => if j = 0 then v else s.r j, s.pc⟩ a n c (s.pc + 1) h3 hB
      clear h3 h2
      unfold stV at hO
      simp only [qBox, Nat.reduceEqDiff, if_true, if_false] at hO hW
      unfold stV insV
      go_enter Tryd.func30, Tryd.ntmps30
      go_wp2_with fail
      refine hO.mono ?_
      rintro e w1 ⟨rfl, b1, ⟨m0, m1, m2, m3, m4, m5, m6, m7, m8, m9⟩, mf⟩
      go_wp2_with fail
      refine bodyPost_ret (v := stV s2 a n c) (by simp [results, Tryd.results30, go_sem, stV, m0, m1, m2, m3, m4, m5, m6, m7, m8, m9]) rfl ⟨rfl, ?_⟩
      exact put10_below (s := s2) (past hW b1) (by omega)
    · -- register 1
      have h3 : RS.go ⟨fun j => if j = 1 then v else s.r j, s.pc⟩ n (s.pc + 1) = s2 := by
        rw [← h2.out]; exact (on_go ⟨fun j => if j = 1 then v else s.r j, s.pc⟩ n hpn).symm
      have hB := qBox_new w ⟨fun j => if j = 1 then v else s.r j, s.pc⟩ ⟨3, 1, xb, xn⟩ a n c
      have hW := qBox_below w ⟨fun j => if j = 1 then v else s.r j, s.pc⟩ ⟨3, 1, xb, xn⟩ a n c
      have hO := ron_with ⟨fun j => if j = 1 then v else s.r j, s.pc⟩ a n c (s.pc + 1) h3 hB
      clear h3 h2
      unfold stV at hO
      simp only [qBox, Nat.reduceEqDiff, if_true, if_false] at hO hW
      unfold stV insV
      go_enter Tryd.func30, Tryd.ntmps30
      go_wp2_with fail
      refine hO.mono ?_
      rintro e w1 ⟨rfl, b1, ⟨m0, m1, m2, m3, m4, m5, m6, m7, m8, m9⟩, mf⟩
      go_wp2_with fail
      refine bodyPost_ret (v := stV s2 a n c) (by simp [results, Tryd.results30, go_sem, stV, m0, m1, m2, m3, m4, m5, m6, m7, m8, m9]) rfl ⟨rfl, ?_⟩
      exact put10_below (s := s2) (past hW b1) (by omega)
    · -- register 2
      have h3 : RS.go ⟨fun j => if j = 2 then v else s.r j, s.pc⟩ n (s.pc + 1) = s2 := by
        rw [← h2.out]; exact (on_go ⟨fun j => if j = 2 then v else s.r j, s.pc⟩ n hpn).symm
      have hB := qBox_new w ⟨fun j => if j = 2 then v else s.r j, s.pc⟩ ⟨3, 2, xb, xn⟩ a n c
      have hW := qBox_below w ⟨fun j => if j = 2 then v else s.r j, s.pc⟩ ⟨3, 2, xb, xn⟩ a n c
      have hO := ron_with ⟨fun j => if j = 2 then v else s.r j, s.pc⟩ a n c (s.pc + 1) h3 hB
      clear h3 h2
      unfold stV at hO
      simp only [qBox, Nat.reduceEqDiff, if_true, if_false] at hO hW
      unfold stV insV
      go_enter Tryd.func30, Tryd.ntmps30
      go_wp2_with fail
      refine hO.mono ?_
      rintro e w1 ⟨rfl, b1, ⟨m0, m1, m2, m3, m4, m5, m6, m7, m8, m9⟩, mf⟩
      go_wp2_with fail
      refine bodyPost_ret (v := stV s2 a n c) (by simp [results, Tryd.results30, go_sem, stV, m0, m1, m2, m3, m4, m5, m6, m7, m8, m9]) rfl ⟨rfl, ?_⟩
      exact put10_below (s := s2) (past hW b1) (by omega)
    · -- register 3
      have h3 : RS.go ⟨fun j => if j = 3 then v else s.r j, s.pc⟩ n (s.pc + 1) = s2 := by
        rw [← h2.out]; exact (on_go ⟨fun j => if j = 3 then v else s.r j, s.pc⟩ n hpn).symm
      have hB := qBox_new w ⟨fun j => if j = 3 then v else s.r j, s.pc⟩ ⟨3, 3, xb, xn⟩ a n c
      have hW := qBox_below w ⟨fun j => if j = 3 then v else s.r j, s.pc⟩ ⟨3, 3, xb, xn⟩ a n c
      have hO := ron_with ⟨fun j => if j = 3 then v else s.r j, s.pc⟩ a n c (s.pc + 1) h3 hB
      clear h3 h2
      unfold stV at hO
      simp only [qBox, Nat.reduceEqDiff, if_true, if_false] at hO hW
      unfold stV insV
      go_enter Tryd.func30, Tryd.ntmps30
      go_wp2_with fail
      refine hO.mono ?_
      rintro e w1 ⟨rfl, b1, ⟨m0, m1, m2, m3, m4, m5, m6, m7, m8, m9⟩, mf⟩
      go_wp2_with fail
      refine bodyPost_ret (v := stV s2 a n c) (by simp [results, Tryd.results30, go_sem, stV, m0, m1, m2, m3, m4, m5, m6, m7, m8, m9]) rfl ⟨rfl, ?_⟩
      exact put10_below (s := s2) (past hW b1) (by omega)
    · -- register 4
      have h3 : RS.go ⟨fun j => if j = 4 then v else s.r j, s.pc⟩ n (s.pc + 1) = s2 := by
        rw [← h2.out]; exact (on_go ⟨fun j => if j = 4 then v else s.r j, s.pc⟩ n hpn).symm
      have hB := qBox_new w ⟨fun j => if j = 4 then v else s.r j, s.pc⟩ ⟨3, 4, xb, xn⟩ a n c
      have hW := qBox_below w ⟨fun j => if j = 4 then v else s.r j, s.pc⟩ ⟨3, 4, xb, xn⟩ a n c
      have hO := ron_with ⟨fun j => if j = 4 then v else s.r j, s.pc⟩ a n c (s.pc + 1) h3 hB
      clear h3 h2
      unfold stV at hO
      simp only [qBox, Nat.reduceEqDiff, if_true, if_false] at hO hW
      unfold stV insV
      go_enter Tryd.func30, Tryd.ntmps30
      go_wp2_with fail
      refine hO.mono ?_
      rintro e w1 ⟨rfl, b1, ⟨m0, m1, m2, m3, m4, m5, m6, m7, m8, m9⟩, mf⟩
      go_wp2_with fail
      refine bodyPost_ret (v := stV s2 a n c) (by simp [results, Tryd.results30, go_sem, stV, m0, m1, m2, m3, m4, m5, m6, m7, m8, m9]) rfl ⟨rfl, ?_⟩
      exact put10_below (s := s2) (past hW b1) (by omega)
    · -- register 5
      have h3 : RS.go ⟨fun j => if j = 5 then v else s.r j, s.pc⟩ n (s.pc + 1) = s2 := by
        rw [← h2.out]; exact (on_go ⟨fun j => if j = 5 then v else s.r j, s.pc⟩ n hpn).symm
      have hB := qBox_new w ⟨fun j => if j = 5 then v else s.r j, s.pc⟩ ⟨3, 5, xb, xn⟩ a n c
      have hW := qBox_below w ⟨fun j => if j = 5 then v else s.r j, s.pc⟩ ⟨3, 5, xb, xn⟩ a n c
      have hO := ron_with ⟨fun j => if j = 5 then v else s.r j, s.pc⟩ a n c (s.pc + 1) h3 hB
      clear h3 h2
      unfold stV at hO
      simp only [qBox, Nat.reduceEqDiff, if_true, if_false] at hO hW
      unfold stV insV
      go_enter Tryd.func30, Tryd.ntmps30
      go_wp2_with fail
      refine hO.mono ?_
      rintro e w1 ⟨rfl, b1, ⟨m0, m1, m2, m3, m4, m5, m6, m7, m8, m9⟩, mf⟩
      go_wp2_with fail
      refine bodyPost_ret (v := stV s2 a n c) (by simp [results, Tryd.results30, go_sem, stV, m0, m1, m2, m3, m4, m5, m6, m7, m8, m9]) rfl ⟨rfl, ?_⟩
      exact put10_below (s := s2) (past hW b1) (by omega)
    · -- register 6
      have h3 : RS.go ⟨fun j => if j = 6 then v else s.r j, s.pc⟩ n (s.pc + 1) = s2 := by
        rw [← h2.out]; exact (on_go ⟨fun j => if j = 6 then v else s.r j, s.pc⟩ n hpn).symm
      have hB := qBox_new w ⟨fun j => if j = 6 then v else s.r j, s.pc⟩ ⟨3, 6, xb, xn⟩ a n c
      have hW := qBox_below w ⟨fun j => if j = 6 then v else s.r j, s.pc⟩ ⟨3, 6, xb, xn⟩ a n c
      have hO := ron_with ⟨fun j => if j = 6 then v else s.r j, s.pc⟩ a n c (s.pc + 1) h3 hB
      clear h3 h2
      unfold stV at hO
      simp only [qBox, Nat.reduceEqDiff, if_true, if_false] at hO hW
      unfold stV insV
      go_enter Tryd.func30, Tryd.ntmps30
      go_wp2_with fail
      refine hO.mono ?_
      rintro e w1 ⟨rfl, b1, ⟨m0, m1, m2, m3, m4, m5, m6, m7, m8, m9⟩, mf⟩
      go_wp2_with fail
      refine bodyPost_ret (v := stV s2 a n c) (by simp [results, Tryd.results30, go_sem, stV, m0, m1, m2, m3, m4, m5, m6, m7, m8, m9]) rfl ⟨rfl, ?_⟩
      exact put10_below (s := s2) (past hW b1) (by omega)
    · -- register 7
      have h3 : RS.go ⟨fun j => if j = 7 then v else s.r j, s.pc⟩ n (s.pc + 1) = s2 := by
        rw [← h2.out]; exact (on_go ⟨fun j => if j = 7 then v else s.r j, s.pc⟩ n hpn).symm
      have hB := qBox_new w ⟨fun j => if j = 7 then v else s.r j, s.pc⟩ ⟨3, 7, xb, xn⟩ a n c
      have hW := qBox_below w ⟨fun j => if j = 7 then v else s.r j, s.pc⟩ ⟨3, 7, xb, xn⟩ a n c
      have hO := ron_with ⟨fun j => if j = 7 then v else s.r j, s.pc⟩ a n c (s.pc + 1) h3 hB
      clear h3 h2
      unfold stV at hO
      simp only [qBox, Nat.reduceEqDiff, if_true, if_false] at hO hW
      unfold stV insV
      go_enter Tryd.func30, Tryd.ntmps30
      go_wp2_with fail
      refine hO.mono ?_
      rintro e w1 ⟨rfl, b1, ⟨m0, m1, m2, m3, m4, m5, m6, m7, m8, m9⟩, mf⟩
      go_wp2_with fail
      refine bodyPost_ret (v := stV s2 a n c) (by simp [results, Tryd.results30, go_sem, stV, m0, m1, m2, m3, m4, m5, m6, m7, m8, m9]) rfl ⟨rfl, ?_⟩
      exact put10_below (s := s2) (past hW b1) (by omega)
  · rw [if_neg h3'] at h2
    by_cases h7 : op = 7
    · subst h7
      rw [if_pos rfl] at h2
      have h3 : RS.go ⟨fun j => if j = 0 then v else s.r j, s.pc⟩ n (s.pc + 1) = s2 := by
        rw [← h2.out]; exact (on_go ⟨fun j => if j = 0 then v else s.r j, s.pc⟩ n hpn).symm
      have hB := qBox_new w ⟨fun j => if j = 0 then v else s.r j, s.pc⟩ ⟨7, xa, xb, xn⟩ a n c
      have hW := qBox_below w ⟨fun j => if j = 0 then v else s.r j, s.pc⟩ ⟨7, xa, xb, xn⟩ a n c
      have hO := ron_with ⟨fun j => if j = 0 then v else s.r j, s.pc⟩ a n c (s.pc + 1) h3 hB
      clear h3 h2
      unfold stV at hO
      simp only [qBox, Nat.reduceEqDiff, if_true, if_false] at hO hW
      unfold stV insV
      go_enter Tryd.func30, Tryd.ntmps30
      go_wp2_with fail
      refine hO.mono ?_
      rintro e w1 ⟨rfl, b1, ⟨m0, m1, m2, m3, m4, m5, m6, m7, m8, m9⟩, mf⟩
      go_wp2_with fail
      refine bodyPost_ret (v := stV s2 a n c) (by simp [results, Tryd.results30, go_sem, stV, m0, m1, m2, m3, m4, m5, m6, m7, m8, m9]) rfl ⟨rfl, ?_⟩
      exact put10_below (s := s2) (past hW b1) (by omega)
    · rw [if_neg h7] at h2
      have h3 : RS.go s n (s.pc + 1) = s2 := by
        rw [← h2.out]; exact (on_go s n hpn).symm
      have hB := qBox_new w s ⟨op, xa, xb, xn⟩ a n c
      have hW := qBox_below w s ⟨op, xa, xb, xn⟩ a n c
      have hO := ron_with s a n c (s.pc + 1) h3 hB
      clear h3 h2
      unfold stV at hO
      simp only [qBox] at hO hW
      unfold stV insV
      go_enter Tryd.func30, Tryd.ntmps30
      go_wp2_with fail
      refine hO.mono ?_
      rintro e w1 ⟨rfl, b1, ⟨m0, m1, m2, m3, m4, m5, m6, m7, m8, m9⟩, mf⟩
      go_wp2_with fail
      refine bodyPost_ret (v := stV s2 a n c) (by simp [results, Tryd.results30, go_sem, stV, m0, m1, m2, m3, m4, m5, m6, m7, m8, m9]) rfl ⟨rfl, ?_⟩
      exact put10_below (s := s2) (past hW b1) (by omega)

set_option maxRecDepth 20000 in
set_option maxHeartbeats 1000000 in
theorem rref_any {w : World} (s : RS) (a : Option Addr) (n c : Nat) :
    Calls Tryd.prog 26 #[stV s a n c] w fun e w' => e = .returned (stV s a n c) ∧ Below w.heap.size w w' := by
  unfold stV
  go_enter Tryd.func26, Tryd.ntmps26
  go_wp2_with fail
  refine bodyPost_ret (v := stV s a n c) (by simp [results, Tryd.results26, go_sem, stV]) rfl ⟨rfl, ?_⟩
  exact ((Below.refl _ w).alloc (Nat.le_refl _) _).alloc (by simp) _

set_option maxRecDepth 20000 in
set_option maxHeartbeats 1000000 in
theorem rsame_any {w : World} (s : RS) {a b : Option Addr} {c d : Nat} {l : List Ins} (ha : IsL w a l) (hb : IsL w b l) (hl : l.length ≤ 1000) :
    Calls Tryd.prog 28 #[stV s a l.length c, stV s b l.length d] w fun e w' => e = .returned (.bool true) ∧ Below w.heap.size w w' := by
  have heq := eq8 (s.r 0) (s.r 1) (s.r 2) (s.r 3) (s.r 4) (s.r 5) (s.r 6) (s.r 7)
  have hb0 := fun o1 o2 => ((Below.refl _ w).alloc (Nat.le_refl _) o1).alloc (by simp) o2
  have hS := fun o1 o2 => same_eq (c := c) (d := d) (ha.later (hb0 o1 o2)) (hb.later (hb0 o1 o2)) hl
  unfold stV
  go_enter Tryd.func28, Tryd.ntmps28
  go_wp2_with fail
  refine (hS _ _).mono ?_
  rintro e w1 ⟨rfl, b1⟩
  go_wp2_with fail
  go_ret
  exact ⟨rfl, past (hb0 _ _) b1⟩

theorem and7 (b : Int) (h0 : 0 ≤ b) (h8 : b < 8) : bits .and .i64 b 7 = b := by
  rcases eight h0 h8 with rfl | rfl | rfl | rfl | rfl | rfl | rfl | rfl <;> decide
set_option maxRecDepth 20000 in
set_option maxHeartbeats 1000000 in
theorem raddr_any {w : World} (s : RS) (a : Option Addr) (n c : Nat) (x : Ins) (hx : okP x = true) (hs : s.words) :
    Calls Tryd.prog 29 #[stV s a n c, insV x] w fun e w' => e = .returned (.int .u64 (addW (s.reg x.b) x.n)) ∧ Below w.heap.size w w' := by
  have hab := (ok_ab hx).2
  obtain ⟨op, xa, xb, xn⟩ := x
  simp only at hab
  clear hx
  obtain ⟨⟨b0, b8⟩, n0, n1⟩ := hab
  have hr : RS.reg s xb = s.r xb.toNat := by unfold RS.reg; rw [if_pos ⟨b0, b8⟩]
  have hw := hs xb.toNat
  simp only
  rw [hr]
  have ha7 := and7 xb b0 b8
  have hz : IntKind.u64.wrap (s.r xb.toNat + IntKind.u64.wrap xn) = addW (s.r xb.toNat) xn := by rw [u64w, u64w]; unfold addW; omega
  unfold stV insV
  go_enter Tryd.func29, Tryd.ntmps29
  go_upto_region 1 with fail
  have hSB : SCells ((w.alloc (.cells #[.int .u64 (s.r 0), .int .u64 (s.r 1), .int .u64 (s.r 2), .int .u64 (s.r 3), .int .u64 (s.r 4), .int .u64 (s.r 5), .int .u64 (s.r 6), .int .u64 (s.r 7), .slice a n c, .int .i64 s.pc] 57)).alloc (.cells #[.int .i64 op, .int .i64 xa, .int .i64 xb, .int .i64 xn] 32)) w.heap.size s.r (.slice a n c) (.int .i64 s.pc) := SCells.of ((Below.heap_alloc _ _ _ (by simp)).trans (heap_alloc_new w _))
  have hX := C4.new (w.alloc (.cells #[.int .u64 (s.r 0), .int .u64 (s.r 1), .int .u64 (s.r 2), .int .u64 (s.r 3), .int .u64 (s.r 4), .int .u64 (s.r 5), .int .u64 (s.r 6), .int .u64 (s.r 7), .slice a n c, .int .i64 s.pc] 57)) op xa xb xn 32
  have hb : Below w.heap.size w ((w.alloc (.cells #[.int .u64 (s.r 0), .int .u64 (s.r 1), .int .u64 (s.r 2), .int .u64 (s.r 3), .int .u64 (s.r 4), .int .u64 (s.r 5), .int .u64 (s.r 6), .int .u64 (s.r 7), .slice a n c, .int .i64 s.pc] 57)).alloc (.cells #[.int .i64 op, .int .i64 xa, .int .i64 xb, .int .i64 xn] 32)) := ((Below.refl _ w).alloc (Nat.le_refl _) _).alloc (by simp) _
  rw [World.size_alloc] at hX
  generalize (w.alloc (.cells #[.int .u64 (s.r 0), .int .u64 (s.r 1), .int .u64 (s.r 2), .int .u64 (s.r 3), .int .u64 (s.r 4), .int .u64 (s.r 5), .int .u64 (s.r 6), .int .u64 (s.r 7), .slice a n c, .int .i64 s.pc] 57)).alloc (.cells #[.int .i64 op, .int .i64 xa, .int .i64 xb, .int .i64 xn] 32) = W at *
  have hc := hSB.cell (k := xb.toNat) (by omega)
  obtain ⟨x0, x1, x2, x3, xf⟩ := hX
  go_quiet (fail)
  go_wp2_with fail
  go_ret
  exact ⟨rfl, below_drew' hb _⟩
end Go.Proofs.YtdhamejgdapdjaaDoor
