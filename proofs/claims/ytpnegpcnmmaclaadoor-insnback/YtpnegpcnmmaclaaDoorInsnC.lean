/-
  insn: Print.
-/
import Derived.Test.YtpnegpcnmmaclaaDoorInsnA
import Derived.Test.YtpnegpcnmmaclaaDoorInsnB
namespace Go.Proofs.YtpnegpcnmmaclaaDoor
open Go.ChangeShapes Go.WideShapes Go.ChangeAt Go.RowKit

theorem print_no (x : Ins) (w : World) (hV : Vs w) (hk : okP x = false) :
    Calls Tryd.prog 15 #[insV x] w fun e w' => e = .returned (.tuple #[.string ⟨#[]⟩, .int .i64 1]) ∧ Below w.heap.size w w' := by
  obtain ⟨op, a, b, n⟩ := x
  unfold insV
  go_enter Tryd.func15, Tryd.ntmps15
  go_wp2_with fail
  refine (check_any ⟨op, a, b, n⟩ _ (hV.alloc _)).mono ?_
  rintro e w1 ⟨rfl, b1⟩
  rw [hk]
  go_wp2_with fail
  all_goals go_ret2
  exact ⟨rfl, ((Below.refl _ w).alloc (Nat.le_refl _) _).trans (b1.mono (by simp))⟩

/-- What is read of the copy of an instruction, in every later world. -/
theorem copy_cells {w w1 : World} {v0 v1 v2 v3 : Value} {t : TypeId} (b1 : Below (w.alloc (.cells #[v0, v1, v2, v3] t)).heap.size (w.alloc (.cells #[v0, v1, v2, v3] t)) w1) :
    w1.cell? ⟨w.heap.size, 0, none⟩ = some v0 ∧ w1.cell? ⟨w.heap.size, 1, none⟩ = some v1 ∧ w1.cell? ⟨w.heap.size, 2, none⟩ = some v2 ∧ w1.cell? ⟨w.heap.size, 3, none⟩ = some v3 ∧ w.heap.size < w1.heap.size := by
  have hs : w.heap.size < (w.alloc (.cells #[v0, v1, v2, v3] t)).heap.size := by simp
  have hc := fun i => b1.cell (p := ⟨w.heap.size, i, none⟩) hs
  refine ⟨(hc 0).trans ?_, (hc 1).trans ?_, (hc 2).trans ?_, (hc 3).trans ?_, Nat.lt_of_lt_of_le hs b1.size⟩ <;> simp [go_sem]

theorem Vs.now1 {w : World} (h : Vs w) : w.cell? ⟨0, 5, none⟩ = some (.string ⟨#[115, 101, 116]⟩) ∧ w.cell? ⟨0, 6, none⟩ = some (.bool true) ∧ w.cell? ⟨0, 7, none⟩ = some (.bool false) ∧ w.cell? ⟨0, 8, none⟩ = some (.int .i64 0) ∧ w.cell? ⟨0, 9, none⟩ = some (.int .i64 65535) :=
  ⟨(h.shCell 5).trans rfl, (h.shCell 6).trans rfl, (h.shCell 7).trans rfl, (h.shCell 8).trans rfl, (h.shCell 9).trans rfl⟩
theorem Vs.now2 {w : World} (h : Vs w) : w.cell? ⟨0, 10, none⟩ = some (.string ⟨#[97, 100, 100]⟩) ∧ w.cell? ⟨0, 11, none⟩ = some (.bool true) ∧ w.cell? ⟨0, 12, none⟩ = some (.bool true) ∧ w.cell? ⟨0, 13, none⟩ = some (.int .i64 0) ∧ w.cell? ⟨0, 14, none⟩ = some (.int .i64 0) :=
  ⟨(h.shCell 10).trans rfl, (h.shCell 11).trans rfl, (h.shCell 12).trans rfl, (h.shCell 13).trans rfl, (h.shCell 14).trans rfl⟩
theorem Vs.now3 {w : World} (h : Vs w) : w.cell? ⟨0, 15, none⟩ = some (.string ⟨#[108, 111, 97, 100]⟩) ∧ w.cell? ⟨0, 16, none⟩ = some (.bool true) ∧ w.cell? ⟨0, 17, none⟩ = some (.bool true) ∧ w.cell? ⟨0, 18, none⟩ = some (.int .i64 0) ∧ w.cell? ⟨0, 19, none⟩ = some (.int .i64 65535) :=
  ⟨(h.shCell 15).trans rfl, (h.shCell 16).trans rfl, (h.shCell 17).trans rfl, (h.shCell 18).trans rfl, (h.shCell 19).trans rfl⟩
theorem Vs.now4 {w : World} (h : Vs w) : w.cell? ⟨0, 20, none⟩ = some (.string ⟨#[115, 116, 111, 114, 101]⟩) ∧ w.cell? ⟨0, 21, none⟩ = some (.bool true) ∧ w.cell? ⟨0, 22, none⟩ = some (.bool true) ∧ w.cell? ⟨0, 23, none⟩ = some (.int .i64 0) ∧ w.cell? ⟨0, 24, none⟩ = some (.int .i64 65535) :=
  ⟨(h.shCell 20).trans rfl, (h.shCell 21).trans rfl, (h.shCell 22).trans rfl, (h.shCell 23).trans rfl, (h.shCell 24).trans rfl⟩
theorem Vs.now5 {w : World} (h : Vs w) : w.cell? ⟨0, 25, none⟩ = some (.string ⟨#[99, 108, 101, 97, 114]⟩) ∧ w.cell? ⟨0, 26, none⟩ = some (.bool false) ∧ w.cell? ⟨0, 27, none⟩ = some (.bool true) ∧ w.cell? ⟨0, 28, none⟩ = some (.int .i64 0) ∧ w.cell? ⟨0, 29, none⟩ = some (.int .i64 65535) :=
  ⟨(h.shCell 25).trans rfl, (h.shCell 26).trans rfl, (h.shCell 27).trans rfl, (h.shCell 28).trans rfl, (h.shCell 29).trans rfl⟩
theorem Vs.now6 {w : World} (h : Vs w) : w.cell? ⟨0, 30, none⟩ = some (.string ⟨#[106, 117, 109, 112]⟩) ∧ w.cell? ⟨0, 31, none⟩ = some (.bool true) ∧ w.cell? ⟨0, 32, none⟩ = some (.bool false) ∧ w.cell? ⟨0, 33, none⟩ = some (.int .i64 0) ∧ w.cell? ⟨0, 34, none⟩ = some (.int .i64 23) :=
  ⟨(h.shCell 30).trans rfl, (h.shCell 31).trans rfl, (h.shCell 32).trans rfl, (h.shCell 33).trans rfl, (h.shCell 34).trans rfl⟩
theorem Vs.now7 {w : World} (h : Vs w) : w.cell? ⟨0, 35, none⟩ = some (.string ⟨#[99, 97, 108, 108]⟩) ∧ w.cell? ⟨0, 36, none⟩ = some (.bool false) ∧ w.cell? ⟨0, 37, none⟩ = some (.bool false) ∧ w.cell? ⟨0, 38, none⟩ = some (.int .i64 1) ∧ w.cell? ⟨0, 39, none⟩ = some (.int .i64 9) :=
  ⟨(h.shCell 35).trans rfl, (h.shCell 36).trans rfl, (h.shCell 37).trans rfl, (h.shCell 38).trans rfl, (h.shCell 39).trans rfl⟩

/-- What lies in the two copies that Print has. -/
structure PF (N M : Nat) (v0 v1 v2 v3 f0 f1 f2 f3 f4 : Value) (w : World) : Prop where
  x0 : w.cell? ⟨N, 0, none⟩ = some v0
  x1 : w.cell? ⟨N, 1, none⟩ = some v1
  x2 : w.cell? ⟨N, 2, none⟩ = some v2
  x3 : w.cell? ⟨N, 3, none⟩ = some v3
  g0 : w.cell? ⟨M, 0, none⟩ = some f0
  g1 : w.cell? ⟨M, 1, none⟩ = some f1
  g2 : w.cell? ⟨M, 2, none⟩ = some f2
  g3 : w.cell? ⟨M, 3, none⟩ = some f3
  g4 : w.cell? ⟨M, 4, none⟩ = some f4
  N : N < w.heap.size
  M : M < w.heap.size
  V : Vs w
theorem PF.later {N M : Nat} {v0 v1 v2 v3 f0 f1 f2 f3 f4 : Value} {w w' : World} (h : PF N M v0 v1 v2 v3 f0 f1 f2 f3 f4 w) (b : Below w.heap.size w w') : PF N M v0 v1 v2 v3 f0 f1 f2 f3 f4 w' := by
  have hN := h.N
  have hM := h.M
  have hn := fun i => b.cell (p := ⟨N, i, none⟩) hN
  have hm := fun i => b.cell (p := ⟨M, i, none⟩) hM
  exact ⟨(hn 0).trans h.x0, (hn 1).trans h.x1, (hn 2).trans h.x2, (hn 3).trans h.x3, (hm 0).trans h.g0, (hm 1).trans h.g1, (hm 2).trans h.g2, (hm 3).trans h.g3, (hm 4).trans h.g4, Nat.lt_of_lt_of_le hN b.size, Nat.lt_of_lt_of_le hM b.size, h.V.later b⟩
theorem PF.first {w1 : World} {N : Nat} {v0 v1 v2 v3 f0 f1 f2 f3 f4 : Value} {t : TypeId} (x0 : w1.cell? ⟨N, 0, none⟩ = some v0) (x1 : w1.cell? ⟨N, 1, none⟩ = some v1) (x2 : w1.cell? ⟨N, 2, none⟩ = some v2) (x3 : w1.cell? ⟨N, 3, none⟩ = some v3) (hN : N < w1.heap.size) (V : Vs w1) {a0 a1 a2 a3 a4 : Addr}
    (_k0 : w1.cell? a0 = some f0) (_k1 : w1.cell? a1 = some f1) (_k2 : w1.cell? a2 = some f2) (_k3 : w1.cell? a3 = some f3) (_k4 : w1.cell? a4 = some f4) :
    PF N w1.heap.size v0 v1 v2 v3 f0 f1 f2 f3 f4 (w1.alloc (.cells #[f0, f1, f2, f3, f4] t)) := by
  have b : Below w1.heap.size w1 (w1.alloc (.cells #[f0, f1, f2, f3, f4] t)) := (Below.refl _ w1).alloc (Nat.le_refl _) _
  have hn := fun i => b.cell (p := ⟨N, i, none⟩) hN
  refine ⟨(hn 0).trans x0, (hn 1).trans x1, (hn 2).trans x2, (hn 3).trans x3, ?_, ?_, ?_, ?_, ?_, Nat.lt_of_lt_of_le hN b.size, by simp, V.later b⟩ <;> simp [go_sem]

theorem dig_len (n : Int) : (dig n).length ≤ 21 := by
  have : ∀ f k : Nat, (digF f k).length ≤ f + 1 := by
    intro f; induction f with
    | zero => intro k; simp [digF]
    | succ f ih => intro k; unfold digF; split
                   · simp
                   · have := ih (k / 10); simp; omega
  exact this 20 n.toNat

theorem past_alloc {n : Nat} {w w1 w2 : World} {o : Obj} (c : Below n w w1) (h : n ≤ w1.heap.size) (b : Below (w1.alloc o).heap.size (w1.alloc o) w2) : Below n w w2 :=
  (c.alloc h o).trans (b.mono (by simp; omega))
theorem ret_str {a : ByteArray} {l : List UInt8} {v : Value} (h : a.data.toList = l) : Ending.returned (.tuple #[.string a, v]) = .returned (.tuple #[.string ⟨l.toArray⟩, v]) := by
  subst h; rw [mk_toList]

set_option maxHeartbeats 4000000 in
theorem print_set (a n : Int) (w : World) (hV : Vs w) (hk : okP ⟨1, a, 0, n⟩ = true) :
    Calls Tryd.prog 15 #[.agg #[.int .i64 1, .int .i64 a, .int .i64 0, .int .i64 n]] w fun e w' => e = .returned (.tuple #[.string ⟨(prP ⟨1, a, 0, n⟩).toArray⟩, .int .i64 0]) ∧ Below w.heap.size w w' := by
  have hb : 0 ≤ a ∧ a ≤ 65535 ∧ 0 ≤ n ∧ n ≤ 65535 := by simp [okP, shape, fitP] at hk; omega
  have la := dig_len a
  have ln := dig_len n
  go_enter Tryd.func15, Tryd.ntmps15
  go_wp2_with fail
  refine (check_any ⟨1, a, 0, n⟩ _ (hV.alloc _)).mono ?_
  rintro e w1 ⟨rfl, b1⟩
  rw [hk]
  have V1 := (hV.alloc _).later b1
  obtain ⟨x0, x1, x2, x3, hlt⟩ := copy_cells b1
  obtain ⟨k0, k1, k2, k3, k4⟩ := V1.now1
  go_wp2_with fail
  have P1 := PF.first (t := 60) x0 x1 x2 x3 hlt V1 k0 k1 k2 k3 k4
  clear x0 x1 x2 x3 k0 k1 k2 k3 k4
  refine (itoa_any a (by omega) (by omega) _ P1.V).mono ?_
  rintro e w2 ⟨rfl, b2⟩
  have P2 := P1.later b2
  have Q2 := P2
  obtain ⟨x0, x1, x2, x3, g0, g1, g2, g3, g4, hN, hM, -⟩ := Q2
  go_wp2_with fail
  clear x0 x1 x2 x3 g0 g1 g2 g3 g4 hN hM
  refine (itoa_any n (by omega) (by omega) _ P2.V).mono ?_
  rintro e w3 ⟨rfl, b3⟩
  have P3 := P2.later b3
  have Q3 := P3
  obtain ⟨x0, x1, x2, x3, g0, g1, g2, g3, g4, hN, hM, -⟩ := Q3
  go_wp2_with fail
  all_goals go_ret2
  have c1 : Below w.heap.size w w1 := ((Below.refl _ w).alloc (Nat.le_refl _) _).trans (b1.mono (by simp))
  have c3 : Below w.heap.size w w2 := past_alloc c1 c1.size b2
  have c4 : Below w.heap.size w w3 := c3.trans (b3.mono c3.size)
  refine ⟨?_, c4⟩
  refine ret_str ?_
  simp [prP, shape, regP, numP]

set_option maxHeartbeats 4000000 in
theorem print_add (a b : Int) (w : World) (hV : Vs w) (hk : okP ⟨2, a, b, 0⟩ = true) :
    Calls Tryd.prog 15 #[.agg #[.int .i64 2, .int .i64 a, .int .i64 b, .int .i64 0]] w fun e w' => e = .returned (.tuple #[.string ⟨(prP ⟨2, a, b, 0⟩).toArray⟩, .int .i64 0]) ∧ Below w.heap.size w w' := by
  have hb : 0 ≤ a ∧ a ≤ 65535 ∧ 0 ≤ b ∧ b ≤ 65535 := by simp [okP, shape, fitP] at hk; omega
  have la := dig_len a
  have lb := dig_len b
  go_enter Tryd.func15, Tryd.ntmps15
  go_wp2_with fail
  refine (check_any ⟨2, a, b, 0⟩ _ (hV.alloc _)).mono ?_
  rintro e w1 ⟨rfl, b1⟩
  rw [hk]
  have V1 := (hV.alloc _).later b1
  obtain ⟨x0, x1, x2, x3, hlt⟩ := copy_cells b1
  obtain ⟨k0, k1, k2, k3, k4⟩ := V1.now2
  go_wp2_with fail
  have P1 := PF.first (t := 60) x0 x1 x2 x3 hlt V1 k0 k1 k2 k3 k4
  clear x0 x1 x2 x3 k0 k1 k2 k3 k4
  refine (itoa_any a (by omega) (by omega) _ P1.V).mono ?_
  rintro e w2 ⟨rfl, b2⟩
  have P2 := P1.later b2
  have Q2 := P2
  obtain ⟨x0, x1, x2, x3, g0, g1, g2, g3, g4, hN, hM, -⟩ := Q2
  go_wp2_with fail
  clear x0 x1 x2 x3 g0 g1 g2 g3 g4 hN hM
  refine (itoa_any b (by omega) (by omega) _ P2.V).mono ?_
  rintro e w3 ⟨rfl, b3⟩
  have P3 := P2.later b3
  have Q3 := P3
  obtain ⟨x0, x1, x2, x3, g0, g1, g2, g3, g4, hN, hM, -⟩ := Q3
  go_wp2_with fail
  all_goals go_ret2
  have c1 : Below w.heap.size w w1 := ((Below.refl _ w).alloc (Nat.le_refl _) _).trans (b1.mono (by simp))
  have c3 : Below w.heap.size w w2 := past_alloc c1 c1.size b2
  have c4 : Below w.heap.size w w3 := c3.trans (b3.mono c3.size)
  refine ⟨?_, c4⟩
  refine ret_str ?_
  simp [prP, shape, regP, numP]

set_option maxHeartbeats 4000000 in
theorem print_load (a b n : Int) (w : World) (hV : Vs w) (hk : okP ⟨3, a, b, n⟩ = true) :
    Calls Tryd.prog 15 #[.agg #[.int .i64 3, .int .i64 a, .int .i64 b, .int .i64 n]] w fun e w' => e = .returned (.tuple #[.string ⟨(prP ⟨3, a, b, n⟩).toArray⟩, .int .i64 0]) ∧ Below w.heap.size w w' := by
  have hb : 0 ≤ a ∧ a ≤ 65535 ∧ 0 ≤ b ∧ b ≤ 65535 ∧ 0 ≤ n ∧ n ≤ 65535 := by simp [okP, shape, fitP] at hk; omega
  have la := dig_len a
  have lb := dig_len b
  have ln := dig_len n
  go_enter Tryd.func15, Tryd.ntmps15
  go_wp2_with fail
  refine (check_any ⟨3, a, b, n⟩ _ (hV.alloc _)).mono ?_
  rintro e w1 ⟨rfl, b1⟩
  rw [hk]
  have V1 := (hV.alloc _).later b1
  obtain ⟨x0, x1, x2, x3, hlt⟩ := copy_cells b1
  obtain ⟨k0, k1, k2, k3, k4⟩ := V1.now3
  go_wp2_with fail
  have P1 := PF.first (t := 60) x0 x1 x2 x3 hlt V1 k0 k1 k2 k3 k4
  clear x0 x1 x2 x3 k0 k1 k2 k3 k4
  refine (itoa_any a (by omega) (by omega) _ P1.V).mono ?_
  rintro e w2 ⟨rfl, b2⟩
  have P2 := P1.later b2
  have Q2 := P2
  obtain ⟨x0, x1, x2, x3, g0, g1, g2, g3, g4, hN, hM, -⟩ := Q2
  go_wp2_with fail
  clear x0 x1 x2 x3 g0 g1 g2 g3 g4 hN hM
  refine (itoa_any b (by omega) (by omega) _ P2.V).mono ?_
  rintro e w3 ⟨rfl, b3⟩
  have P3 := P2.later b3
  have Q3 := P3
  obtain ⟨x0, x1, x2, x3, g0, g1, g2, g3, g4, hN, hM, -⟩ := Q3
  go_wp2_with fail
  clear x0 x1 x2 x3 g0 g1 g2 g3 g4 hN hM
  refine (itoa_any n (by omega) (by omega) _ P3.V).mono ?_
  rintro e w4 ⟨rfl, b4⟩
  have P4 := P3.later b4
  have Q4 := P4
  obtain ⟨x0, x1, x2, x3, g0, g1, g2, g3, g4, hN, hM, -⟩ := Q4
  go_wp2_with fail
  all_goals go_ret2
  have c1 : Below w.heap.size w w1 := ((Below.refl _ w).alloc (Nat.le_refl _) _).trans (b1.mono (by simp))
  have c3 : Below w.heap.size w w2 := past_alloc c1 c1.size b2
  have c4 : Below w.heap.size w w3 := c3.trans (b3.mono c3.size)
  have c5 : Below w.heap.size w w4 := c4.trans (b4.mono c4.size)
  refine ⟨?_, c5⟩
  refine ret_str ?_
  simp [prP, shape, regP, numP]

set_option maxHeartbeats 4000000 in
theorem print_store (a b n : Int) (w : World) (hV : Vs w) (hk : okP ⟨4, a, b, n⟩ = true) :
    Calls Tryd.prog 15 #[.agg #[.int .i64 4, .int .i64 a, .int .i64 b, .int .i64 n]] w fun e w' => e = .returned (.tuple #[.string ⟨(prP ⟨4, a, b, n⟩).toArray⟩, .int .i64 0]) ∧ Below w.heap.size w w' := by
  have hb : 0 ≤ a ∧ a ≤ 65535 ∧ 0 ≤ b ∧ b ≤ 65535 ∧ 0 ≤ n ∧ n ≤ 65535 := by simp [okP, shape, fitP] at hk; omega
  have la := dig_len a
  have lb := dig_len b
  have ln := dig_len n
  go_enter Tryd.func15, Tryd.ntmps15
  go_wp2_with fail
  refine (check_any ⟨4, a, b, n⟩ _ (hV.alloc _)).mono ?_
  rintro e w1 ⟨rfl, b1⟩
  rw [hk]
  have V1 := (hV.alloc _).later b1
  obtain ⟨x0, x1, x2, x3, hlt⟩ := copy_cells b1
  obtain ⟨k0, k1, k2, k3, k4⟩ := V1.now4
  go_wp2_with fail
  have P1 := PF.first (t := 60) x0 x1 x2 x3 hlt V1 k0 k1 k2 k3 k4
  clear x0 x1 x2 x3 k0 k1 k2 k3 k4
  refine (itoa_any a (by omega) (by omega) _ P1.V).mono ?_
  rintro e w2 ⟨rfl, b2⟩
  have P2 := P1.later b2
  have Q2 := P2
  obtain ⟨x0, x1, x2, x3, g0, g1, g2, g3, g4, hN, hM, -⟩ := Q2
  go_wp2_with fail
  clear x0 x1 x2 x3 g0 g1 g2 g3 g4 hN hM
  refine (itoa_any b (by omega) (by omega) _ P2.V).mono ?_
  rintro e w3 ⟨rfl, b3⟩
  have P3 := P2.later b3
  have Q3 := P3
  obtain ⟨x0, x1, x2, x3, g0, g1, g2, g3, g4, hN, hM, -⟩ := Q3
  go_wp2_with fail
  clear x0 x1 x2 x3 g0 g1 g2 g3 g4 hN hM
  refine (itoa_any n (by omega) (by omega) _ P3.V).mono ?_
  rintro e w4 ⟨rfl, b4⟩
  have P4 := P3.later b4
  have Q4 := P4
  obtain ⟨x0, x1, x2, x3, g0, g1, g2, g3, g4, hN, hM, -⟩ := Q4
  go_wp2_with fail
  all_goals go_ret2
  have c1 : Below w.heap.size w w1 := ((Below.refl _ w).alloc (Nat.le_refl _) _).trans (b1.mono (by simp))
  have c3 : Below w.heap.size w w2 := past_alloc c1 c1.size b2
  have c4 : Below w.heap.size w w3 := c3.trans (b3.mono c3.size)
  have c5 : Below w.heap.size w w4 := c4.trans (b4.mono c4.size)
  refine ⟨?_, c5⟩
  refine ret_str ?_
  simp [prP, shape, regP, numP]

set_option maxHeartbeats 4000000 in
theorem print_clear (b n : Int) (w : World) (hV : Vs w) (hk : okP ⟨5, 0, b, n⟩ = true) :
    Calls Tryd.prog 15 #[.agg #[.int .i64 5, .int .i64 0, .int .i64 b, .int .i64 n]] w fun e w' => e = .returned (.tuple #[.string ⟨(prP ⟨5, 0, b, n⟩).toArray⟩, .int .i64 0]) ∧ Below w.heap.size w w' := by
  have hb : 0 ≤ b ∧ b ≤ 65535 ∧ 0 ≤ n ∧ n ≤ 65535 := by simp [okP, shape, fitP] at hk; omega
  have lb := dig_len b
  have ln := dig_len n
  go_enter Tryd.func15, Tryd.ntmps15
  go_wp2_with fail
  refine (check_any ⟨5, 0, b, n⟩ _ (hV.alloc _)).mono ?_
  rintro e w1 ⟨rfl, b1⟩
  rw [hk]
  have V1 := (hV.alloc _).later b1
  obtain ⟨x0, x1, x2, x3, hlt⟩ := copy_cells b1
  obtain ⟨k0, k1, k2, k3, k4⟩ := V1.now5
  go_wp2_with fail
  have P1 := PF.first (t := 60) x0 x1 x2 x3 hlt V1 k0 k1 k2 k3 k4
  clear x0 x1 x2 x3 k0 k1 k2 k3 k4
  refine (itoa_any b (by omega) (by omega) _ P1.V).mono ?_
  rintro e w2 ⟨rfl, b2⟩
  have P2 := P1.later b2
  have Q2 := P2
  obtain ⟨x0, x1, x2, x3, g0, g1, g2, g3, g4, hN, hM, -⟩ := Q2
  go_wp2_with fail
  clear x0 x1 x2 x3 g0 g1 g2 g3 g4 hN hM
  refine (itoa_any n (by omega) (by omega) _ P2.V).mono ?_
  rintro e w3 ⟨rfl, b3⟩
  have P3 := P2.later b3
  have Q3 := P3
  obtain ⟨x0, x1, x2, x3, g0, g1, g2, g3, g4, hN, hM, -⟩ := Q3
  go_wp2_with fail
  all_goals go_ret2
  have c1 : Below w.heap.size w w1 := ((Below.refl _ w).alloc (Nat.le_refl _) _).trans (b1.mono (by simp))
  have c3 : Below w.heap.size w w2 := past_alloc c1 c1.size b2
  have c4 : Below w.heap.size w w3 := c3.trans (b3.mono c3.size)
  refine ⟨?_, c4⟩
  refine ret_str ?_
  simp [prP, shape, regP, numP]

set_option maxHeartbeats 4000000 in
theorem print_jump (a n : Int) (w : World) (hV : Vs w) (hk : okP ⟨6, a, 0, n⟩ = true) :
    Calls Tryd.prog 15 #[.agg #[.int .i64 6, .int .i64 a, .int .i64 0, .int .i64 n]] w fun e w' => e = .returned (.tuple #[.string ⟨(prP ⟨6, a, 0, n⟩).toArray⟩, .int .i64 0]) ∧ Below w.heap.size w w' := by
  have hb : 0 ≤ a ∧ a ≤ 65535 ∧ 0 ≤ n ∧ n ≤ 65535 := by simp [okP, shape, fitP] at hk; omega
  have la := dig_len a
  have ln := dig_len n
  go_enter Tryd.func15, Tryd.ntmps15
  go_wp2_with fail
  refine (check_any ⟨6, a, 0, n⟩ _ (hV.alloc _)).mono ?_
  rintro e w1 ⟨rfl, b1⟩
  rw [hk]
  have V1 := (hV.alloc _).later b1
  obtain ⟨x0, x1, x2, x3, hlt⟩ := copy_cells b1
  obtain ⟨k0, k1, k2, k3, k4⟩ := V1.now6
  go_wp2_with fail
  have P1 := PF.first (t := 60) x0 x1 x2 x3 hlt V1 k0 k1 k2 k3 k4
  clear x0 x1 x2 x3 k0 k1 k2 k3 k4
  refine (itoa_any a (by omega) (by omega) _ P1.V).mono ?_
  rintro e w2 ⟨rfl, b2⟩
  have P2 := P1.later b2
  have Q2 := P2
  obtain ⟨x0, x1, x2, x3, g0, g1, g2, g3, g4, hN, hM, -⟩ := Q2
  go_wp2_with fail
  clear x0 x1 x2 x3 g0 g1 g2 g3 g4 hN hM
  refine (itoa_any n (by omega) (by omega) _ P2.V).mono ?_
  rintro e w3 ⟨rfl, b3⟩
  have P3 := P2.later b3
  have Q3 := P3
  obtain ⟨x0, x1, x2, x3, g0, g1, g2, g3, g4, hN, hM, -⟩ := Q3
  go_wp2_with fail
  all_goals go_ret2
  have c1 : Below w.heap.size w w1 := ((Below.refl _ w).alloc (Nat.le_refl _) _).trans (b1.mono (by simp))
  have c3 : Below w.heap.size w w2 := past_alloc c1 c1.size b2
  have c4 : Below w.heap.size w w3 := c3.trans (b3.mono c3.size)
  refine ⟨?_, c4⟩
  refine ret_str ?_
  simp [prP, shape, regP, numP]

theorem nine {n : Int} (h1 : 1 ≤ n) (h9 : n ≤ 9) : n = 1 ∨ n = 2 ∨ n = 3 ∨ n = 4 ∨ n = 5 ∨ n = 6 ∨ n = 7 ∨ n = 8 ∨ n = 9 := by omega
theorem Vs.calls {w : World} (h : Vs w) : (∀ o, (w.alloc o).cell? ⟨1, 1, none⟩ = some (.string ⟨#[109, 97, 112]⟩)) ∧ (∀ o, (w.alloc o).cell? ⟨1, 2, none⟩ = some (.string ⟨#[117, 110, 109, 97, 112]⟩)) ∧ (∀ o, (w.alloc o).cell? ⟨1, 3, none⟩ = some (.string ⟨#[112, 114, 111, 116, 101, 99, 116]⟩)) ∧ (∀ o, (w.alloc o).cell? ⟨1, 4, none⟩ = some (.string ⟨#[111, 117, 116]⟩)) ∧ (∀ o, (w.alloc o).cell? ⟨1, 5, none⟩ = some (.string ⟨#[102, 111, 114, 107]⟩)) ∧ (∀ o, (w.alloc o).cell? ⟨1, 6, none⟩ = some (.string ⟨#[101, 120, 105, 116]⟩)) ∧ (∀ o, (w.alloc o).cell? ⟨1, 7, none⟩ = some (.string ⟨#[121, 105, 101, 108, 100]⟩)) ∧ (∀ o, (w.alloc o).cell? ⟨1, 8, none⟩ = some (.string ⟨#[115, 101, 110, 100]⟩)) ∧ (∀ o, (w.alloc o).cell? ⟨1, 9, none⟩ = some (.string ⟨#[114, 101, 99, 118]⟩)) :=
  ⟨fun o => ((h.alloc o).clCell 1).trans rfl, fun o => ((h.alloc o).clCell 2).trans rfl, fun o => ((h.alloc o).clCell 3).trans rfl, fun o => ((h.alloc o).clCell 4).trans rfl, fun o => ((h.alloc o).clCell 5).trans rfl, fun o => ((h.alloc o).clCell 6).trans rfl, fun o => ((h.alloc o).clCell 7).trans rfl, fun o => ((h.alloc o).clCell 8).trans rfl, fun o => ((h.alloc o).clCell 9).trans rfl⟩

set_option maxHeartbeats 8000000 in
theorem print_call (n : Int) (w : World) (hV : Vs w) (hk : okP ⟨7, 0, 0, n⟩ = true) :
    Calls Tryd.prog 15 #[.agg #[.int .i64 7, .int .i64 0, .int .i64 0, .int .i64 n]] w fun e w' => e = .returned (.tuple #[.string ⟨(prP ⟨7, 0, 0, n⟩).toArray⟩, .int .i64 0]) ∧ Below w.heap.size w w' := by
  have hb : 1 ≤ n ∧ n ≤ 9 := by simp [okP, shape, fitP] at hk; omega
  rcases nine hb.1 hb.2 with rfl | rfl | rfl | rfl | rfl | rfl | rfl | rfl | rfl
  all_goals
    go_enter Tryd.func15, Tryd.ntmps15
    go_wp2_with fail
    refine (check_any ⟨7, 0, 0, _⟩ _ (hV.alloc _)).mono ?_
    rintro e w1 ⟨rfl, b1⟩
    rw [hk]
    have V1 := (hV.alloc _).later b1
    obtain ⟨x0, x1, x2, x3, hlt⟩ := copy_cells b1
    obtain ⟨k0, k1, k2, k3, k4⟩ := V1.now7
    obtain ⟨c1, c2, c3, c4, c5, c6, c7, c8, c9⟩ := V1.calls
    go_wp2_with fail
    all_goals go_ret2
    have d1 : Below w.heap.size w w1 := ((Below.refl _ w).alloc (Nat.le_refl _) _).trans (b1.mono (by simp))
    exact ⟨ret_str (by simp [prP, shape, regP, numP, callN]), d1.alloc d1.size _⟩

theorem ok_cases {op a b n : Int} (h : okP ⟨op, a, b, n⟩ = true) : (op = 1 ∧ b = 0) ∨ (op = 2 ∧ n = 0) ∨ op = 3 ∨ op = 4 ∨ (op = 5 ∧ a = 0) ∨ (op = 6 ∧ b = 0) ∨ (op = 7 ∧ a = 0 ∧ b = 0) := by
  have h17 : 1 ≤ op ∧ op ≤ 7 := by simp [okP] at h; omega
  rcases seven h17.1 h17.2 with rfl | rfl | rfl | rfl | rfl | rfl | rfl <;> simp [okP, shape, fitP] at h ⊢ <;> omega

/-- Print: an instruction's text; or the error, and an empty one. -/
theorem print_ok (x : Ins) (w : World) (hV : Vs w) (hk : okP x = true) :
    Calls Tryd.prog 15 #[insV x] w fun e w' => e = .returned (.tuple #[.string ⟨(prP x).toArray⟩, .int .i64 0]) ∧ Below w.heap.size w w' := by
  obtain ⟨op, a, b, n⟩ := x
  unfold insV
  rcases ok_cases hk with ⟨rfl, rfl⟩ | ⟨rfl, rfl⟩ | rfl | rfl | ⟨rfl, rfl⟩ | ⟨rfl, rfl⟩ | ⟨rfl, rfl, rfl⟩
  · exact print_set a n w hV hk
  · exact print_add a b w hV hk
  · exact print_load a b n w hV hk
  · exact print_store a b n w hV hk
  · exact print_clear b n w hV hk
  · exact print_jump a n w hV hk
  · exact print_call n w hV hk
end Go.Proofs.YtpnegpcnmmaclaaDoor
