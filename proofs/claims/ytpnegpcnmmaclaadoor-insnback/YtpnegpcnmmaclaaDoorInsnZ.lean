/-
  The document's own answers on instructions: PrintInsn.
-/
import Derived.Test.YtpnegpcnmmaclaaDoorInsnY
import Derived.Deep.RegionWith
import Derived.Deep.CutBlock
namespace Go.Proofs.YtpnegpcnmmaclaaDoor
open Go.ChangeShapes Go.WideShapes Go.ChangeAt Go.RowKit

/-- The copy of an instruction at N. -/
structure X4 (N : Nat) (o a b n : Int) (w : World) : Prop where
  x0 : w.cell? ⟨N, 0, none⟩ = some (.int .i64 o)
  x1 : w.cell? ⟨N, 1, none⟩ = some (.int .i64 a)
  x2 : w.cell? ⟨N, 2, none⟩ = some (.int .i64 b)
  x3 : w.cell? ⟨N, 3, none⟩ = some (.int .i64 n)
  N : N < w.heap.size
theorem X4.later {N : Nat} {o a b n : Int} {w w' : World} (h : X4 N o a b n w) (b' : Below w.heap.size w w') : X4 N o a b n w' := by
  have hn := fun i => b'.cell (p := ⟨N, i, none⟩) h.N
  exact ⟨(hn 0).trans h.x0, (hn 1).trans h.x1, (hn 2).trans h.x2, (hn 3).trans h.x3, Nat.lt_of_lt_of_le h.N b'.size⟩

theorem rprint_no (x : Ins) (w : World) (hk : okP x = false) :
    Calls Tryd.prog 26 #[insV x] w fun e w' => e = .returned (.tuple #[.string ⟨#[]⟩, .bool false]) ∧ Below w.heap.size w w' := by
  obtain ⟨op, a, b, n⟩ := x
  unfold insV
  go_enter Tryd.func26, Tryd.ntmps26
  go_wp2_with fail
  refine (rcheck_any ⟨op, a, b, n⟩ _).mono ?_
  rintro e w1 ⟨rfl, b1⟩
  rw [hk]
  go_wp2_with fail
  go_ret2
  exact ⟨rfl, past_alloc (Below.refl _ w) (Nat.le_refl _) b1⟩

theorem digits_l (n : Int) (h0 : 0 ≤ n) (h1 : n ≤ 65535) (w : World) :
    Calls Tryd.prog 36 #[.int .i64 n] w fun e w' => e = .returned (.string ⟨(dig n).toArray⟩) ∧ Below w.heap.size w w' := by
  obtain ⟨k, rfl⟩ : ∃ k : Nat, n = k := ⟨n.toNat, by omega⟩
  exact digits_any 20 k (by omega) (Nat.lt_of_le_of_lt (by omega : k ≤ 65535) (by decide)) (by omega) w
theorem in_below (l : List UInt8) (c : UInt8) (w : World) (hl : l.length ≤ 1000) {r : Bool} (hr : l.contains c = r) :
    Calls Tryd.prog 35 #[.string ⟨l.toArray⟩, .int .u8 c.toNat] w fun e w' => e = .returned (.bool r) ∧ Below w.heap.size w w' := by
  refine (in_any l c w hl).mono ?_
  rintro e wx ⟨rfl, rfl⟩
  rw [hr]
  exact ⟨rfl, Below.refl _ _⟩

set_option maxHeartbeats 4000000 in
theorem rprint_set (a n : Int) (w : World) (hk : okP ⟨1, a, 0, n⟩ = true) :
    Calls Tryd.prog 26 #[.agg #[.int .i64 1, .int .i64 a, .int .i64 0, .int .i64 n]] w fun e w' => e = .returned (.tuple #[.string ⟨(prP ⟨1, a, 0, n⟩).toArray⟩, .bool true]) ∧ Below w.heap.size w w' := by
  have hb : 0 ≤ a ∧ a ≤ 65535 ∧ 0 ≤ n ∧ n ≤ 65535 := by simp [okP, shape, fitP] at hk; omega
  have la := dig_len a
  have ln := dig_len n
  go_enter Tryd.func26, Tryd.ntmps26
  go_wp2_with fail
  refine (rcheck_any ⟨1, a, 0, n⟩ _).mono ?_
  rintro e w1 ⟨rfl, b1⟩
  rw [hk]
  have P1 : X4 w.heap.size 1 a 0 n w1 := by obtain ⟨x0, x1, x2, x3, hlt⟩ := copy_cells b1; exact ⟨x0, x1, x2, x3, hlt⟩
  have c1 : Below w.heap.size w w1 := past_alloc (Below.refl _ w) (Nat.le_refl _) b1
  clear b1
  go_upto_region 3 with fail
  go_cut [4] (fun v wx => v = .string ⟨#[115, 101, 116]⟩ ∧ X4 w.heap.size 1 a 0 n wx ∧ Below w.heap.size w wx)
  case first =>
    obtain ⟨x0, x1, x2, x3, hN⟩ := id P1
    go_region_with (go_at_call 23; refine (ops_any _).mono ?_; rintro e w2 ⟨rfl, hC, b2⟩; have k0 : w2.cell? ⟨w1.heap.size, 1, none⟩ = some (.string ⟨#[115, 101, 116]⟩) := hC.str (i := 1) rfl; have b2' := (Below.refl w1.heap.size w1).drew.trans b2; have y0 := (P1.later b2').x0)
    all_goals go_wp2
    all_goals go_meet
    all_goals exact ⟨rfl, P1.later b2', c1.trans (b2'.mono c1.size)⟩
  case rest =>
  obtain ⟨rfl, P2, c2⟩ := hcut
  obtain ⟨x0, x1, x2, x3, hN⟩ := id P2
  go_wp2_with fail
  clear x0 x1 x2 x3 hN
  refine (fields_any 1 _).mono ?_
  rintro e w3 ⟨rfl, b3⟩
  have P3 := P2.later b3
  have c3 := c2.trans (b3.mono c2.size)
  obtain ⟨x0, x1, x2, x3, hN⟩ := id P3
  go_wp2_with fail
  clear x0 x1 x2 x3 hN
  refine (in_below (fieldL 1) 65 _ (by decide) (r := true) (by decide)).mono ?_
  rintro e w4 ⟨rfl, b4⟩
  have P4 := P3.later b4
  have c4 := c3.trans (b4.mono c3.size)
  obtain ⟨x0, x1, x2, x3, hN⟩ := id P4
  go_wp2_with fail
  clear x0 x1 x2 x3 hN
  refine (digits_l a (by omega) (by omega) _).mono ?_
  rintro e w5 ⟨rfl, b5⟩
  have P5 := P4.later b5
  have c5 := c4.trans (b5.mono c4.size)
  obtain ⟨x0, x1, x2, x3, hN⟩ := id P5
  go_wp2_with fail
  clear x0 x1 x2 x3 hN
  refine (in_below (fieldL 1) 66 _ (by decide) (r := false) (by decide)).mono ?_
  rintro e w6 ⟨rfl, b6⟩
  have P6 := P5.later b6
  have c6 := c5.trans (b6.mono c5.size)
  obtain ⟨x0, x1, x2, x3, hN⟩ := id P6
  go_wp2_with fail
  clear x0 x1 x2 x3 hN
  refine (in_below (fieldL 1) 78 _ (by decide) (r := true) (by decide)).mono ?_
  rintro e w7 ⟨rfl, b7⟩
  have P7 := P6.later b7
  have c7 := c6.trans (b7.mono c6.size)
  obtain ⟨x0, x1, x2, x3, hN⟩ := id P7
  go_wp2_with fail
  clear x0 x1 x2 x3 hN
  refine (digits_l n (by omega) (by omega) _).mono ?_
  rintro e w8 ⟨rfl, b8⟩
  have P8 := P7.later b8
  have c8 := c7.trans (b8.mono c7.size)
  obtain ⟨x0, x1, x2, x3, hN⟩ := id P8
  go_wp2_with fail
  all_goals go_ret2
  refine ⟨?_, c8⟩
  refine ret_str ?_
  simp [prP, shape, regP, numP]

set_option maxHeartbeats 4000000 in
theorem rprint_add (a b : Int) (w : World) (hk : okP ⟨2, a, b, 0⟩ = true) :
    Calls Tryd.prog 26 #[.agg #[.int .i64 2, .int .i64 a, .int .i64 b, .int .i64 0]] w fun e w' => e = .returned (.tuple #[.string ⟨(prP ⟨2, a, b, 0⟩).toArray⟩, .bool true]) ∧ Below w.heap.size w w' := by
  have hb : 0 ≤ a ∧ a ≤ 65535 ∧ 0 ≤ b ∧ b ≤ 65535 := by simp [okP, shape, fitP] at hk; omega
  have la := dig_len a
  have lb := dig_len b
  go_enter Tryd.func26, Tryd.ntmps26
  go_wp2_with fail
  refine (rcheck_any ⟨2, a, b, 0⟩ _).mono ?_
  rintro e w1 ⟨rfl, b1⟩
  rw [hk]
  have P1 : X4 w.heap.size 2 a b 0 w1 := by obtain ⟨x0, x1, x2, x3, hlt⟩ := copy_cells b1; exact ⟨x0, x1, x2, x3, hlt⟩
  have c1 : Below w.heap.size w w1 := past_alloc (Below.refl _ w) (Nat.le_refl _) b1
  clear b1
  go_upto_region 3 with fail
  go_cut [4] (fun v wx => v = .string ⟨#[97, 100, 100]⟩ ∧ X4 w.heap.size 2 a b 0 wx ∧ Below w.heap.size w wx)
  case first =>
    obtain ⟨x0, x1, x2, x3, hN⟩ := id P1
    go_region_with (go_at_call 23; refine (ops_any _).mono ?_; rintro e w2 ⟨rfl, hC, b2⟩; have k0 : w2.cell? ⟨w1.heap.size, 2, none⟩ = some (.string ⟨#[97, 100, 100]⟩) := hC.str (i := 2) rfl; have b2' := (Below.refl w1.heap.size w1).drew.trans b2; have y0 := (P1.later b2').x0)
    all_goals go_wp2
    all_goals go_meet
    all_goals exact ⟨rfl, P1.later b2', c1.trans (b2'.mono c1.size)⟩
  case rest =>
  obtain ⟨rfl, P2, c2⟩ := hcut
  obtain ⟨x0, x1, x2, x3, hN⟩ := id P2
  go_wp2_with fail
  clear x0 x1 x2 x3 hN
  refine (fields_any 2 _).mono ?_
  rintro e w3 ⟨rfl, b3⟩
  have P3 := P2.later b3
  have c3 := c2.trans (b3.mono c2.size)
  obtain ⟨x0, x1, x2, x3, hN⟩ := id P3
  go_wp2_with fail
  clear x0 x1 x2 x3 hN
  refine (in_below (fieldL 2) 65 _ (by decide) (r := true) (by decide)).mono ?_
  rintro e w4 ⟨rfl, b4⟩
  have P4 := P3.later b4
  have c4 := c3.trans (b4.mono c3.size)
  obtain ⟨x0, x1, x2, x3, hN⟩ := id P4
  go_wp2_with fail
  clear x0 x1 x2 x3 hN
  refine (digits_l a (by omega) (by omega) _).mono ?_
  rintro e w5 ⟨rfl, b5⟩
  have P5 := P4.later b5
  have c5 := c4.trans (b5.mono c4.size)
  obtain ⟨x0, x1, x2, x3, hN⟩ := id P5
  go_wp2_with fail
  clear x0 x1 x2 x3 hN
  refine (in_below (fieldL 2) 66 _ (by decide) (r := true) (by decide)).mono ?_
  rintro e w6 ⟨rfl, b6⟩
  have P6 := P5.later b6
  have c6 := c5.trans (b6.mono c5.size)
  obtain ⟨x0, x1, x2, x3, hN⟩ := id P6
  go_wp2_with fail
  clear x0 x1 x2 x3 hN
  refine (digits_l b (by omega) (by omega) _).mono ?_
  rintro e w7 ⟨rfl, b7⟩
  have P7 := P6.later b7
  have c7 := c6.trans (b7.mono c6.size)
  obtain ⟨x0, x1, x2, x3, hN⟩ := id P7
  go_wp2_with fail
  clear x0 x1 x2 x3 hN
  refine (in_below (fieldL 2) 78 _ (by decide) (r := false) (by decide)).mono ?_
  rintro e w8 ⟨rfl, b8⟩
  have P8 := P7.later b8
  have c8 := c7.trans (b8.mono c7.size)
  obtain ⟨x0, x1, x2, x3, hN⟩ := id P8
  go_wp2_with fail
  all_goals go_ret2
  refine ⟨?_, c8⟩
  refine ret_str ?_
  simp [prP, shape, regP, numP]

set_option maxHeartbeats 4000000 in
theorem rprint_load (a b n : Int) (w : World) (hk : okP ⟨3, a, b, n⟩ = true) :
    Calls Tryd.prog 26 #[.agg #[.int .i64 3, .int .i64 a, .int .i64 b, .int .i64 n]] w fun e w' => e = .returned (.tuple #[.string ⟨(prP ⟨3, a, b, n⟩).toArray⟩, .bool true]) ∧ Below w.heap.size w w' := by
  have hb : 0 ≤ a ∧ a ≤ 65535 ∧ 0 ≤ b ∧ b ≤ 65535 ∧ 0 ≤ n ∧ n ≤ 65535 := by simp [okP, shape, fitP] at hk; omega
  have la := dig_len a
  have lb := dig_len b
  have ln := dig_len n
  go_enter Tryd.func26, Tryd.ntmps26
  go_wp2_with fail
  refine (rcheck_any ⟨3, a, b, n⟩ _).mono ?_
  rintro e w1 ⟨rfl, b1⟩
  rw [hk]
  have P1 : X4 w.heap.size 3 a b n w1 := by obtain ⟨x0, x1, x2, x3, hlt⟩ := copy_cells b1; exact ⟨x0, x1, x2, x3, hlt⟩
  have c1 : Below w.heap.size w w1 := past_alloc (Below.refl _ w) (Nat.le_refl _) b1
  clear b1
  go_upto_region 3 with fail
  go_cut [4] (fun v wx => v = .string ⟨#[108, 111, 97, 100]⟩ ∧ X4 w.heap.size 3 a b n wx ∧ Below w.heap.size w wx)
  case first =>
    obtain ⟨x0, x1, x2, x3, hN⟩ := id P1
    go_region_with (go_at_call 23; refine (ops_any _).mono ?_; rintro e w2 ⟨rfl, hC, b2⟩; have k0 : w2.cell? ⟨w1.heap.size, 3, none⟩ = some (.string ⟨#[108, 111, 97, 100]⟩) := hC.str (i := 3) rfl; have b2' := (Below.refl w1.heap.size w1).drew.trans b2; have y0 := (P1.later b2').x0)
    all_goals go_wp2
    all_goals go_meet
    all_goals exact ⟨rfl, P1.later b2', c1.trans (b2'.mono c1.size)⟩
  case rest =>
  obtain ⟨rfl, P2, c2⟩ := hcut
  obtain ⟨x0, x1, x2, x3, hN⟩ := id P2
  go_wp2_with fail
  clear x0 x1 x2 x3 hN
  refine (fields_any 3 _).mono ?_
  rintro e w3 ⟨rfl, b3⟩
  have P3 := P2.later b3
  have c3 := c2.trans (b3.mono c2.size)
  obtain ⟨x0, x1, x2, x3, hN⟩ := id P3
  go_wp2_with fail
  clear x0 x1 x2 x3 hN
  refine (in_below (fieldL 3) 65 _ (by decide) (r := true) (by decide)).mono ?_
  rintro e w4 ⟨rfl, b4⟩
  have P4 := P3.later b4
  have c4 := c3.trans (b4.mono c3.size)
  obtain ⟨x0, x1, x2, x3, hN⟩ := id P4
  go_wp2_with fail
  clear x0 x1 x2 x3 hN
  refine (digits_l a (by omega) (by omega) _).mono ?_
  rintro e w5 ⟨rfl, b5⟩
  have P5 := P4.later b5
  have c5 := c4.trans (b5.mono c4.size)
  obtain ⟨x0, x1, x2, x3, hN⟩ := id P5
  go_wp2_with fail
  clear x0 x1 x2 x3 hN
  refine (in_below (fieldL 3) 66 _ (by decide) (r := true) (by decide)).mono ?_
  rintro e w6 ⟨rfl, b6⟩
  have P6 := P5.later b6
  have c6 := c5.trans (b6.mono c5.size)
  obtain ⟨x0, x1, x2, x3, hN⟩ := id P6
  go_wp2_with fail
  clear x0 x1 x2 x3 hN
  refine (digits_l b (by omega) (by omega) _).mono ?_
  rintro e w7 ⟨rfl, b7⟩
  have P7 := P6.later b7
  have c7 := c6.trans (b7.mono c6.size)
  obtain ⟨x0, x1, x2, x3, hN⟩ := id P7
  go_wp2_with fail
  clear x0 x1 x2 x3 hN
  refine (in_below (fieldL 3) 78 _ (by decide) (r := true) (by decide)).mono ?_
  rintro e w8 ⟨rfl, b8⟩
  have P8 := P7.later b8
  have c8 := c7.trans (b8.mono c7.size)
  obtain ⟨x0, x1, x2, x3, hN⟩ := id P8
  go_wp2_with fail
  clear x0 x1 x2 x3 hN
  refine (digits_l n (by omega) (by omega) _).mono ?_
  rintro e w9 ⟨rfl, b9⟩
  have P9 := P8.later b9
  have c9 := c8.trans (b9.mono c8.size)
  obtain ⟨x0, x1, x2, x3, hN⟩ := id P9
  go_wp2_with fail
  all_goals go_ret2
  refine ⟨?_, c9⟩
  refine ret_str ?_
  simp [prP, shape, regP, numP]

set_option maxHeartbeats 4000000 in
theorem rprint_store (a b n : Int) (w : World) (hk : okP ⟨4, a, b, n⟩ = true) :
    Calls Tryd.prog 26 #[.agg #[.int .i64 4, .int .i64 a, .int .i64 b, .int .i64 n]] w fun e w' => e = .returned (.tuple #[.string ⟨(prP ⟨4, a, b, n⟩).toArray⟩, .bool true]) ∧ Below w.heap.size w w' := by
  have hb : 0 ≤ a ∧ a ≤ 65535 ∧ 0 ≤ b ∧ b ≤ 65535 ∧ 0 ≤ n ∧ n ≤ 65535 := by simp [okP, shape, fitP] at hk; omega
  have la := dig_len a
  have lb := dig_len b
  have ln := dig_len n
  go_enter Tryd.func26, Tryd.ntmps26
  go_wp2_with fail
  refine (rcheck_any ⟨4, a, b, n⟩ _).mono ?_
  rintro e w1 ⟨rfl, b1⟩
  rw [hk]
  have P1 : X4 w.heap.size 4 a b n w1 := by obtain ⟨x0, x1, x2, x3, hlt⟩ := copy_cells b1; exact ⟨x0, x1, x2, x3, hlt⟩
  have c1 : Below w.heap.size w w1 := past_alloc (Below.refl _ w) (Nat.le_refl _) b1
  clear b1
  go_upto_region 3 with fail
  go_cut [4] (fun v wx => v = .string ⟨#[115, 116, 111, 114, 101]⟩ ∧ X4 w.heap.size 4 a b n wx ∧ Below w.heap.size w wx)
  case first =>
    obtain ⟨x0, x1, x2, x3, hN⟩ := id P1
    go_region_with (go_at_call 23; refine (ops_any _).mono ?_; rintro e w2 ⟨rfl, hC, b2⟩; have k0 : w2.cell? ⟨w1.heap.size, 4, none⟩ = some (.string ⟨#[115, 116, 111, 114, 101]⟩) := hC.str (i := 4) rfl; have b2' := (Below.refl w1.heap.size w1).drew.trans b2; have y0 := (P1.later b2').x0)
    all_goals go_wp2
    all_goals go_meet
    all_goals exact ⟨rfl, P1.later b2', c1.trans (b2'.mono c1.size)⟩
  case rest =>
  obtain ⟨rfl, P2, c2⟩ := hcut
  obtain ⟨x0, x1, x2, x3, hN⟩ := id P2
  go_wp2_with fail
  clear x0 x1 x2 x3 hN
  refine (fields_any 4 _).mono ?_
  rintro e w3 ⟨rfl, b3⟩
  have P3 := P2.later b3
  have c3 := c2.trans (b3.mono c2.size)
  obtain ⟨x0, x1, x2, x3, hN⟩ := id P3
  go_wp2_with fail
  clear x0 x1 x2 x3 hN
  refine (in_below (fieldL 4) 65 _ (by decide) (r := true) (by decide)).mono ?_
  rintro e w4 ⟨rfl, b4⟩
  have P4 := P3.later b4
  have c4 := c3.trans (b4.mono c3.size)
  obtain ⟨x0, x1, x2, x3, hN⟩ := id P4
  go_wp2_with fail
  clear x0 x1 x2 x3 hN
  refine (digits_l a (by omega) (by omega) _).mono ?_
  rintro e w5 ⟨rfl, b5⟩
  have P5 := P4.later b5
  have c5 := c4.trans (b5.mono c4.size)
  obtain ⟨x0, x1, x2, x3, hN⟩ := id P5
  go_wp2_with fail
  clear x0 x1 x2 x3 hN
  refine (in_below (fieldL 4) 66 _ (by decide) (r := true) (by decide)).mono ?_
  rintro e w6 ⟨rfl, b6⟩
  have P6 := P5.later b6
  have c6 := c5.trans (b6.mono c5.size)
  obtain ⟨x0, x1, x2, x3, hN⟩ := id P6
  go_wp2_with fail
  clear x0 x1 x2 x3 hN
  refine (digits_l b (by omega) (by omega) _).mono ?_
  rintro e w7 ⟨rfl, b7⟩
  have P7 := P6.later b7
  have c7 := c6.trans (b7.mono c6.size)
  obtain ⟨x0, x1, x2, x3, hN⟩ := id P7
  go_wp2_with fail
  clear x0 x1 x2 x3 hN
  refine (in_below (fieldL 4) 78 _ (by decide) (r := true) (by decide)).mono ?_
  rintro e w8 ⟨rfl, b8⟩
  have P8 := P7.later b8
  have c8 := c7.trans (b8.mono c7.size)
  obtain ⟨x0, x1, x2, x3, hN⟩ := id P8
  go_wp2_with fail
  clear x0 x1 x2 x3 hN
  refine (digits_l n (by omega) (by omega) _).mono ?_
  rintro e w9 ⟨rfl, b9⟩
  have P9 := P8.later b9
  have c9 := c8.trans (b9.mono c8.size)
  obtain ⟨x0, x1, x2, x3, hN⟩ := id P9
  go_wp2_with fail
  all_goals go_ret2
  refine ⟨?_, c9⟩
  refine ret_str ?_
  simp [prP, shape, regP, numP]

set_option maxHeartbeats 4000000 in
theorem rprint_clear (b n : Int) (w : World) (hk : okP ⟨5, 0, b, n⟩ = true) :
    Calls Tryd.prog 26 #[.agg #[.int .i64 5, .int .i64 0, .int .i64 b, .int .i64 n]] w fun e w' => e = .returned (.tuple #[.string ⟨(prP ⟨5, 0, b, n⟩).toArray⟩, .bool true]) ∧ Below w.heap.size w w' := by
  have hb : 0 ≤ b ∧ b ≤ 65535 ∧ 0 ≤ n ∧ n ≤ 65535 := by simp [okP, shape, fitP] at hk; omega
  have lb := dig_len b
  have ln := dig_len n
  go_enter Tryd.func26, Tryd.ntmps26
  go_wp2_with fail
  refine (rcheck_any ⟨5, 0, b, n⟩ _).mono ?_
  rintro e w1 ⟨rfl, b1⟩
  rw [hk]
  have P1 : X4 w.heap.size 5 0 b n w1 := by obtain ⟨x0, x1, x2, x3, hlt⟩ := copy_cells b1; exact ⟨x0, x1, x2, x3, hlt⟩
  have c1 : Below w.heap.size w w1 := past_alloc (Below.refl _ w) (Nat.le_refl _) b1
  clear b1
  go_upto_region 3 with fail
  go_cut [4] (fun v wx => v = .string ⟨#[99, 108, 101, 97, 114]⟩ ∧ X4 w.heap.size 5 0 b n wx ∧ Below w.heap.size w wx)
  case first =>
    obtain ⟨x0, x1, x2, x3, hN⟩ := id P1
    go_region_with (go_at_call 23; refine (ops_any _).mono ?_; rintro e w2 ⟨rfl, hC, b2⟩; have k0 : w2.cell? ⟨w1.heap.size, 5, none⟩ = some (.string ⟨#[99, 108, 101, 97, 114]⟩) := hC.str (i := 5) rfl; have b2' := (Below.refl w1.heap.size w1).drew.trans b2; have y0 := (P1.later b2').x0)
    all_goals go_wp2
    all_goals go_meet
    all_goals exact ⟨rfl, P1.later b2', c1.trans (b2'.mono c1.size)⟩
  case rest =>
  obtain ⟨rfl, P2, c2⟩ := hcut
  obtain ⟨x0, x1, x2, x3, hN⟩ := id P2
  go_wp2_with fail
  clear x0 x1 x2 x3 hN
  refine (fields_any 5 _).mono ?_
  rintro e w3 ⟨rfl, b3⟩
  have P3 := P2.later b3
  have c3 := c2.trans (b3.mono c2.size)
  obtain ⟨x0, x1, x2, x3, hN⟩ := id P3
  go_wp2_with fail
  clear x0 x1 x2 x3 hN
  refine (in_below (fieldL 5) 65 _ (by decide) (r := false) (by decide)).mono ?_
  rintro e w4 ⟨rfl, b4⟩
  have P4 := P3.later b4
  have c4 := c3.trans (b4.mono c3.size)
  obtain ⟨x0, x1, x2, x3, hN⟩ := id P4
  go_wp2_with fail
  clear x0 x1 x2 x3 hN
  refine (in_below (fieldL 5) 66 _ (by decide) (r := true) (by decide)).mono ?_
  rintro e w5 ⟨rfl, b5⟩
  have P5 := P4.later b5
  have c5 := c4.trans (b5.mono c4.size)
  obtain ⟨x0, x1, x2, x3, hN⟩ := id P5
  go_wp2_with fail
  clear x0 x1 x2 x3 hN
  refine (digits_l b (by omega) (by omega) _).mono ?_
  rintro e w6 ⟨rfl, b6⟩
  have P6 := P5.later b6
  have c6 := c5.trans (b6.mono c5.size)
  obtain ⟨x0, x1, x2, x3, hN⟩ := id P6
  go_wp2_with fail
  clear x0 x1 x2 x3 hN
  refine (in_below (fieldL 5) 78 _ (by decide) (r := true) (by decide)).mono ?_
  rintro e w7 ⟨rfl, b7⟩
  have P7 := P6.later b7
  have c7 := c6.trans (b7.mono c6.size)
  obtain ⟨x0, x1, x2, x3, hN⟩ := id P7
  go_wp2_with fail
  clear x0 x1 x2 x3 hN
  refine (digits_l n (by omega) (by omega) _).mono ?_
  rintro e w8 ⟨rfl, b8⟩
  have P8 := P7.later b8
  have c8 := c7.trans (b8.mono c7.size)
  obtain ⟨x0, x1, x2, x3, hN⟩ := id P8
  go_wp2_with fail
  all_goals go_ret2
  refine ⟨?_, c8⟩
  refine ret_str ?_
  simp [prP, shape, regP, numP]

set_option maxHeartbeats 4000000 in
theorem rprint_jump (a n : Int) (w : World) (hk : okP ⟨6, a, 0, n⟩ = true) :
    Calls Tryd.prog 26 #[.agg #[.int .i64 6, .int .i64 a, .int .i64 0, .int .i64 n]] w fun e w' => e = .returned (.tuple #[.string ⟨(prP ⟨6, a, 0, n⟩).toArray⟩, .bool true]) ∧ Below w.heap.size w w' := by
  have hb : 0 ≤ a ∧ a ≤ 65535 ∧ 0 ≤ n ∧ n ≤ 65535 := by simp [okP, shape, fitP] at hk; omega
  have la := dig_len a
  have ln := dig_len n
  go_enter Tryd.func26, Tryd.ntmps26
  go_wp2_with fail
  refine (rcheck_any ⟨6, a, 0, n⟩ _).mono ?_
  rintro e w1 ⟨rfl, b1⟩
  rw [hk]
  have P1 : X4 w.heap.size 6 a 0 n w1 := by obtain ⟨x0, x1, x2, x3, hlt⟩ := copy_cells b1; exact ⟨x0, x1, x2, x3, hlt⟩
  have c1 : Below w.heap.size w w1 := past_alloc (Below.refl _ w) (Nat.le_refl _) b1
  clear b1
  go_upto_region 3 with fail
  go_cut [4] (fun v wx => v = .string ⟨#[106, 117, 109, 112]⟩ ∧ X4 w.heap.size 6 a 0 n wx ∧ Below w.heap.size w wx)
  case first =>
    obtain ⟨x0, x1, x2, x3, hN⟩ := id P1
    go_region_with (go_at_call 23; refine (ops_any _).mono ?_; rintro e w2 ⟨rfl, hC, b2⟩; have k0 : w2.cell? ⟨w1.heap.size, 6, none⟩ = some (.string ⟨#[106, 117, 109, 112]⟩) := hC.str (i := 6) rfl; have b2' := (Below.refl w1.heap.size w1).drew.trans b2; have y0 := (P1.later b2').x0)
    all_goals go_wp2
    all_goals go_meet
    all_goals exact ⟨rfl, P1.later b2', c1.trans (b2'.mono c1.size)⟩
  case rest =>
  obtain ⟨rfl, P2, c2⟩ := hcut
  obtain ⟨x0, x1, x2, x3, hN⟩ := id P2
  go_wp2_with fail
  clear x0 x1 x2 x3 hN
  refine (fields_any 6 _).mono ?_
  rintro e w3 ⟨rfl, b3⟩
  have P3 := P2.later b3
  have c3 := c2.trans (b3.mono c2.size)
  obtain ⟨x0, x1, x2, x3, hN⟩ := id P3
  go_wp2_with fail
  clear x0 x1 x2 x3 hN
  refine (in_below (fieldL 6) 65 _ (by decide) (r := true) (by decide)).mono ?_
  rintro e w4 ⟨rfl, b4⟩
  have P4 := P3.later b4
  have c4 := c3.trans (b4.mono c3.size)
  obtain ⟨x0, x1, x2, x3, hN⟩ := id P4
  go_wp2_with fail
  clear x0 x1 x2 x3 hN
  refine (digits_l a (by omega) (by omega) _).mono ?_
  rintro e w5 ⟨rfl, b5⟩
  have P5 := P4.later b5
  have c5 := c4.trans (b5.mono c4.size)
  obtain ⟨x0, x1, x2, x3, hN⟩ := id P5
  go_wp2_with fail
  clear x0 x1 x2 x3 hN
  refine (in_below (fieldL 6) 66 _ (by decide) (r := false) (by decide)).mono ?_
  rintro e w6 ⟨rfl, b6⟩
  have P6 := P5.later b6
  have c6 := c5.trans (b6.mono c5.size)
  obtain ⟨x0, x1, x2, x3, hN⟩ := id P6
  go_wp2_with fail
  clear x0 x1 x2 x3 hN
  refine (in_below (fieldL 6) 78 _ (by decide) (r := true) (by decide)).mono ?_
  rintro e w7 ⟨rfl, b7⟩
  have P7 := P6.later b7
  have c7 := c6.trans (b7.mono c6.size)
  obtain ⟨x0, x1, x2, x3, hN⟩ := id P7
  go_wp2_with fail
  clear x0 x1 x2 x3 hN
  refine (digits_l n (by omega) (by omega) _).mono ?_
  rintro e w8 ⟨rfl, b8⟩
  have P8 := P7.later b8
  have c8 := c7.trans (b8.mono c7.size)
  obtain ⟨x0, x1, x2, x3, hN⟩ := id P8
  go_wp2_with fail
  all_goals go_ret2
  refine ⟨?_, c8⟩
  refine ret_str ?_
  simp [prP, shape, regP, numP]

set_option maxHeartbeats 4000000 in
theorem rprint_call (n : Int) (w : World) (hk : okP ⟨7, 0, 0, n⟩ = true) :
    Calls Tryd.prog 26 #[.agg #[.int .i64 7, .int .i64 0, .int .i64 0, .int .i64 n]] w fun e w' => e = .returned (.tuple #[.string ⟨(prP ⟨7, 0, 0, n⟩).toArray⟩, .bool true]) ∧ Below w.heap.size w w' := by
  have hb : 0 ≤ n ∧ n ≤ 65535 := by simp [okP, shape, fitP] at hk; omega
  have hb7 : 1 ≤ n ∧ n ≤ 9 := by simp [okP, shape, fitP] at hk; omega
  obtain ⟨q, rfl⟩ : ∃ q : Nat, n = q := ⟨n.toNat, by omega⟩
  have hq : callsL[q]? = some (callN q) := by
    rcases (by omega : q = 1 ∨ q = 2 ∨ q = 3 ∨ q = 4 ∨ q = 5 ∨ q = 6 ∨ q = 7 ∨ q = 8 ∨ q = 9) with rfl | rfl | rfl | rfl | rfl | rfl | rfl | rfl | rfl <;> rfl
  have hql : (callN q).length ≤ 10 := by
    rcases (by omega : q = 1 ∨ q = 2 ∨ q = 3 ∨ q = 4 ∨ q = 5 ∨ q = 6 ∨ q = 7 ∨ q = 8 ∨ q = 9) with rfl | rfl | rfl | rfl | rfl | rfl | rfl | rfl | rfl <;> decide
  have hq10 : q < 10 := by omega
  go_enter Tryd.func26, Tryd.ntmps26
  go_wp2_with fail
  refine (rcheck_any ⟨7, 0, 0, (q : Int)⟩ _).mono ?_
  rintro e w1 ⟨rfl, b1⟩
  rw [hk]
  have P1 : X4 w.heap.size 7 0 0 (q : Int) w1 := by obtain ⟨x0, x1, x2, x3, hlt⟩ := copy_cells b1; exact ⟨x0, x1, x2, x3, hlt⟩
  have c1 : Below w.heap.size w w1 := past_alloc (Below.refl _ w) (Nat.le_refl _) b1
  clear b1
  go_upto_region 3 with fail
  go_cut [4] (fun v wx => v = .string ⟨#[99, 97, 108, 108]⟩ ∧ X4 w.heap.size 7 0 0 (q : Int) wx ∧ Below w.heap.size w wx)
  case first =>
    obtain ⟨x0, x1, x2, x3, hN⟩ := id P1
    go_region_with (go_at_call 23; refine (ops_any _).mono ?_; rintro e w2 ⟨rfl, hC, b2⟩; have k0 : w2.cell? ⟨w1.heap.size, 7, none⟩ = some (.string ⟨#[99, 97, 108, 108]⟩) := hC.str (i := 7) rfl; have b2' := (Below.refl w1.heap.size w1).drew.trans b2; have y0 := (P1.later b2').x0)
    all_goals go_wp2
    all_goals go_meet
    all_goals exact ⟨rfl, P1.later b2', c1.trans (b2'.mono c1.size)⟩
  case rest =>
  obtain ⟨rfl, P2, c2⟩ := hcut
  obtain ⟨x0, x1, x2, x3, hN⟩ := id P2
  go_wp2_with fail
  clear x0 x1 x2 x3 hN
  refine (fields_any 7 _).mono ?_
  rintro e w3 ⟨rfl, b3⟩
  have P3 := P2.later b3
  have c3 := c2.trans (b3.mono c2.size)
  obtain ⟨x0, x1, x2, x3, hN⟩ := id P3
  go_wp2_with fail
  clear x0 x1 x2 x3 hN
  refine (in_below (fieldL 7) 65 _ (by decide) (r := false) (by decide)).mono ?_
  rintro e w4 ⟨rfl, b4⟩
  have P4 := P3.later b4
  have c4 := c3.trans (b4.mono c3.size)
  obtain ⟨x0, x1, x2, x3, hN⟩ := id P4
  go_wp2_with fail
  clear x0 x1 x2 x3 hN
  refine (in_below (fieldL 7) 66 _ (by decide) (r := false) (by decide)).mono ?_
  rintro e w5 ⟨rfl, b5⟩
  have P5 := P4.later b5
  have c5 := c4.trans (b5.mono c4.size)
  obtain ⟨x0, x1, x2, x3, hN⟩ := id P5
  have hq0 : (0 : Int) ≤ (q : Int) := by omega
  have hq1 : (q : Int) < 10 := by omega
  go_wp2_with fail
  go_region_with (go_at_call 24; refine (calls_any _).mono ?_; rintro e w9 ⟨rfl, hC, b9⟩; have k0 : w9.cell? ⟨w5.heap.size, q, none⟩ = some (.string ⟨(callN q).toArray⟩) := hC.str hq; have b9' := (Below.refl w5.heap.size w5).drew.trans b9; have y3 := (P5.later b9').x3)
  all_goals go_wp2
  all_goals go_ret2
  all_goals
    refine ⟨?_, c5.trans (b9'.mono c5.size)⟩
    refine ret_str ?_
    simp [prP, shape, regP, numP]

/-- The document's text of an instruction that may be: the same. -/
theorem rprint_ok (x : Ins) (w : World) (hk : okP x = true) :
    Calls Tryd.prog 26 #[insV x] w fun e w' => e = .returned (.tuple #[.string ⟨(prP x).toArray⟩, .bool true]) ∧ Below w.heap.size w w' := by
  obtain ⟨op, a, b, n⟩ := x
  unfold insV
  rcases ok_cases hk with ⟨rfl, rfl⟩ | ⟨rfl, rfl⟩ | rfl | rfl | ⟨rfl, rfl⟩ | ⟨rfl, rfl⟩ | ⟨rfl, rfl, rfl⟩
  · exact rprint_set a n w hk
  · exact rprint_add a b w hk
  · exact rprint_load a b n w hk
  · exact rprint_store a b n w hk
  · exact rprint_clear b n w hk
  · exact rprint_jump a n w hk
  · exact rprint_call n w hk
end Go.Proofs.YtpnegpcnmmaclaaDoor
