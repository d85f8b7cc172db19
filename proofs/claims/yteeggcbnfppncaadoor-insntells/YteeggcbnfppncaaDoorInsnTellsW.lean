/-
  The law InsnTells, walked.
-/
import Derived.Test.YteeggcbnfppncaaDoorInsnU
import Derived.Test.YteeggcbnfppncaaDoorInsnZ
namespace Go.Proofs.YteeggcbnfppncaaDoor
open Go.ChangeShapes Go.WideShapes Go.ChangeAt Go.RowKit

set_option maxHeartbeats 2000000 in
theorem insnTells_walk (op a b n how : Int) (w : World) (hV : Vs w) :
    Calls Tryd.prog 5 #[.int .i64 op, .int .i64 a, .int .i64 b, .int .i64 n, .int .i64 how] w fun e w' => e = .returned (.bool true) ∧ Below w.heap.size w w' := by
  have hp := play_any op a b n how
  generalize playP op a b n how = x at hp
  cases hk : okP x
  · go_enter Tryd.func5, Tryd.ntmps5
    go_wp2_with fail
    refine (hp _).mono ?_
    rintro e w1 ⟨rfl, b1⟩
    unfold insV
    have V1 := hV.later b1
    go_wp2_with fail
    refine (print_no x _ (V1.alloc _) hk).mono ?_
    rintro e w2 ⟨rfl, b2⟩
    have V2 := (V1.alloc _).later b2
    have P2 : X4 w1.heap.size x.op x.a x.b x.n w2 := by obtain ⟨x0, x1, x2, x3, hlt⟩ := copy_cells b2; exact ⟨x0, x1, x2, x3, hlt⟩
    have c2 := past_alloc b1 b1.size b2
    obtain ⟨x0, x1, x2, x3, hN⟩ := id P2
    go_wp2_with fail
    clear x0 x1 x2 x3 hN
    refine (rprint_no x _ hk).mono ?_
    rintro e w3 ⟨rfl, b3⟩
    have V3 := V2.later b3
    have P3 := P2.later b3
    have c3 := c2.trans (b3.mono c2.size)
    obtain ⟨x0, x1, x2, x3, hN⟩ := id P3
    go_wp2_with fail
    clear x0 x1 x2 x3 hN
    refine (check_any x _ V3).mono ?_
    rintro e w4 ⟨rfl, b4⟩
    rw [hk]
    have V4 := V3.later b4
    have c4 := c3.trans (b4.mono c3.size)
    go_wp2_with fail
    refine (wakes7 _ V4).mono ?_
    rintro e w5 ⟨rfl, b5⟩
    go_wp2_with fail
    go_ret
    exact ⟨rfl, c4.trans (b5.mono c4.size)⟩
  · go_enter Tryd.func5, Tryd.ntmps5
    go_wp2_with fail
    refine (hp _).mono ?_
    rintro e w1 ⟨rfl, b1⟩
    unfold insV
    have V1 := hV.later b1
    go_wp2_with fail
    refine (print_ok x _ (V1.alloc _) hk).mono ?_
    rintro e w2 ⟨rfl, b2⟩
    have V2 := (V1.alloc _).later b2
    have P2 : X4 w1.heap.size x.op x.a x.b x.n w2 := by obtain ⟨x0, x1, x2, x3, hlt⟩ := copy_cells b2; exact ⟨x0, x1, x2, x3, hlt⟩
    have c2 := past_alloc b1 b1.size b2
    obtain ⟨x0, x1, x2, x3, hN⟩ := id P2
    go_wp2_with fail
    clear x0 x1 x2 x3 hN
    refine (rprint_ok x _ hk).mono ?_
    rintro e w3 ⟨rfl, b3⟩
    have V3 := V2.later b3
    have P3 := P2.later b3
    have c3 := c2.trans (b3.mono c2.size)
    obtain ⟨x0, x1, x2, x3, hN⟩ := id P3
    go_wp2_with fail
    clear x0 x1 x2 x3 hN
    refine (check_any x _ V3).mono ?_
    rintro e w4 ⟨rfl, b4⟩
    rw [hk]
    have V4 := V3.later b4
    have c4 := c3.trans (b4.mono c3.size)
    go_wp2_with fail
    refine (wakes7 _ V4).mono ?_
    rintro e w5 ⟨rfl, b5⟩
    go_wp2_with fail
    go_ret
    exact ⟨rfl, c4.trans (b5.mono c4.size)⟩
end Go.Proofs.YteeggcbnfppncaaDoor
