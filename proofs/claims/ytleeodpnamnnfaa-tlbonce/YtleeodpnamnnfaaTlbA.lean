/-
  What serves, and the three closures, come to.
-/
import Derived.Test.YtleeodpnamnnfaaTlbS
import Derived.Test.YtleeodpnamnnfaaKeep
import Derived.Sort.AtCall
namespace Go.Proofs.Ytleeodpnamnnfaa
open Go.ChangeShapes Go.WideShapes Go.ChangeAt Go.RowKit

theorem serves_any {w : World} (x : It) (pcid page : Int) :
    Calls Try.prog 29 #[x.V, .int .i64 pcid, .int .i64 page] w fun e w' => e = .returned (.bool (x.serves pcid page)) ∧ Touch Nil w w' := by
  go_enter Try.func29, Try.ntmps29
  go_wp2
  all_goals (go_ret; exact ⟨ret_bool (by simp_all [It.serves]), (Touch.refl Nil w).alloc _⟩)

theorem findf_any {w : World} (x : It) (pcid page : Int) (B C : Nat) (hB : w.cell? ⟨B, 0, none⟩ = some (.int .i64 pcid)) (hC : w.cell? ⟨C, 0, none⟩ = some (.int .i64 page)) :
    Calls Try.prog 28 #[x.V, .pointer (some ⟨B, 0, none⟩), .pointer (some ⟨C, 0, none⟩)] w fun e w' => e = .returned (.bool (x.serves pcid page)) ∧ Touch Nil w w' := by
  have hB' : B < w.heap.size := World.block_lt_of_cell? w _ hB
  have hC' : C < w.heap.size := World.block_lt_of_cell? w _ hC
  have hne : B ≠ w.heap.size := by omega
  have hne2 : C ≠ w.heap.size := by omega
  go_enter Try.func28, Try.ntmps28
  go_wp2_with (go_at_call 29; refine (serves_any x _ _).mono ?_; rintro e w1 ⟨rfl, hT⟩)
  go_ret
  exact ⟨rfl, ((Touch.refl Nil w).alloc _).trans hT⟩
theorem pagef_any {w : World} (x : It) (pcid page : Int) (B C : Nat) (hB : w.cell? ⟨B, 0, none⟩ = some (.int .i64 pcid)) (hC : w.cell? ⟨C, 0, none⟩ = some (.int .i64 page)) :
    Calls Try.prog 32 #[x.V, .pointer (some ⟨B, 0, none⟩), .pointer (some ⟨C, 0, none⟩)] w fun e w' => e = .returned (.bool (x.serves pcid page)) ∧ Touch Nil w w' := by
  have hB' : B < w.heap.size := World.block_lt_of_cell? w _ hB
  have hC' : C < w.heap.size := World.block_lt_of_cell? w _ hC
  have hne : B ≠ w.heap.size := by omega
  have hne2 : C ≠ w.heap.size := by omega
  go_enter Try.func32, Try.ntmps32
  go_wp2_with (go_at_call 29; refine (serves_any x _ _).mono ?_; rintro e w1 ⟨rfl, hT⟩)
  go_ret
  exact ⟨rfl, ((Touch.refl Nil w).alloc _).trans hT⟩
theorem namef_any {w : World} (x : It) (pcid : Int) (B : Nat) (hB : w.cell? ⟨B, 0, none⟩ = some (.int .i64 pcid)) :
    Calls Try.prog 31 #[x.V, .pointer (some ⟨B, 0, none⟩)] w fun e w' => e = .returned (.bool (x.ofName pcid)) ∧ Touch Nil w w' := by
  have hlt := World.block_lt_of_cell? w _ hB
  have hne : B ≠ w.heap.size := by have : B < w.heap.size := hlt; omega
  go_enter Try.func31, Try.ntmps31
  go_wp2
  all_goals (go_ret; exact ⟨ret_bool (by simp_all [It.ofName]), (Touch.refl Nil w).alloc _⟩)
end Go.Proofs.Ytleeodpnamnnfaa
