/-
  A statement whose order Go leaves open, and whose calls may make new memory but turn none that was there: one walk in the order of the text serves every order.
-/
import Derived.WalkKit
import Derived.BigQuiet
import Derived.Below
import Derived.WalkSpells
import Derived.Sort.AtCall
namespace Go.Proofs.Ytcnoobdihnlnkaa
open Go.RowKit

/-- A world in which all that was there in W below block B is as it was. -/
structure Later (B : Nat) (W : World) where
  v : World
  h : Below B W v

theorem wp_region_later {P : Program} {id : Nat} {Q : Exit → Act → World → Prop} {a : Act} {w : World} {l : List Oper} (hm : P.follows .mixedOrders = true) (hB : Region.lexB .any l.toArray = true)
    (h : ∀ W : World, Hid (W = w) → Nonempty (Later W.heap.size W) → wpQuiet P l.toArray (fun v => ∃ x : Later W.heap.size W, v = x.v) (fun a' => ∀ w', (∃ x : Later W.heap.size W, w' = x.v) → Q .normal a' w') l a) :
    (Code.region id l.toArray true).wp P Q a w :=
  wp_region_quiet (C := fun v => ∃ x : Later w.heap.size w, v = x.v) hm hB ⟨⟨_, (Below.refl _ _).drew⟩, rfl⟩ (by simpa using h w rfl ⟨⟨w, Below.refl _ _⟩⟩)

/-- A callee that may make memory, met in a later world. -/
theorem later_of {P : Program} {f : FuncId} {args : Array Value} {B : Nat} {W : World} {x : Later B W} {v : Value} (hB : B ≤ W.heap.size)
    (h : Calls P f args x.v fun e w' => e = .returned v ∧ Below x.v.heap.size x.v w') : Calls P f args x.v fun e w'' => e = .returned v ∧ ∃ y : Later B W, w'' = y.v :=
  h.mono fun _ _ ⟨he, hb⟩ => ⟨he, ⟨_, x.h.trans (hb.mono (Nat.le_trans hB x.h.size))⟩, rfl⟩

/-- .. one that makes none. -/
theorem later_of_same {P : Program} {f : FuncId} {args : Array Value} {B : Nat} {W : World} {x : Later B W} {v : Value}
    (h : Calls P f args x.v fun e w' => e = .returned v ∧ w' = x.v) : Calls P f args x.v fun e w'' => e = .returned v ∧ ∃ y : Later B W, w'' = y.v :=
  h.mono fun _ _ ⟨he, hb⟩ => ⟨he, x, hb⟩

theorem later_cell {W : World} {p : Addr} {v : Value} (h : W.cell? p = some v) (x : Later W.heap.size W) : x.v.cell? p = some v := cell_later x.h h

end Go.Proofs.Ytcnoobdihnlnkaa
