/-
  A TLB of the call's own, as a law goes along.
-/
import Derived.Test.YtleeodpnamnnfaaTlbH
namespace Go.Proofs.Ytleeodpnamnnfaa
open Go.ChangeShapes Go.WideShapes Go.ChangeAt Go.RowKit

/-- An item as a block. -/
abbrev bxO (x : It) (t : TypeId) : Obj := .cells #[.int .i64 x.pc, .int .i64 x.pg, .int .i64 x.fr, .bool x.wr, .bool x.us, .bool x.gl] t

/-- Since w nothing old is turned; the TLB at P is the call's own. -/
structure St (w W : World) (P : Nat) (g : Option Nat) (l : List It) : Prop where
  at' : TAt W P g l
  t : Touch Nil w W
  p : w.heap.size ≤ P
  gg : ∀ k, g = some k → w.heap.size ≤ k
namespace St
variable {w W W' : World} {P : Nat} {g g' : Option Nat} {l l' : List It}
theorem nil (h : St w W P g l) (t : Touch Nil W W') : St w W' P g l := ⟨h.at'.nil t, h.t.trans t, h.p, h.gg⟩
theorem alloc (h : St w W P g l) (o : Obj) : St w (W.alloc o) P g l := h.nil ((Touch.refl Nil W).alloc o)
theorem is (h : St w W P g l) (e : l = l') : St w W P g l' := e ▸ h
theorem grow (h : St w W P g l) (t : Touch (own P g) W W') : Touch Nil w W' := h.t.transNew t (fun i hi e => by
  rcases e with e | e
  · have := h.p; omega
  · have := h.gg i e; omega)
theorem step (h : St w W P g l) (t : Touch (own P g) W W') (hf : Fr W g g') (hA : TAt W' P g' l') : St w W' P g' l' :=
  ⟨hA, h.grow t, h.p, fun k hk => by
    rcases hf with hf | hf
    · exact h.gg k (hf ▸ hk)
    · exact Nat.le_trans h.t.size (hf k hk)⟩
/-- A store into a block that is none of the TLB's, and new. -/
theorem sets (h : St w W P g l) {B : Nat} (hB : ¬ own P g B) (hw : w.heap.size ≤ B) (vs : List Value) (o : Nat) : St w (W.setCells B o vs) P g l :=
  ⟨h.at'.touch ((Touch.refl (· = B) W).setCells rfl vs o) (fun _ hk e => hB (e ▸ hk)), h.t.setNews hw vs o, h.p, h.gg⟩
end St
theorem Fr.same (w : World) (g : Option Nat) : Fr w g g := Or.inl rfl
theorem Fr.none (w : World) (g : Option Nat) : Fr w g none := Or.inr (fun _ h => by cases h)

theorem st_new (w : World) : Calls Try.prog 8 #[] w fun e w' => e = .returned (.pointer (some ⟨w.heap.size, 0, none⟩)) ∧ St w w' w.heap.size none [] ∧ w'.heap.size = w.heap.size + 1 :=
  (tnew_any w).mono fun _ _ ⟨h1, h2, h3, h4⟩ => ⟨h1, ⟨h2, h3, Nat.le_refl _, fun _ h => by cases h⟩, h4⟩
theorem st_put {w W : World} {P : Nat} {g : Option Nat} {l : List It} (h : St w W P g l) (x : It) :
    Calls Try.prog 10 #[.pointer (some ⟨P, 0, none⟩), x.V] W fun e w' => e = .returned (.tuple #[]) ∧ ∃ g', St w w' P g' (put x l) ∧ Touch (own P g) W w' ∧ Fr W g g' :=
  (tput_any h.at' x).mono fun _ _ ⟨h1, g', h2, h3, h4⟩ => ⟨h1, g', h.step h3 h4 h2, h3, h4⟩
theorem st_page {w W : World} {P : Nat} {g : Option Nat} {l : List It} (h : St w W P g l) (pcid page : Int) :
    Calls Try.prog 13 #[.pointer (some ⟨P, 0, none⟩), .int .i64 pcid, .int .i64 page] W fun e w' => e = .returned (.tuple #[]) ∧ St w w' P g (dropPage pcid page l) ∧ Touch (own P g) W w' :=
  (tdropPage_any h.at' pcid page).mono fun _ _ ⟨h1, h2, h3⟩ => ⟨h1, h.step h3 (Fr.same _ _) h2, h3⟩
theorem st_name {w W : World} {P : Nat} {g : Option Nat} {l : List It} (h : St w W P g l) (pcid : Int) :
    Calls Try.prog 12 #[.pointer (some ⟨P, 0, none⟩), .int .i64 pcid] W fun e w' => e = .returned (.tuple #[]) ∧ St w w' P g (dropName pcid l) ∧ Touch (own P g) W w' :=
  (tdropName_any h.at' pcid).mono fun _ _ ⟨h1, h2, h3⟩ => ⟨h1, h.step h3 (Fr.same _ _) h2, h3⟩
theorem st_all {w W : World} {P : Nat} {g : Option Nat} {l : List It} (h : St w W P g l) :
    Calls Try.prog 22 #[.pointer (some ⟨P, 0, none⟩)] W fun e w' => e = .returned (.tuple #[]) ∧ St w w' P none [] ∧ Touch (own P g) W w' :=
  (tdropAll_any h.at').mono fun _ _ ⟨h1, h2, h3⟩ => ⟨h1, h.step h3 (Fr.none _ _) h2, h3⟩
theorem st_forget {w W : World} {P : Nat} {g : Option Nat} {l : List It} (h : St w W P g l) (n : Int) :
    Calls Try.prog 15 #[.pointer (some ⟨P, 0, none⟩), .int .i64 n] W fun e w' => e = .returned (.bool (hasN n l)) ∧ St w w' P g (forgetI n l) ∧ Touch (own P g) W w' :=
  (tforget_any h.at' n).mono fun _ _ ⟨h1, h2, h3⟩ => ⟨h1, h.step h3 (Fr.same _ _) h2, h3⟩
theorem st_find {w W : World} {P : Nat} {g : Option Nat} {l : List It} (h : St w W P g l) (pcid page : Int) :
    Calls Try.prog 11 #[.pointer (some ⟨P, 0, none⟩), .int .i64 pcid, .int .i64 page] W fun e w' => e = .returned (.tuple #[(found pcid page l).V, .bool (finds pcid page l)]) ∧ St w w' P g l ∧ Touch Nil W w' :=
  (tfind_any h.at' pcid page).mono fun _ _ ⟨h1, h2⟩ => ⟨h1, h.nil h2, h2⟩
theorem st_list {w W : World} {P : Nat} {g : Option Nat} {l : List It} (h : St w W P g l) :
    Calls Try.prog 14 #[.pointer (some ⟨P, 0, none⟩)] W fun e w' => ∃ a cap, e = .returned (.slice a l.length cap) ∧ St w w' P g l ∧ LAt 26 w' a cap l ∧ (∀ k, blk a k → W.heap.size ≤ k) ∧ (∀ p, a = some p → p.off = 0 ∧ p.spot = none) ∧ Touch Nil W w' :=
  (tlist_any h.at').mono fun _ _ ⟨a, cap, h1, h2, h3, h4, h5⟩ => ⟨a, cap, h1, h.nil h5, h2, h3, h4, h5⟩

theorem LAt.row {ty : TypeId} {w : World} {a : Option Addr} {cap : Nat} {l : List It} (h : LAt ty w a cap l) (hl : l ≠ []) : ∃ k o, a = some ⟨k, o, none⟩ ∧ LRow ty w k o cap l := by
  rcases h with ⟨_, _, h⟩ | h
  · exact absurd h hl
  · exact h
/-- The caller's variables. -/
def Bs (w : World) (P : Nat) (g : Option Nat) (L : List (Nat × It)) : Prop := ∀ p ∈ L, Box w P g p.1 p.2
namespace Bs
variable {w w' : World} {P : Nat} {g g' : Option Nat} {L : List (Nat × It)}
theorem box (h : Bs w P g L) {B : Nat} {x : It} (hp : (B, x) ∈ L) : Box w P g B x := h _ hp
theorem nil (h : Bs w P g L) (t : Touch Nil w w') : Bs w' P g L := fun p hp => (h p hp).nil t
theorem drop (h : Bs w P g L) (t : Touch (own P g) w w') : Bs w' P g L := fun p hp => (h p hp).drop t
theorem put (h : Bs w P g L) (t : Touch (own P g) w w') (hf : Fr w g g') : Bs w' P g' L := fun p hp => (h p hp).put t hf
theorem new (h : Bs w P g L) {l : List It} (hA : TAt w P g l) (x : It) (t : TypeId) : Bs (w.alloc (bxO x t)) P g ((w.heap.size, x) :: L) := fun p hp => by
  rcases List.mem_cons.1 hp with rfl | hp
  · exact Box.mk' hA x
  · exact (h p hp).nil ((Touch.refl Nil w).alloc _)
theorem six (h : Bs w P g L) {B : Nat} {x : It} (hp : (B, x) ∈ L) : w.cell? ⟨B, 0, none⟩ = some (.int .i64 x.pc) ∧ w.cell? ⟨B, 1, none⟩ = some (.int .i64 x.pg) ∧ w.cell? ⟨B, 2, none⟩ = some (.int .i64 x.fr) ∧ w.cell? ⟨B, 3, none⟩ = some (.bool x.wr) ∧ w.cell? ⟨B, 4, none⟩ = some (.bool x.us) ∧ w.cell? ⟨B, 5, none⟩ = some (.bool x.gl) :=
  (h _ hp).six
end Bs
end Go.Proofs.Ytleeodpnamnnfaa
