/-
  Which blocks of memory a call may have turned; a memory of frames, as plain functions.
-/
import Derived.Deep.OwnRows
import Derived.Below
import Derived.Deep.MidRow
namespace Go.Proofs.YtpnegpcnmmaclaaDoor
open Go.RowKit

/-- Each block that was there and of which S does not hold is as it was. -/
structure Touch (S : Nat → Prop) (w w' : World) : Prop where
  os : w'.os = w.os
  tape : w'.tape = w.tape
  output : w'.output = w.output
  size : w.heap.size ≤ w'.heap.size
  block : ∀ k, k < w.heap.size → ¬ S k → w'.heap[k]? = w.heap[k]?

namespace Touch
variable {S S' : Nat → Prop} {w w' w'' : World}
theorem refl (S : Nat → Prop) (w : World) : Touch S w w := ⟨rfl, rfl, rfl, Nat.le_refl _, fun _ _ _ => rfl⟩
theorem trans (h : Touch S w w') (k : Touch S w' w'') : Touch S w w'' :=
  ⟨k.os.trans h.os, k.tape.trans h.tape, k.output.trans h.output, Nat.le_trans h.size k.size,
    fun i hi hs => (k.block i (Nat.lt_of_lt_of_le hi h.size) hs).trans (h.block i hi hs)⟩
theorem mono (h : Touch S w w') (hs : ∀ k, k < w.heap.size → S k → S' k) : Touch S' w w' :=
  ⟨h.os, h.tape, h.output, h.size, fun k hk hn => h.block k hk (fun a => hn (hs k hk a))⟩
theorem drew (h : Touch S w w') : Touch S w w'.drew := ⟨h.os, h.tape, h.output, h.size, h.block⟩
theorem alloc (h : Touch S w w') (o : Obj) : Touch S w (w'.alloc o) :=
  h.trans ⟨rfl, rfl, rfl, by simp, fun _ hk _ => Below.heap_alloc _ _ _ hk⟩
theorem setCell (h : Touch S w w') {p : Addr} (hp : S p.block) (u : Value) : Touch S w (w'.setCell p u) :=
  h.trans ⟨rfl, rfl, rfl, by simp [World.setCell], fun _ _ hs => Below.heap_setCell _ _ _ _ (fun e => hs (e ▸ hp))⟩
/-- A store into a block that is newer than w. -/
theorem setNew (h : Touch S w w') {p : Addr} (hp : w.heap.size ≤ p.block) (u : Value) : Touch S w (w'.setCell p u) :=
  ⟨h.os, h.tape, h.output, by simpa [World.setCell] using h.size, fun k hk hs => by
    rw [Below.heap_setCell _ _ _ _ (by omega)]; exact h.block k hk hs⟩
/-- Behind a step that turns blocks newer than w alone. -/
theorem transNew (h : Touch S w w') (k : Touch S' w' w'') (hn : ∀ i, i < w.heap.size → S' i → S i) : Touch S w w'' :=
  ⟨k.os.trans h.os, k.tape.trans h.tape, k.output.trans h.output, Nat.le_trans h.size k.size,
    fun i hi hs => (k.block i (Nat.lt_of_lt_of_le hi h.size) (fun a => hs (hn i hi a))).trans (h.block i hi hs)⟩
theorem below (h : Touch S w w') {B : Nat} (hB : B ≤ w.heap.size) (hs : ∀ k, S k → B ≤ k) : Below B w w' :=
  ⟨h.os, h.tape, h.output, h.size, fun k hk => h.block k (Nat.lt_of_lt_of_le hk hB) (fun a => by have := hs k a; omega)⟩
theorem ofBelow (h : Below w.heap.size w w') : Touch S w w' := ⟨h.os, h.tape, h.output, h.size, fun k hk _ => h.block k hk⟩
theorem row (h : Touch S w w') {b : Nat} {t : TypeId} {n : Nat} {f : Nat → Value} (hr : w.rowIs b t n f) (hs : ¬ S b) : w'.rowIs b t n f :=
  hr.of_block (h.block b hr.lt hs)
theorem setCells (h : Touch S w w') {b : Nat} (hb : S b) : ∀ (vs : List Value) (o : Nat), Touch S w (w'.setCells b o vs) := by
  intro vs
  induction vs generalizing w' with
  | nil => intro _; exact h
  | cons v r ih => intro o; exact ih (h.setCell (p := ⟨b, o, none⟩) hb v) (o + 1)
end Touch

/-- A row behind a store of many cells into it. -/
theorem rowIs_setCells {b : Nat} {t : TypeId} {n : Nat} : ∀ (vs : List Value) (o : Nat) (w : World) (f : Nat → Value), w.rowIs b t n f →
    (w.setCells b o vs).rowIs b t n (fun j => if o ≤ j then (vs[j - o]?).getD (f j) else f j) := by
  intro vs
  induction vs with
  | nil => intro o w f h; exact h.congr fun i _ => by simp
  | cons v r ih =>
    intro o w f h
    refine (ih (o + 1) _ _ (h.set o v)).congr fun i _ => ?_
    by_cases h1 : o + 1 ≤ i
    · obtain ⟨k, rfl⟩ : ∃ k, i = o + 1 + k := ⟨i - (o + 1), by omega⟩
      rw [if_pos h1, if_neg (show ¬ o + 1 + k = o by omega), if_pos (show o ≤ o + 1 + k by omega), show o + 1 + k - o = k + 1 by omega, show o + 1 + k - (o + 1) = k by omega, List.getElem?_cons_succ]
    · rw [if_neg h1]
      by_cases h2 : i = o
      · subst h2; simp
      · rw [if_neg h2, if_neg (by omega)]
/-- Block b is a row of cells of type t, none frozen; of the first n of them cell i holds 'f i'. -/
def rowHas (w : World) (b : Nat) (t : TypeId) (n : Nat) (f : Nat → Value) : Prop :=
  ∃ m g, n ≤ m ∧ w.rowIs b t m g ∧ ∀ i, i < n → g i = f i
namespace rowHas
variable {w w' : World} {b : Nat} {t : TypeId} {n : Nat} {f g : Nat → Value}
theorem of (h : w.rowIs b t n f) : rowHas w b t n f := ⟨n, f, Nat.le_refl _, h, fun _ _ => rfl⟩
theorem cell (h : rowHas w b t n f) {i : Nat} (hi : i < n) : w.cell? ⟨b, i, none⟩ = some (f i) := by
  obtain ⟨m, g, hm, hr, he⟩ := h
  rw [hr.cell (by omega), he i hi]
theorem frozen (h : rowHas w b t n f) (i : Nat) : w.frozen? ⟨b, i, none⟩ = false := by
  obtain ⟨m, g, hm, hr, he⟩ := h
  exact hr.frozen i
theorem lt (h : rowHas w b t n f) : b < w.heap.size := by
  obtain ⟨m, g, hm, hr, he⟩ := h
  exact hr.lt
theorem congr (h : rowHas w b t n f) (e : ∀ i, i < n → f i = g i) : rowHas w b t n g := by
  obtain ⟨m, f', hm, hr, he⟩ := h
  exact ⟨m, f', hm, hr, fun i hi => (he i hi).trans (e i hi)⟩
theorem of_block (h : rowHas w b t n f) (e : w'.heap[b]? = w.heap[b]?) : rowHas w' b t n f := by
  obtain ⟨m, g, hm, hr, he⟩ := h
  exact ⟨m, g, hm, hr.of_block e, he⟩
theorem set (h : rowHas w b t n f) (i : Nat) (v : Value) : rowHas (w.setCell ⟨b, i, none⟩ v) b t n (fun j => if j = i then v else f j) := by
  obtain ⟨m, g, hm, hr, he⟩ := h
  refine ⟨m, _, hm, hr.set i v, fun j hj => ?_⟩
  by_cases e : j = i
  · simp [e]
  · simp [e, he j hj]
theorem setOther (h : rowHas w b t n f) {a : Addr} (ha : b ≠ a.block) (v : Value) : rowHas (w.setCell a v) b t n f := by
  obtain ⟨m, g, hm, hr, he⟩ := h
  exact ⟨m, g, hm, hr.setOther ha v, he⟩
theorem alloc (h : rowHas w b t n f) (o : Obj) : rowHas (w.alloc o) b t n f := by
  obtain ⟨m, g, hm, hr, he⟩ := h
  exact ⟨m, g, hm, hr.alloc o, he⟩
theorem setCells (h : rowHas w b t n f) (vs : List Value) (o : Nat) : rowHas (w.setCells b o vs) b t n (fun j => if o ≤ j then (vs[j - o]?).getD (f j) else f j) := by
  obtain ⟨m, g, hm, hr, he⟩ := h
  exact ⟨m, _, hm, rowIs_setCells vs o w g hr, fun j hj => by simp only [he j hj]⟩
theorem there (h : rowHas w b t n f) (o k : Nat) (hk : o + k ≤ n) : w.there b o k := fun j hj =>
  ⟨by rw [h.cell (by omega)]; rfl, h.frozen _⟩
theorem touch {S : Nat → Prop} (h : rowHas w b t n f) (k : Touch S w w') (hs : ¬ S b) : rowHas w' b t n f := h.of_block (k.block b h.lt hs)
end rowHas

theorem rowIs_setCells_other {b c : Nat} {t : TypeId} {n : Nat} {f : Nat → Value} {w : World} (h : w.rowIs b t n f) (hne : b ≠ c) (vs : List Value) (o : Nat) : (w.setCells c o vs).rowIs b t n f :=
  ((Touch.refl (· = c) w).setCells rfl vs o).row h hne
theorem there_of_row {w : World} {b : Nat} {t : TypeId} {n : Nat} {f : Nat → Value} (h : w.rowIs b t n f) (o k : Nat) (hk : o + k ≤ n) : w.there b o k := fun j hj =>
  ⟨by rw [h.cell (by omega)]; rfl, h.frozen _⟩

/-- Rows of unlike types are unlike blocks. -/
theorem rowIs_ne {w : World} {b c : Nat} {t u : TypeId} {n m : Nat} {f g : Nat → Value} (h : w.rowIs b t n f) (k : w.rowIs c u m g) (ht : t ≠ u) : b ≠ c := by
  rintro rfl
  obtain ⟨x, hx, _⟩ := h
  obtain ⟨y, hy, _⟩ := k
  rw [hx] at hy
  cases hy
  exact ht rfl

/-- Nothing old is turned. -/
abbrev Nil : Nat → Prop := fun _ => False

/-- A memory: its frames, its words, its marks. -/
structure MS where
  n : Nat
  W : Nat → Int
  C : Nat → Int
  O : Nat → Int

namespace MS
def hasF (s : MS) (f : Int) : Bool := decide (0 ≤ f) && decide (f < s.n)
def hasW (s : MS) (a : Int) : Bool := decide (0 ≤ a) && decide (a < 8 * s.n)
def mayM (s : MS) (f c : Int) : Bool := s.hasF f && decide (0 ≤ c) && decide (c ≤ 5)
def rd (s : MS) (a : Int) : Int := if s.hasW a = true then s.W a.toNat else 0
def cls (s : MS) (f : Int) : Int := if s.hasF f = true then s.C f.toNat else -1
def own (s : MS) (f : Int) : Int := if s.hasF f = true then s.O f.toNat else -1
def write (s : MS) (a : Int) (x : Int) : MS := if s.hasW a = true then { s with W := fun i => if i = a.toNat then x else s.W i } else s
def zero (s : MS) (f : Int) : MS := if s.hasF f = true then { s with W := fun i => if i / 8 = f.toNat then 0 else s.W i } else s
def copy (s : MS) (f t : Int) : MS := if s.hasF f = true ∧ s.hasF t = true then { s with W := fun i => if i / 8 = t.toNat then s.W (f.toNat * 8 + i % 8) else s.W i } else s
def mark (s : MS) (f c o : Int) : MS := if s.mayM f c = true then { s with C := fun i => if i = f.toNat then c else s.C i, O := fun i => if i = f.toNat then o else s.O i } else s
/-- All that is new. -/
def fresh (n : Nat) : MS := ⟨n, fun _ => 0, fun _ => 0, fun _ => -1⟩
/-- As many as may be. -/
def many (n : Int) : Nat := (min (max n 0) 64).toNat
/-- A frame's ten cells. -/
def cell (s : MS) (i : Nat) : Value :=
  if i % 10 < 8 then .int .u64 (s.W (i / 10 * 8 + i % 10)) else if i % 10 = 8 then .int .i64 (s.C (i / 10)) else .int .i64 (s.O (i / 10))

theorem cell_word (s : MS) (f o : Nat) (h : o < 8) : s.cell (f * 10 + o) = .int .u64 (s.W (f * 8 + o)) := by
  unfold cell
  have h1 : (f * 10 + o) % 10 = o := by omega
  have h2 : (f * 10 + o) / 10 = f := by omega
  rw [h1, h2, if_pos h]
theorem cell_class (s : MS) (f : Nat) : s.cell (f * 10 + 8) = .int .i64 (s.C f) := by
  unfold cell
  have h1 : (f * 10 + 8) % 10 = 8 := by omega
  have h2 : (f * 10 + 8) / 10 = f := by omega
  rw [h1, h2, if_neg (by omega), if_pos rfl]
theorem cell_owner (s : MS) (f : Nat) : s.cell (f * 10 + 9) = .int .i64 (s.O f) := by
  unfold cell
  have h1 : (f * 10 + 9) % 10 = 9 := by omega
  have h2 : (f * 10 + 9) / 10 = f := by omega
  rw [h1, h2, if_neg (by omega), if_neg (by omega)]
theorem hasF_iff (s : MS) (f : Int) : s.hasF f = true ↔ 0 ≤ f ∧ f < s.n := by simp [hasF]
theorem hasW_iff (s : MS) (a : Int) : s.hasW a = true ↔ 0 ≤ a ∧ a < 8 * s.n := by simp [hasW]
theorem hasF_no (s : MS) (f : Int) : s.hasF f = false ↔ f < 0 ∨ s.n ≤ f := by rw [Bool.eq_false_iff, Ne, hasF_iff]; omega
theorem hasW_no (s : MS) (a : Int) : s.hasW a = false ↔ a < 0 ∨ 8 * s.n ≤ a := by rw [Bool.eq_false_iff, Ne, hasW_iff]; omega
theorem many_le (n : Int) : many n ≤ 64 := by unfold many; omega
end MS

end Go.Proofs.YtpnegpcnmmaclaaDoor
