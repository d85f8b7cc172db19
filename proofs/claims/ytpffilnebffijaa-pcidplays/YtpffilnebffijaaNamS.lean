/-
  Package pcid: names of spaces, as plain functions.
-/
import Derived.Test.YtpffilnebffijaaCore
import Derived.Test.YtpffilnebffijaaKeep
namespace Go.Proofs.Ytpffilnebffijaa
open Go.ChangeShapes Go.WideShapes Go.ChangeAt Go.RowKit

/-- Names: CPUs, each process's pair, what must be flushed, the generation. -/
structure NS where
  c : Nat
  P : Nat → Nat
  M : Nat → Nat → Bool
  g : Nat
namespace NS
def cell (n : NS) (i : Nat) : Value :=
  if i = 0 then .int .i64 n.c else if i < 5 then .int .i64 (n.P (i - 1)) else if i < 13 then .bool (n.M ((i - 5) / 4) ((i - 5) % 4)) else .int .i64 n.g
/-- The same in the order of the document's own. -/
def rcell (n : NS) (i : Nat) : Value :=
  if i < 4 then .int .i64 (n.P i) else if i < 12 then .bool (n.M ((i - 4) / 4) ((i - 4) % 4)) else if i = 12 then .int .i64 n.c else .int .i64 n.g
theorem cell_c (n : NS) : n.cell 0 = .int .i64 n.c := rfl
theorem cell_g (n : NS) : n.cell 13 = .int .i64 n.g := rfl
theorem cell_p (n : NS) (i : Nat) (h : i < 4) : n.cell (1 + i) = .int .i64 (n.P i) := by
  unfold cell; rw [if_neg (by omega), if_pos (by omega), show 1 + i - 1 = i by omega]
theorem cell_m (n : NS) (i j : Nat) (h : i < 2) (k : j < 4) : n.cell (5 + i * 4 + j) = .bool (n.M i j) := by
  unfold cell; rw [if_neg (by omega), if_neg (by omega), if_pos (by omega), show (5 + i * 4 + j - 5) / 4 = i by omega, show (5 + i * 4 + j - 5) % 4 = j by omega]
theorem rcell_c (n : NS) : n.rcell 12 = .int .i64 n.c := rfl
theorem rcell_g (n : NS) : n.rcell 13 = .int .i64 n.g := rfl
theorem rcell_p (n : NS) (i : Nat) (h : i < 4) : n.rcell i = .int .i64 (n.P i) := by
  unfold rcell; rw [if_pos (by omega)]
theorem rcell_m (n : NS) (i j : Nat) (h : i < 2) (k : j < 4) : n.rcell (4 + i * 4 + j) = .bool (n.M i j) := by
  unfold rcell; rw [if_neg (by omega), if_pos (by omega), show (4 + i * 4 + j - 4) / 4 = i by omega, show (4 + i * 4 + j - 4) % 4 = j by omega]

def hasC (n : NS) (c : Int) : Bool := decide (0 ≤ c) && decide (c < n.c)
def isPr (k : Int) : Bool := decide (1 ≤ k) && decide (k ≤ 3)
def isP (p : Int) : Bool := decide (0 ≤ p) && decide (p < 4)
theorem hasC_iff (n : NS) (c : Int) : n.hasC c = true ↔ 0 ≤ c ∧ c < n.c := by simp [hasC]
theorem isPr_iff (k : Int) : isPr k = true ↔ 1 ≤ k ∧ k ≤ 3 := by simp [isPr]
theorem isP_iff (p : Int) : isP p = true ↔ 0 ≤ p ∧ p < 4 := by simp [isP]
def pair (n : NS) (p : Int) : Nat := if isP p = true then n.P p.toNat else 0
def put (n : NS) (p k : Nat) : NS := { n with P := fun i => if i = p then k else n.P i }
def lay (n : NS) (c k : Nat) (x : Bool) : NS := { n with M := fun i j => if i = c ∧ j = k then x else n.M i j }
def must (n : NS) (c k : Int) : NS := if (n.hasC c && isPr k) = true then n.lay c.toNat k.toNat true else n
def mustTo (n : NS) (k : Int) : Nat → NS
  | 0 => n
  | i + 1 => (n.mustTo k i).must i k
def all (n : NS) (k : Int) : NS := n.mustTo k n.c
def took (n : NS) (c k : Int) : Bool := n.hasC c && isPr k && n.M c.toNat k.toNat
def take (n : NS) (c k : Int) : NS := if n.took c k = true then n.lay c.toNat k.toNat false else n
def renew (n : NS) : NS := ⟨n.c, fun _ => 0, fun _ _ => false, n.g + 1⟩
def had (n : NS) (k : Nat) : Bool := (n.P 0 == k) || (n.P 1 == k) || (n.P 2 == k) || (n.P 3 == k)
def free (n : NS) : Nat := if n.had 1 = false then 1 else if n.had 2 = false then 2 else if n.had 3 = false then 3 else 0
def drop (n : NS) (p : Int) : NS := if n.pair p = 0 then n else (n.put p.toNat 0).all (n.pair p)
/-- Its pair, whether all must go, what is then. -/
def ofP (n : NS) (p : Int) : Nat := if isP p = false then 0 else if n.P p.toNat ≠ 0 then n.P p.toNat else if n.free ≠ 0 then n.free else 1
def ofA (n : NS) (p : Int) : Bool := isP p && (n.P p.toNat == 0) && (n.free == 0)
def ofN (n : NS) (p : Int) : NS := if isP p = false then n else if n.P p.toNat ≠ 0 then n else if n.free ≠ 0 then n.put p.toNat n.free else n.renew.put p.toNat 1
/-- New ones, of as many CPUs as may be. -/
def cpus (c : Int) : Nat := (min (max c 1) 2).toNat
def fresh (c : Nat) : NS := ⟨c, fun _ => 0, fun _ _ => false, 0⟩

/-- What all of them keep. -/
structure OK (n : NS) : Prop where
  c1 : 1 ≤ n.c
  c2 : n.c ≤ 2
  p : ∀ i, i < 4 → n.P i ≤ 3
theorem cpus_ok (c : Int) : 1 ≤ cpus c ∧ cpus c ≤ 2 := by unfold cpus; omega
theorem fresh_ok (c : Int) : (fresh (cpus c)).OK := ⟨(cpus_ok c).1, (cpus_ok c).2, fun _ _ => Nat.zero_le _⟩
variable {n : NS}
theorem free_le (n : NS) : n.free ≤ 3 := by unfold free; split <;> (try split) <;> (try split) <;> omega
theorem OK.put (h : n.OK) (p k : Nat) (hk : k ≤ 3) : (n.put p k).OK := ⟨h.c1, h.c2, fun i hi => by
  show (if _ then _ else _) ≤ _
  split
  · exact hk
  · exact h.p i hi⟩
theorem OK.lay (h : n.OK) (c k : Nat) (x : Bool) : (n.lay c k x).OK := ⟨h.c1, h.c2, h.p⟩
theorem OK.must (h : n.OK) (c k : Int) : (n.must c k).OK := by
  unfold NS.must; split
  · exact h.lay _ _ _
  · exact h
theorem must_c (n : NS) (c k : Int) : (n.must c k).c = n.c := by unfold must; split <;> rfl
theorem must_P (n : NS) (c k : Int) : (n.must c k).P = n.P := by unfold must; split <;> rfl
theorem must_g (n : NS) (c k : Int) : (n.must c k).g = n.g := by unfold must; split <;> rfl
theorem mustTo_c (n : NS) (k : Int) : ∀ i, (n.mustTo k i).c = n.c
  | 0 => rfl
  | i + 1 => (must_c _ _ _).trans (mustTo_c n k i)
theorem mustTo_P (n : NS) (k : Int) : ∀ i, (n.mustTo k i).P = n.P
  | 0 => rfl
  | i + 1 => (must_P _ _ _).trans (mustTo_P n k i)
theorem mustTo_g (n : NS) (k : Int) : ∀ i, (n.mustTo k i).g = n.g
  | 0 => rfl
  | i + 1 => (must_g _ _ _).trans (mustTo_g n k i)
theorem OK.mustTo (h : n.OK) (k : Int) : ∀ i, (n.mustTo k i).OK
  | 0 => h
  | i + 1 => (OK.mustTo h k i).must _ _
theorem OK.all (h : n.OK) (k : Int) : (n.all k).OK := h.mustTo k n.c
theorem OK.take (h : n.OK) (c k : Int) : (n.take c k).OK := by
  unfold NS.take; split
  · exact h.lay _ _ _
  · exact h
theorem OK.renew (h : n.OK) : n.renew.OK := ⟨h.c1, h.c2, fun _ _ => Nat.zero_le _⟩
theorem OK.drop (h : n.OK) (p : Int) : (n.drop p).OK := by
  unfold NS.drop; split
  · exact h
  · exact (h.put _ _ (Nat.zero_le _)).all _
theorem OK.ofN (h : n.OK) (p : Int) : (n.ofN p).OK := by
  unfold NS.ofN; split
  · exact h
  · split
    · exact h
    · split
      · exact h.put _ _ (free_le n)
      · exact h.renew.put _ _ (by omega)
/-- What is made not to be flushed that need not be. -/
theorem lay_same (n : NS) (c k : Nat) (h : n.M c k = false) : n.lay c k false = n := by
  unfold lay
  have : (fun i j => if i = c ∧ j = k then false else n.M i j) = n.M := by
    funext i j; split
    · rename_i e; rw [e.1, e.2, h]
    · rfl
  rw [this]
theorem lay_M (n : NS) (c k : Nat) (x : Bool) (i j : Nat) : (n.lay c k x).M i j = if i = c ∧ j = k then x else n.M i j := rfl
theorem must_M (n : NS) (c k : Int) (i j : Nat) : (n.must c k).M i j = if (n.hasC c && isPr k) = true ∧ i = c.toNat ∧ j = k.toNat then true else n.M i j := by
  unfold must; split
  · rename_i e; rw [lay_M]; simp only [e, true_and]
  · rename_i e; rw [if_neg (fun q => e q.1)]
theorem mustTo_M (n : NS) (k : Int) (i j : Nat) : ∀ m, m ≤ n.c → ((n.mustTo k m).M i j = if i < m ∧ isPr k = true ∧ j = k.toNat then true else n.M i j)
  | 0, _ => by rw [if_neg (by omega)]; rfl
  | m + 1, hm => by
    show ((n.mustTo k m).must m k).M i j = _
    rw [must_M, mustTo_M n k i j m (by omega)]
    have hh : (n.mustTo k m).hasC (m : Int) = true := (hasC_iff _ _).2 (by rw [mustTo_c]; omega)
    rw [hh, Bool.true_and, Int.toNat_natCast]
    by_cases h1 : isPr k = true
    · by_cases h2 : j = k.toNat
      · by_cases h3 : i = m
        · rw [if_pos ⟨h1, h3, h2⟩, if_pos ⟨by omega, h1, h2⟩]
        · rw [if_neg (by omega)]
          by_cases h4 : i < m
          · rw [if_pos ⟨h4, h1, h2⟩, if_pos ⟨by omega, h1, h2⟩]
          · rw [if_neg (by omega), if_neg (by omega)]
      · rw [if_neg (by omega), if_neg (by omega), if_neg (by omega)]
    · rw [if_neg (fun q => h1 q.1), if_neg (fun q => h1 q.2.1), if_neg (fun q => h1 q.2.1)]
theorem all_M (n : NS) (k : Int) (i j : Nat) : (n.all k).M i j = if i < n.c ∧ isPr k = true ∧ j = k.toNat then true else n.M i j := mustTo_M n k i j n.c (Nat.le_refl _)
theorem all_c (n : NS) (k : Int) : (n.all k).c = n.c := mustTo_c n k n.c
theorem all_P (n : NS) (k : Int) : (n.all k).P = n.P := mustTo_P n k n.c
theorem all_g (n : NS) (k : Int) : (n.all k).g = n.g := mustTo_g n k n.c
theorem take_M (n : NS) (c k : Int) (i j : Nat) : (n.take c k).M i j = if n.took c k = true ∧ i = c.toNat ∧ j = k.toNat then false else n.M i j := by
  unfold take; split
  · rename_i e; rw [lay_M]; simp only [e, true_and]
  · rename_i e; rw [if_neg (fun q => e q.1)]
theorem take_c (n : NS) (c k : Int) : (n.take c k).c = n.c := by unfold take; split <;> rfl
theorem take_P (n : NS) (c k : Int) : (n.take c k).P = n.P := by unfold take; split <;> rfl
theorem take_g (n : NS) (c k : Int) : (n.take c k).g = n.g := by unfold take; split <;> rfl
theorem all_off (n : NS) (k : Int) (h : isPr k = false) : n.all k = n := by
  have : ∀ i, n.mustTo k i = n := by
    intro i
    induction i with
    | zero => rfl
    | succ i ih => show (n.mustTo k i).must i k = n; rw [ih]; unfold must; rw [h, Bool.and_false]; rfl
  exact this n.c
theorem g_of (n : NS) (p : Int) : (n.ofN p).g = n.g + if n.ofA p = true then 1 else 0 := by
  unfold ofN ofA
  cases hp : isP p
  · simp
  · by_cases h : n.P p.toNat = 0
    · by_cases f : n.free = 0
      · simp [h, f, put, renew]
      · simp [h, f, put]
    · simp [h]
end NS

/-- Names in block b. -/
def NAt (w : World) (b : Nat) (n : NS) : Prop := w.rowIs b 128 14 n.cell
namespace NAt
variable {w w' : World} {b : Nat} {n : NS}
theorem touch {S : Nat → Prop} (h : NAt w b n) (t : Touch S w w') (hs : ¬ S b) : NAt w' b n := t.row h hs
theorem drewN (h : NAt w b n) (k : Nat) : NAt (w.drewN k) b n := h
theorem frozen (h : NAt w b n) (i : Nat) : w.frozen? ⟨b, i, none⟩ = false := World.rowIs.frozen h i
theorem lt (h : NAt w b n) : b < w.heap.size := World.rowIs.lt h
theorem cC (h : NAt w b n) : w.cell? ⟨b, 0, none⟩ = some (.int .i64 n.c) := World.rowIs.cell h (i := 0) (by omega)
theorem gC (h : NAt w b n) : w.cell? ⟨b, 13, none⟩ = some (.int .i64 n.g) := World.rowIs.cell h (i := 13) (by omega)
theorem pC (h : NAt w b n) (i : Nat) (hi : i < 4) : w.cell? ⟨b, 1 + i, none⟩ = some (.int .i64 (n.P i)) := by
  rw [World.rowIs.cell h (i := 1 + i) (by omega), n.cell_p i hi]
theorem mC (h : NAt w b n) (i j : Nat) (hi : i < 2) (hj : j < 4) : w.cell? ⟨b, 5 + i * 4 + j, none⟩ = some (.bool (n.M i j)) := by
  rw [World.rowIs.cell h (i := 5 + i * 4 + j) (by omega), n.cell_m i j hi hj]
theorem setP (h : NAt w b n) (p k : Nat) (hp : p < 4) : NAt (w.setCell ⟨b, 1 + p, none⟩ (.int .i64 k)) b (n.put p k) :=
  (World.rowIs.set h (1 + p) _).congr fun i hi => by
    show (if i = 1 + p then _ else n.cell i) = (n.put p k).cell i
    unfold NS.cell NS.put
    by_cases e : i = 1 + p
    · subst e; rw [if_pos rfl, if_neg (by omega), if_pos (by omega)]; simp
    · rw [if_neg e]
      by_cases e0 : i = 0
      · rw [if_pos e0, if_pos e0]
      · rw [if_neg e0, if_neg e0]
        by_cases e5 : i < 5
        · rw [if_pos e5, if_pos e5]; simp only; rw [if_neg (by omega)]
        · rw [if_neg e5, if_neg e5]
theorem setM (h : NAt w b n) (c k : Nat) (hc : c < 2) (hk : k < 4) (x : Bool) : NAt (w.setCell ⟨b, 5 + c * 4 + k, none⟩ (.bool x)) b (n.lay c k x) :=
  (World.rowIs.set h (5 + c * 4 + k) _).congr fun i hi => by
    show (if i = 5 + c * 4 + k then _ else n.cell i) = (n.lay c k x).cell i
    unfold NS.cell NS.lay
    by_cases e : i = 5 + c * 4 + k
    · subst e; rw [if_pos rfl, if_neg (by omega), if_neg (by omega), if_pos (by omega)]; simp only
      rw [if_pos (by omega)]
    · rw [if_neg e]
      by_cases e0 : i = 0
      · rw [if_pos e0, if_pos e0]
      · rw [if_neg e0, if_neg e0]
        by_cases e5 : i < 5
        · rw [if_pos e5, if_pos e5]
        · rw [if_neg e5, if_neg e5]
          by_cases e13 : i < 13
          · rw [if_pos e13, if_pos e13]; simp only; rw [if_neg (by omega)]
          · rw [if_neg e13, if_neg e13]
end NAt
end Go.Proofs.Ytpffilnebffijaa
