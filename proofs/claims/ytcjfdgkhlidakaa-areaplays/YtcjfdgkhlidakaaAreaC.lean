/-
  Package area: Rights, Clone.
-/
import Derived.Test.YtcjfdgkhlidakaaAreaB
namespace Go.Proofs.Ytcjfdgkhlidakaa
open Go.ChangeShapes Go.WideShapes Go.ChangeAt Go.RowKit

def rtsA (R : Nat → Int) (p : Int) : Int × Bool := if rowP p 1 = true then (rt R p.toNat, decide (0 ≤ R p.toNat)) else (0, false)
set_option maxHeartbeats 1000000 in
theorem rights_any {w : World} {b : Nat} {R : Nat → Int} (h : AAt w b R) (p : Int) (hp : p ≤ 9223372036854775807) :
    Calls Try.prog 15 #[.pointer (some ⟨b, 0, none⟩), .int .i64 p] w fun e w' => e = .returned (.tuple #[.int .i64 (rtsA R p).1, .bool (rtsA R p).2]) ∧ Touch Nil w w' := by
  have hI := isRow_any p 1 w hp
  cases e1 : rowP p 1 with
  | false =>
    have e : rtsA R p = (0, false) := by unfold rtsA; rw [e1]; rfl
    rw [e]
    rw [e1] at hI
    go_enter Try.func15, Try.ntmps15
    go_wp2_with fail
    with_reducible refine hI.mono ?_
    rintro e wq ⟨rfl, rfl⟩
    go_wp2_with fail
    go_ret2
    exact ⟨rfl, Touch.refl _ _⟩
  | true =>
    rw [e1] at hI
    obtain ⟨p0, _, p1⟩ := (rowP_iff p 1).1 e1
    obtain ⟨F, rfl⟩ : ∃ F : Nat, p = F := ⟨p.toNat, by omega⟩
    have g1 : (F : Int) < 256 := by omega
    have e : rtsA R F = (rt R F, decide (0 ≤ R F)) := by unfold rtsA; rw [e1]; rfl
    rw [e]
    clear e
    have c1 := h.hasC (k := F) (by omega)
    have c2 := h.rtC (k := F) (by omega)
    generalize rt R F = x at *
    generalize decide (0 ≤ R F) = y at *
    go_enter Try.func15, Try.ntmps15
    go_wp2_with fail
    with_reducible refine hI.mono ?_
    rintro e wq ⟨rfl, rfl⟩
    go_upto_region 3 with fail
    go_quiet (fail)
    go_wp2_with fail
    go_ret2
    exact ⟨rfl, (Touch.refl _ _).drews _⟩
def cellsA (R : Nat → Int) : List Value := (List.range 512).map (acell R)
theorem cellsA_len (R : Nat → Int) : (cellsA R).length = 512 := by simp [cellsA]
theorem cellsA_get (R : Nat → Int) {i : Nat} (hi : i < 512) : (cellsA R)[i]? = some (acell R i) := by simp [cellsA, hi]
theorem acell_one (R : Nat → Int) (i : Nat) : (acell R i).oneCell' = true := by unfold acell; split <;> rfl
theorem AAt.range {w : World} {b : Nat} {R : Nat → Int} (h : AAt w b R) : w.rangeAt b 0 (cellsA R) := fun j v hv => by
  have hj : j < 512 := by have := (List.getElem?_eq_some_iff.1 hv).1; rwa [cellsA_len] at this
  rw [cellsA_get R hj] at hv
  cases hv
  rw [Nat.zero_add, World.rowIs.cell h hj]
theorem setCells_size (b : Nat) : ∀ (vs : List Value) (o : Nat) (w : World), (w.setCells b o vs).heap.size = w.heap.size := by
  intro vs
  induction vs with
  | nil => intro _ _; rfl
  | cons v r ih => intro o w; rw [show w.setCells b o (v :: r) = (w.setCell ⟨b, o, none⟩ v).setCells b (o + 1) r from rfl, ih]; simp [World.setCell]
set_option maxRecDepth 20000 in
set_option maxHeartbeats 1000000 in
theorem aclone_any {w : World} {b : Nat} {R : Nat → Int} (h : AAt w b R) :
    Calls Try.prog 13 #[.pointer (some ⟨b, 0, none⟩)] w fun e w' => e = .returned (.pointer (some ⟨w.heap.size, 0, none⟩)) ∧ AAt w' w.heap.size R ∧ Touch Nil w w' ∧ w'.heap.size = w.heap.size + 1 := by
  have hr := h.range
  have hl := cellsA_len R
  have h1 : ∀ v ∈ cellsA R, v.oneCell' = true := fun v hv => by
    simp only [cellsA, List.mem_map] at hv
    obtain ⟨i, _, rfl⟩ := hv
    exact acell_one R i
  go_enter Try.func13, Try.ntmps13
  go_wp2_with fail
  refine wp_load_mid 40 (.tmp 5) rfl b 0 rfl (cellsA R) _ hr Try.underlying40 rfl (by rw [hl]; kernel_rfl) ?_
  apply_assumption
  go_wp2_with fail
  refine Eq.mpr (congrArg (Oper.upon _ _ _ _ _) (a₂ := Result.ok (Next.value (.pointer (some ⟨w.heap.size, 0, none⟩))) (w.alloc (.cells zerosA 40))) (by kernel_rfl)) ?_
  have hz := fresh_A w (a := zerosA) rfl
  have tz := (Touch.refl Nil w).alloc (.cells zerosA 40)
  have sz : (w.alloc (.cells zerosA 40)).heap.size = w.heap.size + 1 := by simp
  generalize w.alloc (.cells zerosA 40) = w1 at *
  generalize hB : w.heap.size = B at *
  have hth : w1.there B 0 (cellsA R).toArray.size := there_of_row hz 0 _ (by simp [hl])
  clear h hr
  go_wp2_with fail
  have hst := run_storeCells_cells (P := Try.prog) B 0 (cellsA R) 0 w1 (fun j hj => by simpa using (hth j (by simpa using hj)).1) (fun j hj => by simpa using (hth j (by simpa using hj)).2) h1
  refine Eq.mpr (congrArg (Oper.upon _ _ _ _ _) (a₂ := Result.ok Next.skip (w1.setCells B 0 (cellsA R))) (by rw [hst]; rfl)) ?_
  go_wp2_with fail
  go_ret
  rw [hB]
  refine ⟨rfl, (World.rowIs.congr (rowIs_setCells (cellsA R) 0 _ _ hz) fun i hi => ?_), ?_, by rw [setCells_size]; exact sz⟩
  · rw [if_pos (Nat.zero_le _), Nat.sub_zero, cellsA_get R hi]; rfl
  · exact tz.transNew ((Touch.refl (· = B) w1).setCells rfl _ _) (fun i hi e => by omega)
end Go.Proofs.Ytcjfdgkhlidakaa
