/-
  What is had is marked, and nothing else: plain facts on pools.
-/
import Derived.Test.YtbnojbccaalnaaaPoolC
namespace Go.Proofs.Ytbnojbccaalnaaa

/-- How many of the first k frames are had. -/
def hadc (R : Nat → Int) : Nat → Nat
  | 0 => 0
  | k + 1 => hadc R k + if 0 < R k then 1 else 0
theorem hadc_le (R : Nat → Int) (k : Nat) : hadc R k ≤ k := by
  induction k with
  | zero => exact Nat.le_refl _
  | succ k ih => unfold hadc; split <;> omega

/-- What is had is marked, and nothing else; k steps were done. -/
structure PInv (s : MS) (R : Nat → Int) (N k : Nat) : Prop where
  n : s.n = N
  lo : ∀ g, g < 15 → R g = 0
  hi : ∀ g, N ≤ g → R g = 0
  nn : ∀ g, 0 ≤ R g
  ub : ∀ g, R g ≤ k + 1
  cl : ∀ g, g < N → (0 < R g ↔ s.C g ≠ 0)
  ow : ∀ g, g < N → (0 < R g ↔ s.O g = 1)

namespace PInv
variable {s : MS} {R : Nat → Int} {N k : Nat}
theorem fresh (N : Nat) : PInv (MS.fresh N) (fun _ => 0) N 0 :=
  ⟨rfl, fun _ _ => rfl, fun _ _ => rfl, fun _ => Int.le_refl _, fun _ => by omega, fun g _ => by simp [MS.fresh], fun g _ => by simp [MS.fresh]⟩
theorem same (h : PInv s R N k) : PInv s R N (k + 1) :=
  ⟨h.n, h.lo, h.hi, h.nn, fun g => by have := h.ub g; omega, h.cl, h.ow⟩
theorem rf_le (h : PInv s R N k) (f : Int) : rf R f ≤ k + 1 := by
  unfold rf; split
  · exact h.ub _
  · omega
/-- A frame that is had is one of the memory's. -/
theorem had (h : PInv s R N k) {f : Int} (hf : 0 < rf R f) : 15 ≤ f ∧ f < N ∧ f < 64 ∧ rf R f = R f.toNat := by
  obtain ⟨g0, g1, hr⟩ := rf_pos hf
  rw [hr] at hf
  have h1 : ¬ f.toNat < 15 := fun e => by have := h.lo _ e; omega
  have h2 : ¬ N ≤ f.toNat := fun e => by have := h.hi _ e; omega
  exact ⟨by omega, by omega, g1, hr⟩
theorem take (h : PInv s R N k) {f : Nat} (hL : Least s f) {c : Int} (hc : c = 1 ∨ c = 2) : PInv (s.mark f c 1) (rset R f 1) N (k + 1) := by
  have hm : s.mayM f c = true := by
    have : s.hasF (f : Int) = true := (s.hasF_iff _).2 (by have := hL.hi; omega)
    exact s.mayM_mk _ _ this (by omega) (by omega)
  have hfn := hL.hi
  have hflo := hL.lo
  have hn := h.n
  refine ⟨by rw [MS.mark_n]; exact h.n, fun g hg => ?_, fun g hg => ?_, fun g => ?_, fun g => ?_, fun g hg => ?_, fun g hg => ?_⟩
  · unfold rset; rw [if_neg (by simp; omega)]; exact h.lo g hg
  · unfold rset; rw [if_neg (by simp; omega)]; exact h.hi g hg
  · unfold rset; split
    · omega
    · exact h.nn g
  · unfold rset; split
    · omega
    · have := h.ub g; omega
  · unfold rset MS.mark; rw [hm]; simp only [if_true, Int.toNat_natCast]
    by_cases e : g = f
    · rw [if_pos e, if_pos e]; exact ⟨fun _ => by omega, fun _ => by omega⟩
    · rw [if_neg e, if_neg e]; exact h.cl g hg
  · unfold rset MS.mark; rw [hm]; simp only [if_true, Int.toNat_natCast]
    by_cases e : g = f
    · rw [if_pos e, if_pos e]; exact ⟨fun _ => rfl, fun _ => by omega⟩
    · rw [if_neg e, if_neg e]; exact h.ow g hg
theorem share (h : PInv s R N k) (f : Int) : PInv s (rshare R f) N (k + 1) := by
  unfold rshare
  by_cases hf : 0 < rf R f
  · rw [if_pos hf]
    obtain ⟨g0, g1, g2, hr⟩ := h.had hf
    have hu := h.ub f.toNat
    refine ⟨h.n, fun g hg => ?_, fun g hg => ?_, fun g => ?_, fun g => ?_, fun g hg => ?_, fun g hg => ?_⟩
    · unfold rset; rw [if_neg (by omega)]; exact h.lo g hg
    · unfold rset; rw [if_neg (by omega)]; exact h.hi g hg
    · unfold rset; split
      · omega
      · exact h.nn g
    · unfold rset; split
      · rw [hr]; omega
      · have := h.ub g; omega
    · unfold rset
      by_cases e : g = f.toNat
      · rw [if_pos e]; rw [← h.cl g hg, e, ← hr]; exact ⟨fun _ => hf, fun _ => by omega⟩
      · rw [if_neg e]; exact h.cl g hg
    · unfold rset
      by_cases e : g = f.toNat
      · rw [if_pos e]; rw [← h.ow g hg, e, ← hr]; exact ⟨fun _ => hf, fun _ => by omega⟩
      · rw [if_neg e]; exact h.ow g hg
  · rw [if_neg hf]; exact h.same
theorem give (h : PInv s R N k) (f : Int) : PInv (s.given R f) (rgive R f) N (k + 1) := by
  unfold rgive MS.given
  by_cases hf : 0 < rf R f
  · rw [if_pos hf]
    obtain ⟨g0, g1, g2, hr⟩ := h.had hf
    have hu := h.ub f.toNat
    by_cases h1 : rf R f = 1
    · rw [if_pos h1, h1]
      have hF : s.hasF f = true := (s.hasF_iff _).2 (by have := h.n; omega)
      have hm : (s.zero f).mayM f 0 = true := (s.zero f).mayM_mk _ _ (by rw [MS.hasF_of_n (s.zero_n f)]; exact hF) (by omega) (by omega)
      refine ⟨by rw [MS.mark_n, MS.zero_n]; exact h.n, fun g hg => ?_, fun g hg => ?_, fun g => ?_, fun g => ?_, fun g hg => ?_, fun g hg => ?_⟩
      · unfold rset; rw [if_neg (by omega)]; exact h.lo g hg
      · unfold rset; rw [if_neg (by omega)]; exact h.hi g hg
      · unfold rset; split
        · omega
        · exact h.nn g
      · unfold rset; split
        · omega
        · have := h.ub g; omega
      · unfold rset MS.mark; rw [hm]; simp only [if_true]
        by_cases e : g = f.toNat
        · rw [if_pos e, if_pos e]; exact ⟨fun _ => by omega, fun q => absurd rfl q⟩
        · rw [if_neg e, if_neg e, MS.zero_C]; exact h.cl g hg
      · unfold rset MS.mark; rw [hm]; simp only [if_true]
        by_cases e : g = f.toNat
        · rw [if_pos e, if_pos e]; exact ⟨fun _ => by omega, fun q => by omega⟩
        · rw [if_neg e, if_neg e, MS.zero_O]; exact h.ow g hg
    · rw [if_neg h1]
      refine ⟨h.n, fun g hg => ?_, fun g hg => ?_, fun g => ?_, fun g => ?_, fun g hg => ?_, fun g hg => ?_⟩
      · unfold rset; rw [if_neg (by omega)]; exact h.lo g hg
      · unfold rset; rw [if_neg (by omega)]; exact h.hi g hg
      · unfold rset; split
        · omega
        · exact h.nn g
      · unfold rset; split
        · rw [hr]; omega
        · have := h.ub g; omega
      · unfold rset
        by_cases e : g = f.toNat
        · rw [if_pos e]; rw [← h.cl g hg, e, ← hr]; exact ⟨fun _ => hf, fun _ => by omega⟩
        · rw [if_neg e]; exact h.cl g hg
      · unfold rset
        by_cases e : g = f.toNat
        · rw [if_pos e]; rw [← h.ow g hg, e, ← hr]; exact ⟨fun _ => hf, fun _ => by omega⟩
        · rw [if_neg e]; exact h.ow g hg
  · rw [if_neg hf, if_neg (by omega)]; exact h.same
/-- All are free, or had. -/
theorem sums (h : PInv s R N k) : ∀ j, 15 + j ≤ N → cnt s.C j + hadc R (15 + j) = j := by
  intro j
  induction j with
  | zero =>
    intro _
    have e : ∀ i, i ≤ 15 → hadc R i = 0 := by
      intro i
      induction i with
      | zero => intro _; rfl
      | succ i ih => intro hi; unfold hadc; rw [ih (by omega), if_neg (by rw [h.lo i (by omega)]; omega)]
    exact (congrArg _ (e 15 (by omega)))
  | succ j ih =>
    intro hj
    have := ih (by omega)
    show cnt s.C j + (if s.C (15 + j) = 0 then 1 else 0) + (hadc R (15 + j) + if 0 < R (15 + j) then 1 else 0) = j + 1
    have hc := h.cl (15 + j) (by omega)
    by_cases e : s.C (15 + j) = 0
    · rw [if_pos e, if_neg (fun q => (hc.1 q) e)]; omega
    · rw [if_neg e, if_pos (hc.2 e)]; omega
theorem left (h : PInv s R N k) (hN : 15 ≤ N) : s.left + hadc R N = N - 15 := by
  have := h.sums (N - 15) (by omega)
  rw [show 15 + (N - 15) = N by omega] at this
  unfold MS.left; rw [h.n]; exact this
end PInv

end Go.Proofs.Ytbnojbccaalnaaa
