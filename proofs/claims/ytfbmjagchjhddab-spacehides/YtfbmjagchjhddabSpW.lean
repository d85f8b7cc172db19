/-
  A process's tables: what their words are, whatever is set (plain).
-/
import Derived.Test.YtfbmjagchjhddabSpN
import Derived.Test.YtfbmjagchjhddabWalkD
import Derived.Test.YtfbmjagchjhddabEntB
namespace Go.Proofs.Ytfbmjagchjhddab
open Go.ChangeShapes Go.WideShapes Go.ChangeAt Go.RowKit

/-- The tables' words. 'z' is the memory as it was booted. -/
structure WInv (z : MS) (kpti : Bool) (y : YS) : Prop where
  k4 : y.s.rd (y.S.kern * 8 + 4) = packV true false false 3
  k7 : y.s.rd (y.S.kern * 8 + 7) = opn 13
  u7 : y.s.rd (y.S.user * 8 + 7) = opn 13
  u4 : kpti = true → y.s.rd (y.S.user * 8 + 4) = 0
  ku : ∀ i : Nat, i < 4 → y.S.up i ≠ 0 → y.s.rd (y.S.kern * 8 + i) = opn (y.S.up i) ∧ y.s.rd (y.S.user * 8 + i) = opn (y.S.up i)
  ul : ∀ i j : Nat, i < 4 → j < 8 → y.S.la (i * 8 + j) ≠ 0 → y.s.rd (y.S.up i * 8 + j) = opn (y.S.la (i * 8 + j))
  low : ∀ a : Int, 24 ≤ a → a < 120 → y.s.rd a = z.rd a
  word : ∀ a, 0 ≤ y.s.rd a ∧ y.s.rd a < 18446744073709551616
  roots : kpti = false → y.S.user = y.S.kern

theorem opn_bd {f : Int} (h0 : 0 ≤ f) (h1 : f < 64) : 0 ≤ opn f ∧ opn f < 18446744073709551616 := by
  have := packV_bd true true false f h0 (by omega)
  unfold opn; omega
theorem rd_word {s : MS} (h : ∀ a, 0 ≤ s.rd a ∧ s.rd a < 18446744073709551616) {q x : Int} (hq : 0 ≤ q) (hx : 0 ≤ x ∧ x < 18446744073709551616) : ∀ a, 0 ≤ (s.write q x).rd a ∧ (s.write q x).rd a < 18446744073709551616 := by
  intro a
  by_cases e : a = q
  · subst e
    cases hw : s.hasW a
    · have : s.write a x = s := by unfold MS.write; rw [if_neg (by rw [hw]; decide)]
      rw [this]; exact h a
    · rw [rd_write hw]; exact hx
  · by_cases ha : 0 ≤ a
    · rw [rd_other hq ha e]; exact h a
    · have : (s.write q x).rd a = 0 := by
        unfold MS.rd
        rw [if_neg]
        rw [hasW_n (MS.write_n s q x) a]
        intro hh
        have := (s.hasW_iff a).1 hh
        omega
      rw [this]; exact ⟨Int.le_refl 0, by decide⟩
theorem had_hasW {s : MS} {f m : Int} (h : s.had f) (hm : 0 ≤ m ∧ m < 8) : s.hasW (f * 8 + m) = true := by
  obtain ⟨a, b, _⟩ := h
  exact (s.hasW_iff _).2 ⟨by omega, by omega⟩

theorem WInv.up1 {z : MS} {kpti : Bool} {y : YS} (h : YInv y) (w : WInv z kpti y) (i : Nat) (hi : i < 4) (hl : y.S.up i = 0 → 1 ≤ y.s.left) : WInv z kpti (y.up1 i) := by
  unfold YS.up1
  split
  · rename_i h0
    have hL := least_left (hl h0)
    have hn := h.n64
    have hf : (0 : Int) ≤ (y.s.least : Nat) ∧ ((y.s.least : Nat) : Int) < 64 ∧ 15 ≤ ((y.s.least : Nat) : Int) := by have := hL.lo; have := hL.hi; omega
    have neK := least_ne hL (Or.inr h.kern)
    have neU := least_ne hL (Or.inr h.user)
    have k15 := h.kern.1
    have u15 := h.user.1
    generalize y.s.least = f at *
    have hob := opn_bd hf.1 hf.2.1
    have hadK : (y.s.mark (f : Int) 1 y.S.own).had y.S.kern := mark_had (c := 1) h.kern y.S.own (by decide)
    have hadU : ((y.s.mark (f : Int) 1 y.S.own).write (y.S.kern * 8 + i) (opn f)).had y.S.user := had_write (mark_had (c := 1) h.user y.S.own (by decide)) _ _
    -- a word that is none of the two written
    have keep : ∀ a : Int, 0 ≤ a → a ≠ y.S.kern * 8 + i → a ≠ y.S.user * 8 + i → ((y.s.mark (f : Int) 1 y.S.own).roots y.S i f).rd a = y.s.rd a := fun a ha e1 e2 => by
      unfold MS.roots
      rw [rd_other (by omega) ha e2, rd_other (by omega) ha e1, mark_rd]
    have kI : ((y.s.mark (f : Int) 1 y.S.own).roots y.S i f).rd (y.S.kern * 8 + i) = opn f := by
      unfold MS.roots
      by_cases e : y.S.user = y.S.kern
      · rw [e]; rw [e] at hadU; exact rd_write (had_hasW hadU ⟨by omega, by omega⟩) _
      · rw [rd_other (by omega) (by omega) (by omega)]; exact rd_write (had_hasW hadK ⟨by omega, by omega⟩) _
    have uI : ((y.s.mark (f : Int) 1 y.S.own).roots y.S i f).rd (y.S.user * 8 + i) = opn f := by
      unfold MS.roots
      exact rd_write (had_hasW hadU ⟨by omega, by omega⟩) _
    refine ⟨?_, ?_, ?_, fun hk => ?_, fun j hj hu => ?_, fun i' j hi' hj hl' => ?_, fun a a0 a1 => ?_, ?_, w.roots⟩
    · exact (keep _ (by show (0 : Int) ≤ y.S.kern * 8 + 4; omega) (by show y.S.kern * 8 + 4 ≠ _; omega) (by show y.S.kern * 8 + 4 ≠ _; omega)).trans w.k4
    · exact (keep _ (by show (0 : Int) ≤ y.S.kern * 8 + 7; omega) (by show y.S.kern * 8 + 7 ≠ _; omega) (by show y.S.kern * 8 + 7 ≠ _; omega)).trans w.k7
    · exact (keep _ (by show (0 : Int) ≤ y.S.user * 8 + 7; omega) (by show y.S.user * 8 + 7 ≠ _; omega) (by show y.S.user * 8 + 7 ≠ _; omega)).trans w.u7
    · exact (keep _ (by show (0 : Int) ≤ y.S.user * 8 + 4; omega) (by show y.S.user * 8 + 4 ≠ _; omega) (by show y.S.user * 8 + 4 ≠ _; omega)).trans (w.u4 hk)
    · by_cases e : j = i
      · subst e
        have : (y.S.setUp j f).up j = f := by simp [SS.setUp]
        rw [this]; exact ⟨kI, uI⟩
      · have e2 : (y.S.setUp i f).up j = y.S.up j := by simp [SS.setUp, e]
        have hu' : y.S.up j ≠ 0 := by rw [← e2]; exact hu
        rw [e2]
        obtain ⟨a, b⟩ := w.ku j hj hu'
        exact ⟨(keep _ (by show (0 : Int) ≤ y.S.kern * 8 + j; omega) (by show y.S.kern * 8 + (j : Int) ≠ _; omega) (by show y.S.kern * 8 + (j : Int) ≠ _; omega)).trans a, (keep _ (by show (0 : Int) ≤ y.S.user * 8 + j; omega) (by show y.S.user * 8 + (j : Int) ≠ _; omega) (by show y.S.user * 8 + (j : Int) ≠ _; omega)).trans b⟩
    · have hl2 : y.S.la (i' * 8 + j) ≠ 0 := hl'
      have hu' := h.laUp _ hl2
      rw [show (i' * 8 + j) / 8 = i' by omega] at hu'
      have e : i' ≠ i := fun e => hu' (by rw [e]; exact h0)
      have e2 : (y.S.setUp i f).up i' = y.S.up i' := by simp [SS.setUp, e]
      have hv := (h.up i').resolve_left hu'
      have v15 := hv.1
      have r := h.upR i'
      rw [e2]
      exact (keep _ (by omega) (by omega) (by omega)).trans (w.ul i' j hi' hj hl2)
    · exact (keep a (by omega) (by omega) (by omega)).trans (w.low a a0 a1)
    · have hw1 : ∀ a, 0 ≤ (y.s.mark (f : Int) 1 y.S.own).rd a ∧ (y.s.mark (f : Int) 1 y.S.own).rd a < 18446744073709551616 := fun a => by rw [mark_rd]; exact w.word a
      exact rd_word (rd_word hw1 (by omega) hob) (by omega) hob
  · exact w

theorem WInv.la1 {z : MS} {kpti : Bool} {y : YS} (h : YInv y) (w : WInv z kpti y) (i j : Nat) (hi : i < 4) (hj : j < 8) (hu : y.S.up i ≠ 0) (hl : y.S.la (i * 8 + j) = 0 → 1 ≤ y.s.left) : WInv z kpti (y.la1 i j) := by
  unfold YS.la1
  split
  · rename_i h0
    have hL := least_left (hl h0)
    have hn := h.n64
    have hf : (0 : Int) ≤ (y.s.least : Nat) ∧ ((y.s.least : Nat) : Int) < 64 ∧ 15 ≤ ((y.s.least : Nat) : Int) := by have := hL.lo; have := hL.hi; omega
    have k15 := h.kern.1
    have u15 := h.user.1
    have hUp := (h.up i).resolve_left hu
    have p15 := hUp.1
    have rU := h.upR i
    generalize y.s.least = f at *
    have hob := opn_bd hf.1 hf.2.1
    have hadP : (y.s.mark (f : Int) 1 y.S.own).had (y.S.up i) := mark_had (c := 1) hUp y.S.own (by decide)
    have keep : ∀ a : Int, 0 ≤ a → a ≠ y.S.up i * 8 + j → ((y.s.mark (f : Int) 1 y.S.own).write (y.S.up i * 8 + j) (opn f)).rd a = y.s.rd a := fun a ha e1 => by
      rw [rd_other (by omega) ha e1, mark_rd]
    refine ⟨?_, ?_, ?_, fun hk => ?_, fun i' hi' hu' => ?_, fun i' j' hi' hj' hl' => ?_, fun a a0 a1 => ?_, ?_, w.roots⟩
    · exact (keep _ (by show (0 : Int) ≤ y.S.kern * 8 + 4; omega) (by show y.S.kern * 8 + 4 ≠ _; omega)).trans w.k4
    · exact (keep _ (by show (0 : Int) ≤ y.S.kern * 8 + 7; omega) (by show y.S.kern * 8 + 7 ≠ _; omega)).trans w.k7
    · exact (keep _ (by show (0 : Int) ≤ y.S.user * 8 + 7; omega) (by show y.S.user * 8 + 7 ≠ _; omega)).trans w.u7
    · exact (keep _ (by show (0 : Int) ≤ y.S.user * 8 + 4; omega) (by show y.S.user * 8 + 4 ≠ _; omega)).trans (w.u4 hk)
    · obtain ⟨a, b⟩ := w.ku i' hi' hu'
      exact ⟨(keep _ (by show (0 : Int) ≤ y.S.kern * 8 + i'; omega) (by show y.S.kern * 8 + (i' : Int) ≠ _; omega)).trans a, (keep _ (by show (0 : Int) ≤ y.S.user * 8 + i'; omega) (by show y.S.user * 8 + (i' : Int) ≠ _; omega)).trans b⟩
    · by_cases e : i' * 8 + j' = i * 8 + j
      · have ei : i' = i := by omega
        have ej : j' = j := by omega
        subst ei; subst ej
        have : (y.S.setLa (i' * 8 + j') f).la (i' * 8 + j') = f := by simp [SS.setLa]
        rw [this]
        exact rd_write (had_hasW hadP ⟨by omega, by omega⟩) _
      · have e2 : (y.S.setLa (i * 8 + j) f).la (i' * 8 + j') = y.S.la (i' * 8 + j') := by simp [SS.setLa, e]
        have hl2 : y.S.la (i' * 8 + j') ≠ 0 := by rw [← e2]; exact hl'
        have hu' := h.laUp _ hl2
        rw [show (i' * 8 + j') / 8 = i' by omega] at hu'
        have v15 := ((h.up i').resolve_left hu').1
        rw [e2]
        refine (keep _ (by show (0 : Int) ≤ y.S.up i' * 8 + j'; omega) ?_).trans (w.ul i' j' hi' hj' hl2)
        show y.S.up i' * 8 + (j' : Int) ≠ y.S.up i * 8 + j
        by_cases ei : i' = i
        · subst ei; omega
        · have : y.S.up i' ≠ y.S.up i := fun hh => ei (h.upNe i' i hu' hh)
          omega
    · exact (keep a (by omega) (by omega)).trans (w.low a a0 a1)
    · have hw1 : ∀ a, 0 ≤ (y.s.mark (f : Int) 1 y.S.own).rd a ∧ (y.s.mark (f : Int) 1 y.S.own).rd a < 18446744073709551616 := fun a => by rw [mark_rd]; exact w.word a
      exact rd_word hw1 (by omega) hob
  · exact w

theorem WInv.put {z : MS} {kpti : Bool} {y : YS} (h : YInv y) (w : WInv z kpti y) {k : Nat} (hk : y.S.la k ≠ 0) {m : Int} (hm : 0 ≤ m ∧ m < 8) {x : Int} (hx : 0 ≤ x ∧ x < 18446744073709551616) : WInv z kpti ⟨y.S, y.R, y.s.write (y.S.la k * 8 + m) x⟩ := by
  have k15 := h.kern.1
  have u15 := h.user.1
  have hv := (h.la k).resolve_left hk
  have l15 := hv.1
  have lR := h.laR k
  have keep : ∀ a : Int, 0 ≤ a → a ≠ y.S.la k * 8 + m → (y.s.write (y.S.la k * 8 + m) x).rd a = y.s.rd a := fun a ha e => rd_other (by omega) ha e x
  refine ⟨(keep (y.S.kern * 8 + 4) (by omega) (by omega)).trans w.k4, (keep (y.S.kern * 8 + 7) (by omega) (by omega)).trans w.k7, (keep (y.S.user * 8 + 7) (by omega) (by omega)).trans w.u7, fun hh => (keep (y.S.user * 8 + 4) (by omega) (by omega)).trans (w.u4 hh), fun i hi hu => ?_, fun i j hi hj hl => ?_, fun a a0 a1 => (keep a (by omega) (by omega)).trans (w.low a a0 a1), rd_word w.word (by omega) hx, w.roots⟩
  · obtain ⟨a, b⟩ := w.ku i hi hu
    exact ⟨(keep _ (by show (0 : Int) ≤ y.S.kern * 8 + i; omega) (by show y.S.kern * 8 + (i : Int) ≠ _; omega)).trans a, (keep _ (by show (0 : Int) ≤ y.S.user * 8 + i; omega) (by show y.S.user * 8 + (i : Int) ≠ _; omega)).trans b⟩
  · have hu' := h.laUp _ hl
    rw [show (i * 8 + j) / 8 = i by omega] at hu'
    have v15 := ((h.up i).resolve_left hu').1
    have ne := h.upla i k hu'
    exact (keep _ (by show (0 : Int) ≤ y.S.up i * 8 + j; omega) (by show y.S.up i * 8 + (j : Int) ≠ _; omega)).trans (w.ul i j hi hj hl)

theorem WInv.set {z : MS} {kpti : Bool} {y : YS} (h : YInv y) (w : WInv z kpti y) {page x : Int} (hm : y.may page = true) (hx : 0 ≤ x ∧ x < 18446744073709551616) : WInv z kpti (y.set page x) := by
  have hp : y.S.hasP page = true := by simp only [YS.may, Bool.and_eq_true] at hm; exact hm.1
  obtain ⟨_, p0, p1⟩ := (hasP_iff _ _).1 hp
  have hu := may_up hm
  have hl := may_la hm
  have i4 : (page / 64).toNat < 4 := by omega
  have j8 : (page / 8 % 8).toNat < 8 := by omega
  have h1 := h.up1 _ (by omega : (page / 64).toNat < 8) hu
  have w1 := WInv.up1 h w _ i4 hu
  have hup1 := up1_up hu h.n64
  have h2 := h1.la1 _ _ j8 hup1 hl
  have w2 := WInv.la1 h1 w1 _ _ i4 j8 hup1 hl
  have hla2 := la1_la hl (by rw [up1_n]; exact h.n64)
  exact WInv.put h2 w2 hla2 ⟨by omega, by omega⟩ hx
end Go.Proofs.Ytfbmjagchjhddab
