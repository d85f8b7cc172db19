/-
  What a space keeps: one set more, as plain numbers (for SpaceKeeps).
-/
import Derived.Test.YtaofkedcdeocjaaSpV
namespace Go.Proofs.Ytaofkedcdeocjaa
open Go.ChangeShapes Go.WideShapes Go.ChangeAt Go.RowKit

theorem pk_eq {page : Int} (h0 : 0 ≤ page) : pk page = (page / 8).toNat := by unfold pk; omega
theorem need_of {S : SS} {page : Int} (hp : S.hasP page = true) : S.need [page] = (if S.up (page / 64).toNat = 0 then 1 else 0) + (if S.la (pk page) = 0 then 1 else 0) := by
  rw [need_is hp]; rfl
/-- One page more: what is there, what it has, how long the tables are. -/
theorem keep_round {y : YS} (hn : y.s.n = 64) (h : YInv y) {page : Int} (x : Int) (p0 : 0 ≤ page) (p1 : page < 256) (hl : 2 ≤ y.s.left) :
    y.may page = true ∧ YInv (y.set page x) ∧ (y.set page x).s.n = 64 ∧ y.s.left ≤ (y.set page x).s.left + 2 ∧
    getP (y.set page x).S (y.set page x).s page = x ∧ (∀ P, P ≠ page → 0 ≤ P → P < 256 → getP (y.set page x).S (y.set page x).s P = getP y.S y.s P) ∧
    (∀ k, (y.set page x).S.la k ≠ 0 ↔ y.S.la k ≠ 0 ∨ k = (page / 8).toNat) ∧ (∀ i, (y.set page x).S.up i ≠ 0 ↔ y.S.up i ≠ 0 ∨ i = (page / 64).toNat) ∧
    (y.set page x).S.tabs.length = y.S.tabs.length + ((if y.S.up (page / 64).toNat = 0 then 1 else 0) + (if y.S.la (page / 8).toNat = 0 then 1 else 0)) := by
  have hp : y.S.hasP page = true := (hasP_iff _ _).2 ⟨by have := h.kern.1; omega, p0, p1⟩
  have hle := need_le y.S page
  have hm : y.may page = true := by unfold YS.may; rw [hp]; simp; omega
  obtain ⟨h2, hg, ho, hla, hup⟩ := h.set hm x
  obtain ⟨_, _, _, hn2, hlf⟩ := set_facts hm (by omega) x
  have hT := tabs_set h hm x
  rw [need_of hp, pk_eq p0] at hT
  rw [pk_eq p0] at hla
  exact ⟨hm, h2, hn2.trans hn, by omega, hg, ho, hla, hup, hT⟩
end Go.Proofs.Ytaofkedcdeocjaa
