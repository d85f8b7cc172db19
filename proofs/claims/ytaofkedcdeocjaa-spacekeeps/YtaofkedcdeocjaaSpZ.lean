/-
  What a space keeps, told by three maps (for SpaceKeeps).
-/
import Derived.Test.YtaofkedcdeocjaaSpY
import Derived.Test.YtaofkedcdeocjaaMapInt
import Derived.Test.YtaofkedcdeocjaaMapU
import Derived.Test.YtaofkedcdeocjaaSlices
namespace Go.Proofs.Ytaofkedcdeocjaa
open Go.ChangeShapes Go.WideShapes Go.ChangeAt Go.RowKit Go.Maps

/-- The maps tell what was set, and which tables are there. -/
structure KMap (base : Nat) (y : YS) (Dw Du Dl : DataW Unit) : Prop where
  w : ∀ P : Int, 0 ≤ P → P < 256 → Dw.atKey (.int .i64 P) (.lit (.int .u64 0)) = .lit (.int .u64 (getP y.S y.s P))
  u : ∀ i : Int, 0 ≤ i → i < 4 → Du.atKey (.int .i64 i) (.lit (.bool false)) = .lit (.bool (decide (y.S.up i.toNat ≠ 0))) ∧ Maps.has Du (.int .i64 i) = decide (y.S.up i.toNat ≠ 0)
  l : ∀ i : Int, 0 ≤ i → i < 32 → Dl.atKey (.int .i64 i) (.lit (.bool false)) = .lit (.bool (decide (y.S.la i.toNat ≠ 0))) ∧ Maps.has Dl (.int .i64 i) = decide (y.S.la i.toNat ≠ 0)
  sz : y.S.tabs.length = base + Maps.size Du + Maps.size Dl

theorem KMap.step {base : Nat} {y : YS} {Dw Du Dl : DataW Unit} (h : KMap base y Dw Du Dl) (tw : Tidy Dw) (tu : Tidy Du) (tl : Tidy Dl) (hn : y.s.n = 64) (hI : YInv y) {page : Int} (x : Int) (p0 : 0 ≤ page) (p1 : page < 256) (hl : 2 ≤ y.s.left) :
    KMap base (y.set page x) (Dw.put (.int .i64 page) (.lit (.int .u64 x))) (Du.put (.int .i64 (page / 64)) (.lit (.bool true))) (Dl.put (.int .i64 (page / 8)) (.lit (.bool true))) := by
  obtain ⟨hm, h2, hn2, hlf, hg, ho, hla, hup, hT⟩ := keep_round hn hI x p0 p1 hl
  refine ⟨fun P P0 P1 => ?_, fun i i0 i1 => ?_, fun i i0 i1 => ?_, ?_⟩
  · by_cases e : P = page
    · subst e; rw [atKey_put_same tw.isMap (isKeyI _), hg]
    · rw [atKey_put_other (keyI_ne e), ho P e P0 P1]; exact h.w P P0 P1
  · have hu := hup i.toNat
    by_cases e : i = page / 64
    · have : (y.set page x).S.up i.toNat ≠ 0 := hu.2 (Or.inr (by rw [e]))
      subst e
      rw [atKey_put_same tu.isMap (isKeyI _), has_put_same tu.isMap (isKeyI _)]
      simp [this]
    · have he : i.toNat ≠ (page / 64).toNat := by omega
      have hu' : ((y.set page x).S.up i.toNat ≠ 0) ↔ (y.S.up i.toNat ≠ 0) := by rw [hu]; exact ⟨fun h => h.resolve_right he, Or.inl⟩
      rw [atKey_put_other (keyI_ne e), has_put_other (keyI_ne e), decide_eq_decide.2 hu']
      exact h.u i i0 i1
  · have hu := hla i.toNat
    by_cases e : i = page / 8
    · have : (y.set page x).S.la i.toNat ≠ 0 := hu.2 (Or.inr (by rw [e]))
      subst e
      rw [atKey_put_same tl.isMap (isKeyI _), has_put_same tl.isMap (isKeyI _)]
      simp [this]
    · have he : i.toNat ≠ (page / 8).toNat := by omega
      have hu' : ((y.set page x).S.la i.toNat ≠ 0) ↔ (y.S.la i.toNat ≠ 0) := by rw [hu]; exact ⟨fun h => h.resolve_right he, Or.inl⟩
      rw [atKey_put_other (keyI_ne e), has_put_other (keyI_ne e), decide_eq_decide.2 hu']
      exact h.l i i0 i1
  · rw [hT, size_put tu, size_put tl, (h.u _ (by omega) (by omega)).2, (h.l (page / 8) (by omega) (by omega)).2, h.sz]
    by_cases a : y.S.up (page / 64).toNat = 0 <;> by_cases b : y.S.la (page / 8).toNat = 0 <;> simp [a, b] <;> omega
theorem KMap.start {y : YS} {base : Nat} (hu : ∀ i, y.S.up i = 0) (hl : ∀ i, y.S.la i = 0) (hb : y.S.tabs.length = base) : KMap base y (.map []) (.map []) (.map []) := by
  refine ⟨fun P P0 P1 => ?_, fun i _ _ => ?_, fun i _ _ => ?_, by rw [hb]; rfl⟩
  · have : getP y.S y.s P = 0 := by
      unfold getP
      by_cases hp : y.S.hasP P = true
      · rw [if_neg]
        rw [need_of hp, hu, hl]; simp
      · rw [if_neg (fun h => hp h.1)]
    rw [this]; rfl
  · rw [hu]; exact ⟨rfl, rfl⟩
  · rw [hl]; exact ⟨rfl, rfl⟩
end Go.Proofs.Ytaofkedcdeocjaa
