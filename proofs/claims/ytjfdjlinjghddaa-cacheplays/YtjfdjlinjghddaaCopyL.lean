/-
  'copy' inside one row of which the first cells are known.
-/
import Derived.Test.YtjfdjlinjghddaaCore
import Derived.Laws.IdiomCopy
import Derived.Tactics
import Derived.Deep.RegionLaw
namespace Go.Proofs.Ytjfdjlinjghddaa
open Go.RowKit

/-- A row behind a copy of m cells within it. -/
def moved (f : Nat → Value) (o so m : Nat) : Nat → Value := fun j => if o ≤ j ∧ j < o + m then f (so + (j - o)) else f j

theorem run_copy_has {P : Program} {w : World} (dT sT ty elem : TypeId) (hu : P.underlying dT = some (.slice elem)) (hsz : (P.info? elem).map (·.size) = some 1) (b o so dLen dCap sLen sCap : Nat) (dp sp : Option Addr) {t : TypeId} {n m : Nat} {f : Nat → Value}
    (hr : rowHas w b t n f) (hm : m = Nat.min sLen dLen) (hpos : 0 < m → dp = some ⟨b, o, none⟩ ∧ sp = some ⟨b, so, none⟩) (hso : so + m ≤ n) (hdo : o + m ≤ n) (h1 : ∀ j, (f j).oneCell' = true) :
    ∃ w', (Builtin.copy_ #[dT, sT] ty #[.slice dp dLen dCap, .slice sp sLen sCap]).run P w = .ok (goInt m) w' ∧ rowHas w' b t n (moved f o so m) ∧ Touch (· = b) w w' := by
  by_cases h0 : m = 0
  · subst h0
    refine ⟨w, run_copy_none w dT sT ty elem dp sp dLen dCap sLen sCap hu hsz hm.symm, hr.congr fun i _ => ?_, Touch.refl _ _⟩
    unfold moved; rw [if_neg (by omega)]
  · obtain ⟨rfl, rfl⟩ := hpos (by omega)
    have hl : ((List.range m).map (fun j => f (so + j))).length = m := by simp
    have hget : ∀ j, j < m → ((List.range m).map (fun j => f (so + j)))[j]? = some (f (so + j)) := fun j hj => by simp [hj]
    have hrun := run_copy_cells (P := P) w dT sT ty elem b o dLen dCap ⟨b, so, none⟩ sLen sCap ((List.range m).map (fun j => f (so + j))) hu hsz (by rw [hl]; exact hm)
      (fun j v hv => by
        have hj : j < m := by
          have := (List.getElem?_eq_some_iff.1 hv).1; simpa using this
        rw [hget j hj] at hv
        rw [Addr.add_mid, hr.cell (by omega), hv])
      (fun j hj => by rw [hr.cell (by rw [hl] at hj; omega)]; rfl) (fun j _ => hr.frozen _) (fun v hv => by
        simp at hv
        obtain ⟨j, _, rfl⟩ := hv
        exact h1 _)
    rw [hl] at hrun
    refine ⟨_, hrun, (hr.setCells _ _).congr fun i _ => ?_, (Touch.refl (· = b) w).setCells rfl _ _⟩
    unfold moved
    by_cases h2 : o ≤ i
    · rw [if_pos h2]
      by_cases h3 : i < o + m
      · rw [if_pos ⟨h2, h3⟩, hget _ (by omega)]; rfl
      · rw [if_neg (by omega), List.getElem?_eq_none (by rw [hl]; omega)]; rfl
    · rw [if_neg h2, if_neg (by omega)]

theorem wpList_copy_has {P : Program} {w : World} {ops : Array Oper} {rest : List Oper} {oo : Oper} {a : Act} {Q : Exit → Act → World → Prop} (hgd : oo.guard = none) (d s : Operand) (dT sT : TypeId)
    (ho : oo.op = .call { callee := .builtin .copy, args := #[d, s], argTypes := #[dT, sT] }) (elem : TypeId) (hu : P.underlying dT = some (.slice elem)) (hsz : (P.info? elem).map (·.size) = some 1)
    (dp sp : Option Addr) (dLen dCap sLen sCap : Nat) (hd : a.eval d = .slice dp dLen dCap) (hs : a.eval s = .slice sp sLen sCap)
    (b o so : Nat) {t : TypeId} {n m : Nat} {f : Nat → Value}
    (hr : rowHas w b t n f) (hm : m = Nat.min sLen dLen) (hpos : 0 < m → dp = some ⟨b, o, none⟩ ∧ sp = some ⟨b, so, none⟩) (hso : so + m ≤ n) (hdo : o + m ≤ n) (h1 : ∀ j, (f j).oneCell' = true)
    (h : ∀ w', rowHas w' b t n (moved f o so m) → Touch (· = b) w w' → wpList P ops Q rest (a.put oo.dst (goInt m)) w') : wpList P ops Q (oo :: rest) a w := by
  refine wpList_plain hgd fun K hK => ?_
  obtain ⟨w', hrun, h2, h3⟩ := run_copy_has dT sT oo.type elem hu hsz b o so dLen dCap sLen sCap dp sp hr hm hpos hso hdo h1
  unfold Oper.wp
  simp [execOp, ho, resolve, invoke, builtin, hd, hs, hrun, Result.andThen]
  exact hK _ _ (h w' h2 h3)

theorem step_copy_has {P : Program} {ops : Array Oper} {oo : Oper} {a : Act} {w : World} {K : Act → World → Prop} {Q : Exit → Act → World → Prop} {E : Prop} (hgd : oo.guard = none) (d s : Operand) (dT sT : TypeId)
    (ho : oo.op = .call { callee := .builtin .copy, args := #[d, s], argTypes := #[dT, sT] }) (elem : TypeId) (hu : P.underlying dT = some (.slice elem)) (hsz : (P.info? elem).map (·.size) = some 1)
    (dp sp : Option Addr) (dLen dCap sLen sCap : Nat) (hd : a.eval d = .slice dp dLen dCap) (hs : a.eval s = .slice sp sLen sCap)
    (b o so : Nat) {t : TypeId} {n m : Nat} {f : Nat → Value}
    (hr : rowHas w b t n f) (hm : m = Nat.min sLen dLen) (hpos : 0 < m → dp = some ⟨b, o, none⟩ ∧ sp = some ⟨b, so, none⟩) (hso : so + m ≤ n) (hdo : o + m ≤ n) (h1 : ∀ j, (f j).oneCell' = true)
    (h : ∀ w', rowHas w' b t n (moved f o so m) → Touch (· = b) w w' → K (a.put oo.dst (goInt m)) w') :
    if Region.wanted oo (yielded ops a.tmps) = true then Oper.wp P oo a w K Q else E := by
  have hw : Region.wanted oo (yielded ops a.tmps) = true := by simp [Region.wanted, hgd]
  rw [if_pos hw]
  obtain ⟨w', hrun, h2, h3⟩ := run_copy_has dT sT oo.type elem hu hsz b o so dLen dCap sLen sCap dp sp hr hm hpos hso hdo h1
  unfold Oper.wp
  simp [execOp, ho, resolve, invoke, builtin, hd, hs, hrun, Result.andThen]
  exact h w' h2 h3
end Go.Proofs.Ytjfdjlinjghddaa
