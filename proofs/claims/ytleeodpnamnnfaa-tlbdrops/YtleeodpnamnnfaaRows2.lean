/-
  Rows that are laid anew, appended to an empty one, cloned: of whatever element.
-/
import Derived.Test.YtleeodpnamnnfaaCore
import Derived.Laws.MakeOwn
import Derived.Laws.Append
import Derived.Deep.Upon
import Derived.Laws.AppendOwn
namespace Go.Proofs.Ytleeodpnamnnfaa
open Go.RowKit

theorem add_zero' (c j : Nat) : (⟨c, 0, none⟩ : Addr).add j = ⟨c, j, none⟩ := by
  unfold Addr.add; split <;> simp_all
theorem rowHas_alloc (w : World) (arr : Array Value) (t : TypeId) (n : Nat) (f : Nat → Value) (hn : n ≤ arr.size) (hc : ∀ i, i < n → arr[i]? = some (f i)) : rowHas (w.alloc (.cells arr t)) w.heap.size t n f :=
  ⟨arr.size, fun i => (arr[i]?).getD (f i), hn, World.rowIs_alloc w arr t _ (fun i hi => by simp [hi]), fun i hi => by simp [hc i hi]⟩

/-- n elements appended to an empty slice without room: they lie in new memory. -/
theorem append_fresh_cap {P : Program} (W : World) (t e ty : TypeId) (z : Value) (size bytes : Nat) (ht : P.underlying t = some (.slice e)) (hinfo : (P.info? e).map (fun i => (i.zero, i.size, i.bytes)) = some (some z, size, bytes))
    (g c n cap : Nat) (f : Nat → Value) (hg : rowHas W g e 0 f) (h : rowHas W c e (n * size) f) (hb : n * bytes ≤ 281474976710656) (h63 : n ≤ 9223372036854775807) :
    ∃ c' cap' W', (Builtin.append_ #[t, t] ty #[.slice (some ⟨g, 0, none⟩) 0 0, .slice (some ⟨c, 0, none⟩) n cap]).run P W = .ok (.slice (some ⟨c', 0, none⟩) n cap') W' ∧ (c' = g ∨ c' = W.heap.size) ∧ rowHas W' c' e (n * size) f ∧ Touch Nil W W' ∧ n ≤ cap' ∧ cap' ≤ maxLen := by
  obtain ⟨i, hi, hzz⟩ := Option.map_eq_some_iff.1 hinfo
  simp only [Prod.mk.injEq] at hzz
  obtain ⟨hz, hs, hby⟩ := hzz
  subst hs hby
  have hl : ((List.range (n * i.size)).map f).length = n * i.size := by simp
  have hget : ∀ j, j < n * i.size → ((List.range (n * i.size)).map f)[j]? = some (f j) := fun j hj => by simp [hj]
  have hnews : ∀ j v, ((List.range (n * i.size)).map f)[j]? = some v → W.cell? ((⟨c, 0, none⟩ : Addr).add j) = some v := fun j v hv => by
    have hj : j < n * i.size := by
      have := (List.getElem?_eq_some_iff.1 hv).1; simpa using this
    rw [hget j hj] at hv
    rw [add_zero', h.cell hj, hv]
  by_cases hn : n = 0
  · subst hn
    refine ⟨g, 0, W, run_append_nothing W t t ty e i ht hi (some ⟨g, 0, none⟩) 0 0 (Nat.le_refl _) _ (Src.ofSlice W ht ⟨c, 0, none⟩ 0 cap [] (by simp) (fun j v hv => by simp at hv) (fun u hu => by cases hu)), Or.inl rfl, ?_, Touch.refl _ _, Nat.le_refl _, Nat.zero_le _⟩
    simpa using hg
  · have hcap : Builtin.nextslicecap (0 + n) 0 * i.bytes ≤ 281474976710656 := by rw [Nat.zero_add, nextslicecap_zero (by omega)]; exact hb
    have hr := run_append_grow (P := P) W t ty e i z ht hi hz ⟨g, 0, none⟩ 0 0 [] (by simp) (fun j v hv => by simp at hv) ⟨c, 0, none⟩ n cap _ hl hnews (by omega) (by omega) hcap
    rw [Nat.zero_add] at hr
    refine ⟨_, _, _, hr, Or.inr rfl, ?_, ((Touch.refl Nil W).drew).alloc _, grownCap_ge _ _ _ _, grownCap_le_maxLen _ _ _ _ h63⟩
    refine rowHas_alloc W.drew _ _ _ _ (by simp) (fun j hj => ?_)
    rw [Array.getElem?_append_left (by simpa using hj)]
    simp [hj]

theorem append_fresh {P : Program} (W : World) (t e ty : TypeId) (z : Value) (size bytes : Nat) (ht : P.underlying t = some (.slice e)) (hinfo : (P.info? e).map (fun i => (i.zero, i.size, i.bytes)) = some (some z, size, bytes))
    (g c n cap : Nat) (f : Nat → Value) (hg : rowHas W g e 0 f) (h : rowHas W c e (n * size) f) (hb : n * bytes ≤ 281474976710656) (h63 : n ≤ 9223372036854775807) :
    ∃ c' cap' W', (Builtin.append_ #[t, t] ty #[.slice (some ⟨g, 0, none⟩) 0 0, .slice (some ⟨c, 0, none⟩) n cap]).run P W = .ok (.slice (some ⟨c', 0, none⟩) n cap') W' ∧ (c' = g ∨ c' = W.heap.size) ∧ rowHas W' c' e (n * size) f ∧ Touch Nil W W' := by
  obtain ⟨c', cap', W', h1, h2, h3, h4, _⟩ := append_fresh_cap W t e ty z size bytes ht hinfo g c n cap f hg h hb h63
  exact ⟨c', cap', W', h1, h2, h3, h4⟩

/-- What 'make' lays, elements of whatever number of cells. -/
theorem run_make_rows {P : Program} (t e : TypeId) (z : Value) (size bytes : Nat) (ht : P.underlying t = some (.slice e)) (hinfo : (P.info? e).map (fun i => (i.zero, i.size, i.bytes)) = some (some z, size, bytes))
    (v : Int) (k : Nat) (hv : v = k) (hb : bytes * k ≤ 281474976710656) (h63 : k ≤ 9223372036854775807) (w : World) :
    (Instr.makeSlice t (.int .i64 v) (.int .i64 v)).run P w = .ok (.slice (some ⟨w.heap.size, 0, none⟩) k k) (w.alloc (.cells (madeCells z.cells (k * size)) e)) := by
  obtain ⟨i, hi, hzz⟩ := Option.map_eq_some_iff.1 hinfo
  simp only [Prod.mk.injEq] at hzz
  obtain ⟨hz, hs, hby⟩ := hzz
  subst hv
  have hb' : (i.bytes : Int) * (k : Int) ≤ 281474976710656 := by
    have h : ((i.bytes * k : Nat) : Int) ≤ 281474976710656 := by rw [hby]; omega
    rwa [Int.natCast_mul] at h
  have hr := run_make (P := P) w t e i z ht hi hz .i64 .i64 k k (by omega) (Int.le_refl _) hb' (by omega)
  simp only [Int.toNat_natCast, hs] at hr
  exact hr

theorem madeCells_get (z : Array Value) (n i : Nat) (h : i < n) : (madeCells z n)[i]? = some (z[i % z.size]!) := by
  simp [madeCells, h]

end Go.Proofs.Ytleeodpnamnnfaa
