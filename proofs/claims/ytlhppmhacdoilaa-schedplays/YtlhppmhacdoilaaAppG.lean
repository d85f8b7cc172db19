/-
  append at a list of the call's own, of whatever element.
-/
import Derived.Test.YtlhppmhacdoilaaKeep
import Derived.Test.YtlhppmhacdoilaaCore
import Derived.Laws.AppendOwn
namespace Go.Proofs.Ytlhppmhacdoilaa
open Go.ChangeShapes Go.WideShapes Go.ChangeAt Go.RowKit

/-- One more, at a list of the call's own. -/
theorem app_gen {e te : TypeId} {size bytes : Nat} {z : Value} (hI : (Try.prog.info? e).map (fun i => (i.zero, i.size, i.bytes)) = some (some z, size, bytes)) (ht : Try.prog.underlying te = some (.slice e)) (hzs : z.cells.size = size) (hsz : 0 < size) (hby : bytes ≤ 1000)
    {wr : World} {base n : Nat} {v : Value} {xs : List Value} (h0 : wr.ownsRow base e size v n xs) (hbase : base ≤ wr.heap.size) (few : n ≤ 1000) (cs : Array Value) (hcs : cs.size = size) (h1 : ∀ u ∈ cs.toList, u.oneCell' = true) :
    ∃ g c wN, (Builtin.append_ #[te, te] te #[v, .slice (some ⟨wr.heap.size, 0, none⟩) 1 1]).run Try.prog (wr.alloc (.cells cs e)) = .ok (.slice (some ⟨g, 0, none⟩) (n + 1) c) wN ∧
      wN.ownsRow base e size (.slice (some ⟨g, 0, none⟩) (n + 1) c) (n + 1) (xs ++ cs.toList) ∧ Below base wr wN := by
  obtain ⟨i, hi, hzz⟩ := Option.map_eq_some_iff.1 hI
  simp only [Prod.mk.injEq] at hzz
  obtain ⟨hz0, hz1, hz2⟩ := hzz
  have bA := (Below.refl wr.heap.size wr).alloc (Nat.le_refl _) (.cells cs e)
  have ha := h0.alloc (.cells cs e)
  have hb := heap_alloc_new wr (.cells cs e)
  obtain ⟨v', wN, hr, ho, hg, hn⟩ := run_append_own (P := Try.prog) _ base te te e i z size bytes ht hi hz0 hz1 hz2 hzs hsz v n xs ha ⟨wr.heap.size, 0, none⟩ 1 1 cs.toList (by simp [hcs])
    (fun j u hu => by
      rw [Addr.add_mid]
      unfold World.cell?
      rw [hb]
      simpa using hu) h1 (by unfold maxLen; omega) (Nat.le_trans (Nat.mul_le_mul (show n + 1 ≤ 1001 by omega) hby) (by omega)) (by simp; omega)
  obtain ⟨ho1, ho2⟩ := ho
  rcases ho2 with ⟨_, h00⟩ | ⟨g', c, cur, rfl, hgb, hcur, hc1, hc2, hc3, hc4⟩
  · omega
  · exact ⟨g', c, wN, hr, ⟨ho1, Or.inr ⟨g', c, cur, rfl, hgb, hcur, hc1, hc2, hc3, hc4⟩⟩, (bA.mono hbase).grown hg (by simp; omega) (fun k hk => (ha.lt k hk).1)⟩
theorem Touch.ofBase {S : Nat → Prop} {w w1 w2 : World} (h : Touch S w w1) (b : Below w.heap.size w1 w2) : Touch S w w2 :=
  ⟨b.os.trans h.os, b.tape.trans h.tape, b.output.trans h.output, Nat.le_trans h.size b.size, fun k hk hs => (b.block k hk).trans (h.block k hk hs)⟩
theorem own_shape {w : World} {base size n : Nat} {e : TypeId} {v : Value} {xs : List Value} (h : w.ownsRow base e size v n xs) : ∃ a cap, v = .slice a n cap ∧ n ≤ cap ∧ cap ≤ maxLen ∧ (0 < n → ∃ g, a = some ⟨g, 0, none⟩) := by
  rcases h.2 with ⟨rfl, h0⟩ | ⟨g, cap, cur, rfl, _, _, h2, h3, _⟩
  · exact ⟨none, 0, by rw [h0], by omega, Nat.zero_le _, fun q => by omega⟩
  · exact ⟨_, cap, rfl, h2, h3, fun _ => ⟨g, rfl⟩⟩
/-- .. as a row that may be written. -/
theorem own_row {w : World} {base n g c : Nat} {e : TypeId} {xs : List Value} (h : w.ownsRow base e 1 (.slice (some ⟨g, 0, none⟩) n c) n xs) : base ≤ g ∧ rowHas w g e n (fun i => (xs[i]?).getD undef) := by
  obtain ⟨hl, h2⟩ := h
  rcases h2 with ⟨q, _⟩ | ⟨g', cap, cur, e1, hg, hcur, h3, h4, h5, h6⟩
  · cases q
  · cases e1
    refine ⟨hg, cur.size, fun i => (cur[i]?).getD undef, by omega, ⟨cur, hcur, rfl, fun i hi => by simp [hi]⟩, fun i hi => ?_⟩
    have : xs[i]? = cur[i]? := by
      rw [← h6, List.getElem?_take, if_pos (by omega)]
      simp
    simp only [this]
end Go.Proofs.Ytlhppmhacdoilaa
