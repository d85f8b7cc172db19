/-
  Plain facts on caches.
-/
import Derived.Test.YtjfdjlinjghddaaCacheS
namespace Go.Proofs.Ytjfdjlinjghddaa

theorem mem_sput_self (l : List Int) (x : Int) (V : Nat) (hV : 1 ≤ V) : x ∈ sput l x V := by
  unfold sput; split
  · assumption
  · rw [List.mem_iff_getElem?]
    refine ⟨(l ++ [x]).length - 1 - (l.length + 1 - V), ?_⟩
    rw [List.getElem?_drop]
    simp only [List.length_append, List.length_singleton]
    by_cases h : l.length + 1 - V ≤ l.length
    · rw [show l.length + 1 - V + (l.length + 1 - 1 - (l.length + 1 - V)) = l.length by omega]; simp
    · omega
theorem has_put (S : Sets) (K V : Nat) (x : Int) (hV : 1 ≤ V) : (S.put K V x).has K x = true := by
  simp only [Sets.has, Sets.put, if_true, decide_eq_true_eq]
  exact mem_sput_self _ _ _ hV
theorem has_cut {S : Sets} {K V : Nat} (h : SOK K V S) (x : Int) : (S.cut K x).has K x = false := by
  simp only [Sets.has, Sets.cut, if_true, decide_eq_false_iff_not]
  exact fun hm => ((h.nd _).mem_erase_iff.1 hm).1 rfl
namespace CQ
theorem may_n {q q' : CQ} (h : q'.n = q.n) (u x : Int) : q'.may u x = q.may u x := by simp [may, hasC, h]
theorem touch_F {q : CQ} {u x : Int} (h : q.may u x = true) : (q.touch u x).F u.toNat = (q.F u.toNat).put 4 2 x := by simp [touch, h]
theorem near_touch {q : CQ} {u x : Int} (h : q.may u x = true) : (q.touch u x).near u x = true := by
  unfold near
  rw [may_n (q.touch_n u x), h, touch_F h, has_put _ _ _ _ (by omega)]; rfl
theorem evict_F {q : CQ} {u x : Int} (h : q.may u x = true) : (q.evict u x).F u.toNat = (q.F u.toNat).cut 4 x := by simp [evict, h]
theorem near_evict {q : CQ} {u x : Int} (ok : ∀ i, SOK 4 2 (q.F i)) : (q.evict u x).near u x = false := by
  unfold near
  rw [may_n (q.evict_n u x)]
  cases h : q.may u x
  · rfl
  · rw [evict_F h, has_cut (ok _)]; rfl
theorem evict_Sh (q : CQ) (u x : Int) : (q.evict u x).Sh = q.Sh := by unfold evict; split <;> rfl
theorem touch_other (q : CQ) (u x : Int) {i : Nat} (h : i ≠ u.toNat) : (q.touch u x).F i = q.F i := by unfold touch; split <;> simp [h]
theorem evict_other (q : CQ) (u x : Int) {i : Nat} (h : i ≠ u.toNat) : (q.evict u x).F i = q.F i := by unfold evict; split <;> simp [h]
theorem hasC_n {q q' : CQ} (h : q'.n = q.n) (u : Int) : q'.hasC u = q.hasC u := by simp [hasC, h]
end CQ
end Go.Proofs.Ytjfdjlinjghddaa
