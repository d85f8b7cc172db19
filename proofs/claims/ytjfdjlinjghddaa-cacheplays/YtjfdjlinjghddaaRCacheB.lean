/-
  The document's own caches (penumbraref01.Caches): one contract a function.
-/
import Derived.Test.YtjfdjlinjghddaaRCacheA
import Derived.Deep.RegionHeld3
namespace Go.Proofs.Ytjfdjlinjghddaa
open Go.ChangeShapes Go.WideShapes Go.ChangeAt Go.RowKit

/-- They lie at r: CPUs' sets at cl, D i; shared sets at c2; each set's value is x1 i k, x2 k; all from lo on. -/
structure RBl (w : World) (r lo : Nat) (q : CQ) (cl c2 cap1 : Nat) (D : Nat → Nat) (x1 : Nat → Nat → Value) (x2 : Nat → Value) : Prop where
  n1 : 1 ≤ q.n
  n2 : q.n ≤ 2
  rr : lo ≤ r
  rl : lo ≤ cl
  r2 : lo ≤ c2
  rd : ∀ i, i < q.n → lo ≤ D i
  ds : ∀ i, i < q.n → D i ≠ c2
  dd : ∀ i j, i < q.n → j < q.n → i ≠ j → D i ≠ D j
  cp : q.n ≤ cap1
  okF : ∀ i, SOK 4 2 (q.F i)
  okS : SOK 8 4 q.Sh
  top : w.rowIs r 54 2 (fun i => if i = 0 then .slice (some ⟨cl, 0, none⟩) q.n cap1 else .slice (some ⟨c2, 0, none⟩) 8 8)
  l1 : rowHas w cl 41 q.n (fun i => .slice (some ⟨D i, 0, none⟩) 4 4)
  l2 : rowHas w c2 24 8 x2
  d1 : ∀ i, i < q.n → rowHas w (D i) 24 4 (x1 i)
  L1 : ∀ i, i < q.n → ∀ k, k < 4 → Lst w lo (x1 i k) (q.F i k)
  L2 : ∀ k, k < 8 → Lst w lo (x2 k) (q.Sh k)

def RCAt (w : World) (r lo : Nat) (q : CQ) : Prop := ∃ cl c2 cap1 D x1 x2, RBl w r lo q cl c2 cap1 D x1 x2

namespace RBl
variable {w w' : World} {r lo : Nat} {q : CQ} {cl c2 cap1 : Nat} {D : Nat → Nat} {x1 : Nat → Nat → Value} {x2 : Nat → Value}
theorem touch {S : Nat → Prop} (h : RBl w r lo q cl c2 cap1 D x1 x2) (t : Touch S w w') (hs : ∀ k, lo ≤ k → k < w.heap.size → ¬ S k) : RBl w' r lo q cl c2 cap1 D x1 x2 :=
  { h with
    top := t.row h.top (hs _ h.rr h.top.lt)
    l1 := h.l1.touch t (hs _ h.rl h.l1.lt)
    l2 := h.l2.touch t (hs _ h.r2 h.l2.lt)
    d1 := fun i hi => (h.d1 i hi).touch t (hs _ (h.rd i hi) (h.d1 i hi).lt)
    L1 := fun i hi k hk => (h.L1 i hi k hk).touch t (fun b _ _ hb hr => hs b hb hr.lt)
    L2 := fun k hk => (h.L2 k hk).touch t (fun b _ _ hb hr => hs b hb hr.lt) }
theorem top0 (h : RBl w r lo q cl c2 cap1 D x1 x2) : w.cell? ⟨r, 0, none⟩ = some (.slice (some ⟨cl, 0, none⟩) q.n cap1) := h.top.cell (i := 0) (by omega)
theorem top1 (h : RBl w r lo q cl c2 cap1 D x1 x2) : w.cell? ⟨r, 1, none⟩ = some (.slice (some ⟨c2, 0, none⟩) 8 8) := h.top.cell (i := 1) (by omega)
/-- A set of a CPU is another one. -/
theorem setF (h : RBl w r lo q cl c2 cap1 D x1 x2) {i k : Nat} (hi : i < q.n) {v : Value} {S' : Sets} (ok : SOK 4 2 S') (hL : Lst w lo v (S' k)) (hS : ∀ j, j ≠ k → S' j = q.F i j) :
    RBl (w.setCell ⟨D i, k, none⟩ v) r lo { q with F := fun j => if j = i then S' else q.F j } cl c2 cap1 D (fun j m => if j = i ∧ m = k then v else x1 j m) x2 := by
  have t : Touch (· = D i) w (w.setCell ⟨D i, k, none⟩ v) := (Touch.refl (· = D i) w).setCell (p := ⟨D i, k, none⟩) rfl _
  have hne : ∀ b n f, lo ≤ b → rowHas w b 3 n f → ¬ b = D i := fun b n f _ hr => rowHas_ne hr (h.d1 i hi) (by decide)
  refine { h with okF := ?_, top := t.row h.top (rowHas_ne (rowHas.of h.top) (h.d1 i hi) (by decide)), l1 := h.l1.touch t (rowHas_ne h.l1 (h.d1 i hi) (by decide)), l2 := h.l2.touch t (fun e => h.ds i hi e.symm), d1 := ?_, L1 := ?_, L2 := fun k hk => (h.L2 k hk).touch t hne }
  · intro j
    show SOK 4 2 (if j = i then S' else q.F j)
    split
    · exact ok
    · exact h.okF j
  · intro j hj
    by_cases e : j = i
    · subst e
      refine ((h.d1 j hj).set k v).congr fun m _ => ?_
      simp
    · refine ((h.d1 j hj).touch t (fun e' => h.dd j i hj hi e e')).congr fun m _ => ?_
      simp [e]
  · intro j hj m hm
    show Lst _ lo (if j = i ∧ m = k then v else x1 j m) ((if j = i then S' else q.F j) m)
    by_cases e : j = i
    · rw [if_pos e]
      by_cases e2 : m = k
      · rw [if_pos ⟨e, e2⟩, e2]; exact hL.touch t hne
      · rw [if_neg (fun h => e2 h.2), hS m e2, e]; exact (h.L1 i hi m hm).touch t hne
    · rw [if_neg (fun h => e h.1), if_neg e]; exact (h.L1 j hj m hm).touch t hne
/-- A shared set is another one. -/
theorem setS (h : RBl w r lo q cl c2 cap1 D x1 x2) {k : Nat} {v : Value} {S' : Sets} (ok : SOK 8 4 S') (hL : Lst w lo v (S' k)) (hS : ∀ j, j ≠ k → S' j = q.Sh j) :
    RBl (w.setCell ⟨c2, k, none⟩ v) r lo { q with Sh := S' } cl c2 cap1 D x1 (fun m => if m = k then v else x2 m) := by
  have t : Touch (· = c2) w (w.setCell ⟨c2, k, none⟩ v) := (Touch.refl (· = c2) w).setCell (p := ⟨c2, k, none⟩) rfl _
  have hne : ∀ b n f, lo ≤ b → rowHas w b 3 n f → ¬ b = c2 := fun b n f _ hr => rowHas_ne hr h.l2 (by decide)
  refine { h with okS := ok, top := t.row h.top (rowHas_ne (rowHas.of h.top) h.l2 (by decide)), l1 := h.l1.touch t (rowHas_ne h.l1 h.l2 (by decide)), l2 := (h.l2.set k v).congr fun m _ => rfl, d1 := fun i hi => (h.d1 i hi).touch t (h.ds i hi), L1 := fun i hi m hm => (h.L1 i hi m hm).touch t hne, L2 := ?_ }
  intro m hm
  show Lst _ lo (if m = k then v else x2 m) (S' m)
  by_cases e2 : m = k
  · rw [if_pos e2, e2]; exact hL.touch t hne
  · rw [if_neg e2, hS m e2]; exact (h.L2 m hm).touch t hne
theorem cells3 (h : RBl w r lo q cl c2 cap1 D x1 x2) {i k : Nat} (hi : i < q.n) (v : Value) :
    (w.setCell ⟨D i, k, none⟩ v).cell? ⟨r, 0, none⟩ = some (.slice (some ⟨cl, 0, none⟩) q.n cap1) ∧ (w.setCell ⟨D i, k, none⟩ v).cell? ⟨cl, i, none⟩ = some (.slice (some ⟨D i, 0, none⟩) 4 4) ∧ (w.setCell ⟨D i, k, none⟩ v).cell? ⟨r, 1, none⟩ = some (.slice (some ⟨c2, 0, none⟩) 8 8) :=
  have n1 : r ≠ D i := rowHas_ne (rowHas.of h.top) (h.d1 i hi) (by decide)
  have n2 : cl ≠ D i := rowHas_ne h.l1 (h.d1 i hi) (by decide)
  ⟨(h.top.setOther n1 v).cell (i := 0) (by omega), (h.l1.setOther n2 v).cell hi, (h.top.setOther n1 v).cell (i := 1) (by omega)⟩
theorem cells4 (h : RBl w r lo q cl c2 cap1 D x1 x2) {i k k' : Nat} (hi : i < q.n) (v v' : Value) :
    ((w.setCell ⟨D i, k, none⟩ v).setCell ⟨c2, k', none⟩ v').cell? ⟨r, 0, none⟩ = some (.slice (some ⟨cl, 0, none⟩) q.n cap1) ∧ ((w.setCell ⟨D i, k, none⟩ v).setCell ⟨c2, k', none⟩ v').cell? ⟨cl, i, none⟩ = some (.slice (some ⟨D i, 0, none⟩) 4 4) ∧ ((w.setCell ⟨D i, k, none⟩ v).setCell ⟨c2, k', none⟩ v').cell? ⟨r, 1, none⟩ = some (.slice (some ⟨c2, 0, none⟩) 8 8) :=
  have n1 : r ≠ D i := rowHas_ne (rowHas.of h.top) (h.d1 i hi) (by decide)
  have n2 : cl ≠ D i := rowHas_ne h.l1 (h.d1 i hi) (by decide)
  have n3 : r ≠ c2 := rowHas_ne (rowHas.of h.top) h.l2 (by decide)
  have n4 : cl ≠ c2 := rowHas_ne h.l1 h.l2 (by decide)
  ⟨((h.top.setOther n1 v).setOther n3 v').cell (i := 0) (by omega), ((h.l1.setOther n2 v).setOther n4 v').cell hi, ((h.top.setOther n1 v).setOther n3 v').cell (i := 1) (by omega)⟩
end RBl

theorem RCAt.touch {S : Nat → Prop} {w w' : World} {r lo : Nat} {q : CQ} (h : RCAt w r lo q) (t : Touch S w w') (hs : ∀ k, lo ≤ k → k < w.heap.size → ¬ S k) : RCAt w' r lo q := by
  obtain ⟨cl, c2, cap1, D, x1, x2, h⟩ := h
  exact ⟨cl, c2, cap1, D, x1, x2, h.touch t hs⟩

set_option maxHeartbeats 400000 in
theorem rfine_any {w : World} {r lo : Nat} {q : CQ} (h : RCAt w r lo q) (u x : Int) :
    Calls Try.prog 32 #[.pointer (some ⟨r, 0, none⟩), .int .i64 u, .int .i64 x] w fun e w' => e = .returned (.bool (q.may u x)) ∧ w = w' := by
  obtain ⟨cl, c2, cap1, D, x1, x2, h⟩ := h
  have h0 := h.top0
  have hn := h.n2
  by_cases h1 : 0 ≤ u
  · by_cases h2 : u < q.n
    · go_enter Try.func32, Try.ntmps32
      go_wp2
      go_ret
      exact ⟨ret_bool (by simp [CQ.may, CQ.hasC, h1, h2]), rfl⟩
    · have h3 : decide (u < (q.n : Int)) = false := by simpa using h2
      go_enter Try.func32, Try.ntmps32
      go_wp2
      go_ret
      exact ⟨ret_bool (by simp only [CQ.may, CQ.hasC, h3, Bool.and_false, Bool.false_and]), rfl⟩
  · have h3 : decide (0 ≤ u) = false := by simpa using h1
    go_enter Try.func32, Try.ntmps32
    go_wp2
    go_ret
    exact ⟨ret_bool (by simp only [CQ.may, CQ.hasC, h3, Bool.false_and]), rfl⟩

theorem CQ.near_pl (q : CQ) (u x : Int) (hm : q.may u x = true) : q.near u x = decide (0 ≤ pl (q.F u.toNat (x % 4).toNat) x) := by
  unfold CQ.near Sets.has
  rw [hm, pl_nn]; rfl

set_option maxHeartbeats 1000000 in
theorem rnear_any {w : World} {r lo : Nat} {q : CQ} (h : RCAt w r lo q) (u x : Int) :
    Calls Try.prog 25 #[.pointer (some ⟨r, 0, none⟩), .int .i64 u, .int .i64 x] w fun e w' => e = .returned (.bool (q.near u x)) ∧ w = w' := by
  have hf := rfine_any h u x
  obtain ⟨cl, c2, cap1, D, x1, x2, h⟩ := h
  cases hm : q.may u x
  · have hr : q.near u x = false := by simp [CQ.near, hm]
    rw [hm] at hf
    rw [hr]
    go_enter Try.func25, Try.ntmps25
    go_wp2_with (go_at_call 32; refine hf.mono ?_; rintro e wq ⟨rfl, rfl⟩)
    go_ret
    exact ⟨rfl, rfl⟩
  · have hm' := hm
    simp only [CQ.may, Bool.and_eq_true, decide_eq_true_eq] at hm'
    obtain ⟨hw, hx⟩ := hm'
    obtain ⟨b1, b2⟩ := (q.hasC_iff u).1 hw
    rw [hm] at hf
    have h0 := h.top0
    have hn := h.n2
    rw [q.near_pl u x hm]
    have hk : (x % 4).toNat < 4 := by omega
    have e1 : x.tmod 4 = x % 4 := Int.tmod_eq_emod_of_nonneg hx
    have m1 : 0 ≤ x % 4 := by omega
    have m2 : x % 4 < 4 := by omega
    have c1 := h.l1.cell (i := u.toNat) (by omega)
    have c3 := (h.d1 u.toNat (by omega)).cell (i := (x % 4).toNat) hk
    obtain ⟨a, cap, e, k1, k2, hat⟩ := h.L1 u.toNat (by omega) _ hk
    rw [e] at c3
    have hlen := (h.okF u.toNat).len (x % 4).toNat
    have hh := rhas_any4 hat (by omega) cap x
    generalize q.F u.toNat (x % 4).toNat = l at *
    clear e
    go_enter Try.func25, Try.ntmps25
    go_wp2_with (first
      | (go_at_call 32; refine hf.mono ?_; rintro e wq ⟨rfl, rfl⟩)
      | (go_at_call 38; refine hh.mono ?_; rintro e wq ⟨rfl, rfl⟩))
    go_ret
    exact ⟨rfl, rfl⟩
end Go.Proofs.Ytjfdjlinjghddaa
