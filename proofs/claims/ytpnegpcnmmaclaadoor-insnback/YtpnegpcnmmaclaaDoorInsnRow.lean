/-
  Rows of instructions in memory; penumbrakeep.Same of two; one more.
-/
import Derived.Test.YtpnegpcnmmaclaaDoorInsnSh
import Derived.Test.YtpnegpcnmmaclaaDoorKeep
import Derived.Deep.LoopGhost
import Derived.Deep.Upon
import Derived.ArgAppend
import Derived.OrdersHeld
import Derived.Deep.QuietTactic
namespace Go.Proofs.YtpnegpcnmmaclaaDoor
open Go.ChangeShapes Go.WideShapes Go.ChangeAt Go.RowKit

/-- An instruction's cells. -/
def Ins.vs (x : Ins) : List Value := [.int .i64 x.op, .int .i64 x.a, .int .i64 x.b, .int .i64 x.n]
def flatI (l : List Ins) : List Value := l.flatMap Ins.vs
theorem flatI_len (l : List Ins) : (flatI l).length = l.length * 4 := by
  induction l with
  | nil => rfl
  | cons x l ih => simp [flatI, Ins.vs] at ih ⊢; omega
theorem flatI_at : ∀ (l : List Ins) (i j : Nat) (x : Ins) (v : Value), l[i]? = some x → x.vs[j]? = some v → (flatI l)[i * 4 + j]? = some v
  | [], i, j, x, v, h, _ => by simp at h
  | y :: l, 0, j, x, v, h, hv => by
    simp at h; subst h
    have hj : j < 4 := (List.getElem?_eq_some_iff.1 hv).1
    show (y.vs ++ flatI l)[0 * 4 + j]? = _
    rw [List.getElem?_append_left (by simp [Ins.vs]; omega)]; simpa using hv
  | y :: l, i + 1, j, x, v, h, hv => by
    show (y.vs ++ flatI l)[(i + 1) * 4 + j]? = _
    rw [List.getElem?_append_right (by simp [Ins.vs]; omega)]
    have := flatI_at l i j x v (by simpa using h) hv
    rw [show (i + 1) * 4 + j - y.vs.length = i * 4 + j by simp [Ins.vs]; omega]; exact this
/-- The block g begins with these instructions. -/
def IRow (w : World) (g : Nat) (l : List Ins) : Prop := ∃ cur e fr, w.heap[g]? = some (.cells cur e fr) ∧ ∀ (i : Nat) (v : Value), (flatI l)[i]? = some v → cur[i]? = some v
theorem IRow.lt {w : World} {g : Nat} {l : List Ins} (h : IRow w g l) : g < w.heap.size := by obtain ⟨_, _, _, h, _⟩ := h; exact lt_of_block h
theorem IRow.later {w w' : World} {g : Nat} {l : List Ins} (h : IRow w g l) (b : Below w.heap.size w w') : IRow w' g l := by
  have hl := h.lt
  obtain ⟨c, e, f, h1, h2⟩ := h
  exact ⟨c, e, f, (b.block g hl).trans h1, h2⟩
theorem IRow.lit (w : World) (cur : Array Value) (e : TypeId) (l : List Ins) (h : cur.toList = flatI l) : IRow (w.alloc (.cells cur e)) w.heap.size l :=
  ⟨cur, e, (0, 0), heap_alloc_new w _, fun i v hv => by rw [← h] at hv; simpa using hv⟩
theorem IRow.four {w : World} {g : Nat} {l : List Ins} (h : IRow w g l) {i : Nat} {x : Ins} (hx : l[i]? = some x) :
    w.cell? ⟨g, i * 4, none⟩ = some (.int .i64 x.op) ∧ w.cell? ⟨g, i * 4 + 1, none⟩ = some (.int .i64 x.a) ∧ w.cell? ⟨g, i * 4 + 2, none⟩ = some (.int .i64 x.b) ∧ w.cell? ⟨g, i * 4 + 3, none⟩ = some (.int .i64 x.n) := by
  obtain ⟨c, e, f, h1, h2⟩ := h
  have hc : ∀ j v, x.vs[j]? = some v → w.cell? ⟨g, i * 4 + j, none⟩ = some v := fun j v hj => by
    have := h2 _ _ (flatI_at l i j x v hx hj)
    simp [World.cell?, h1, this]
  exact ⟨hc 0 _ rfl, hc 1 _ rfl, hc 2 _ rfl, hc 3 _ rfl⟩
/-! ### Same -/
/-- A slice whose elements are these instructions. -/
def IsL (w : World) (a : Option Addr) (l : List Ins) : Prop := l = [] ∨ ∃ g, a = some ⟨g, 0, none⟩ ∧ IRow w g l
theorem IsL.own {w : World} {base cap : Nat} {a : Option Addr} {l : List Ins} (h : w.ownsRow base 32 4 (.slice a l.length cap) l.length (flatI l)) : IsL w a l := by
  obtain ⟨h1, h2⟩ := h
  rcases h2 with ⟨_, h0⟩ | ⟨g, c, cur, hv, _, hcur, _, _, _, ht⟩
  · exact Or.inl (List.length_eq_zero_iff.1 h0)
  · cases hv
    refine Or.inr ⟨g, rfl, cur, _, _, hcur, fun i v hv => ?_⟩
    rw [← ht, List.getElem?_take] at hv
    split at hv
    · simpa using hv
    · cases hv
theorem IsL.later {w w' : World} {a : Option Addr} {l : List Ins} (h : IsL w a l) (b : Below w.heap.size w w') : IsL w' a l := by
  rcases h with h | ⟨g, h1, h2⟩
  · exact Or.inl h
  · exact Or.inr ⟨g, h1, h2.later b⟩

theorem below_drew' {w wr : World} (h : Below w.heap.size w wr) (n : Nat) : Below w.heap.size w (wr.drewN n) := ⟨h.os, h.tape, h.output, h.size, h.block⟩
set_option maxHeartbeats 1000000 in
theorem same_eq {w : World} {a b : Option Addr} {l : List Ins} {c d : Nat} (ha : IsL w a l) (hb : IsL w b l) (hl : l.length ≤ 1000) :
    Calls Tryd.prog 9 #[.slice a l.length c, .slice b l.length d] w fun e w' => e = .returned (.bool true) ∧ Below w.heap.size w w' := by
  go_enter Tryd.func9, Tryd.ntmps9
  go_wp2
  go_loopw [5] (fun v wr => ∃ j : Nat, j ≤ l.length ∧ v = .int .i64 j ∧ Below w.heap.size w wr) (fun v _ => l.length - (intOf v).toNat)
  case atStart => exact ⟨0, by omega, rfl, Below.refl _ _⟩
  case round =>
    obtain ⟨j, hj, rfl, hB⟩ := hrel
    by_cases hlt : j < l.length
    · have hlt' : (j : Int) < (l.length : Int) := by omega
      rcases ha.later hB with rfl | ⟨g, rfl, h1⟩
      · simp at hlt
      rcases hb.later hB with rfl | ⟨g', rfl, h2⟩
      · simp at hlt
      obtain ⟨x, hx⟩ : ∃ x, l[j]? = some x := ⟨_, List.getElem?_eq_getElem hlt⟩
      obtain ⟨c0, c1, c2, c3⟩ := h1.four hx
      obtain ⟨d0, d1, d2, d3⟩ := h2.four hx
      go_wp2
      go_quiet (fail)
      go_wp2
      go_roundw
      case rel => exact ⟨j + 1, by omega, by go_num, below_drew' hB _⟩
      case measure => simp [intOf]; omega
    · have hlt' : ¬ ((j : Int) < (l.length : Int)) := by omega
      go_wp2
      go_ret
      exact ⟨rfl, hB⟩
theorem grown_below {w w' : World} (h : Below w.heap.size w w') (row : Option Nat) : w.grownBy w' row := ⟨h.os, h.tape, h.output, h.size, fun k hk _ => h.block k hk⟩
theorem own_later {w wx : World} {base cap : Nat} {a : Option Addr} {l : List Ins} (h : w.ownsRow base 32 4 (.slice a l.length cap) l.length (flatI l)) (b : Below w.heap.size w wx) : wx.ownsRow base 32 4 (.slice a l.length cap) l.length (flatI l) := by
  refine h.kept (grown_below b none) ?_
  cases hv : (Value.slice a l.length cap).ownBlock with
  | none => exact Or.inl rfl
  | some g => exact Or.inr (by simp)
theorem app_any {wp : World} {base cap : Nat} {a : Option Addr} {acc : List Ins} (h0 : wp.ownsRow base 32 4 (.slice a acc.length cap) acc.length (flatI acc)) (hb : base ≤ wp.heap.size) (few : acc.length ≤ 1000) (x : Ins) (A : Obj) :
    ∃ g c wN, (Builtin.append_ #[24, 24] 24 #[.slice a acc.length cap, .slice (some ⟨wp.heap.size + 1, 0, none⟩) 1 1]).run Tryd.prog ((wp.alloc A).alloc (.cells #[.int .i64 x.op, .int .i64 x.a, .int .i64 x.b, .int .i64 x.n] 32)) = .ok (.slice (some ⟨g, 0, none⟩) (acc.length + 1) c) wN ∧
      wN.ownsRow base 32 4 (.slice (some ⟨g, 0, none⟩) (acc ++ [x]).length c) (acc ++ [x]).length (flatI (acc ++ [x])) ∧ Below base wp wN := by
  obtain ⟨i, hi, hzz⟩ := Option.map_eq_some_iff.1 (show (Tryd.prog.info? 32).map (fun i => (i.zero, i.size, i.bytes)) = some (some (insV ⟨0, 0, 0, 0⟩), 4, 32) by kernel_rfl)
  simp only [Prod.mk.injEq] at hzz
  obtain ⟨hz0, hz1, hz2⟩ := hzz
  have bA := (Below.refl wp.heap.size wp).alloc (Nat.le_refl _) A
  have bB := (Below.refl (wp.alloc A).heap.size (wp.alloc A)).alloc (Nat.le_refl _) (.cells #[.int .i64 x.op, .int .i64 x.a, .int .i64 x.b, .int .i64 x.n] 32)
  have h1 := own_later (own_later h0 bA) bB
  have hnews : ∀ j u, x.vs[j]? = some u → ((wp.alloc A).alloc (.cells #[.int .i64 x.op, .int .i64 x.a, .int .i64 x.b, .int .i64 x.n] 32)).cell? ((⟨wp.heap.size + 1, 0, none⟩ : Addr).add j) = some u := fun j u hu => by
    have hj : j < 4 := (List.getElem?_eq_some_iff.1 hu).1
    rcases (by omega : j = 0 ∨ j = 1 ∨ j = 2 ∨ j = 3) with rfl | rfl | rfl | rfl <;> (cases hu; simp [go_sem])
  obtain ⟨v', wN, hr, ho, hg, hn⟩ := run_append_own (P := Tryd.prog) _ base 24 24 32 i (insV ⟨0, 0, 0, 0⟩) 4 32 Tryd.underlying24 hi hz0 hz1 hz2 rfl (by decide) (.slice a acc.length cap) acc.length (flatI acc) h1 ⟨wp.heap.size + 1, 0, none⟩ 1 1 x.vs rfl hnews
    (fun u hu => by simp [Ins.vs] at hu; rcases hu with rfl | rfl | rfl | rfl <;> rfl) (by unfold maxLen; omega) (by omega) (by simp; omega)
  have hfl : flatI acc ++ x.vs = flatI (acc ++ [x]) := by simp [flatI]
  have hll : (acc ++ [x]).length = acc.length + 1 := by simp
  obtain ⟨ho1, ho2⟩ := ho
  rcases ho2 with ⟨_, h00⟩ | ⟨g, c, cur, rfl, hgb, hcur, hc1, hc2, hc3, hc4⟩
  · omega
  · refine ⟨g, c, wN, hr, ?_, ?_⟩
    · rw [hll, ← hfl]; exact ⟨ho1, Or.inr ⟨g, c, cur, rfl, hgb, hcur, hc1, hc2, hc3, hc4⟩⟩
    · exact ((bA.trans (bB.mono bA.size)).mono hb).grown hg (by simp; omega) (fun k hk => (h1.lt k hk).1)
end Go.Proofs.YtpnegpcnmmaclaaDoor
