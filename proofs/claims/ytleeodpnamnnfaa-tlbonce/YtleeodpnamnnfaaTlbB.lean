/-
  Lists of items in memory; slices.IndexFunc of them.
-/
import Derived.Test.YtleeodpnamnnfaaTlbA
import Derived.Test.YtleeodpnamnnfaaRows2
import Derived.Shelf.Abstract
import Derived.Laws.Cells
import Derived.Lib.SliceRun
import Derived.Deep.LoopGhost
namespace Go.Proofs.Ytleeodpnamnnfaa
open Go.ChangeShapes Go.WideShapes Go.ChangeAt Go.RowKit

/-- The items of l lie in row g from cell o on, with spare room. -/
def LRow (ty : TypeId) (w : World) (g o cap : Nat) (l : List It) : Prop :=
  l.length ≤ cap ∧ cap ≤ maxLen ∧ ∃ m f, rowHas w g ty m f ∧ o + cap * 6 ≤ m ∧ ∀ i v, (flat l)[i]? = some v → f (o + i) = v
namespace LRow
variable {ty : TypeId} {w w' : World} {g o cap : Nat} {l : List It}
theorem cell (h : LRow ty w g o cap l) {i : Nat} {v : Value} (hv : (flat l)[i]? = some v) : w.cell? ⟨g, o + i, none⟩ = some v := by
  obtain ⟨h1, h2, m, f, h3, h4, h5⟩ := h
  have hi := (List.getElem?_eq_some_iff.1 hv).1
  rw [flat_len] at hi
  rw [h3.cell (by omega), h5 i v hv]
theorem lt (h : LRow ty w g o cap l) : g < w.heap.size := by
  obtain ⟨h1, h2, m, f, h3, h4, h5⟩ := h
  exact h3.lt
theorem touch {S : Nat → Prop} (h : LRow ty w g o cap l) (t : Touch S w w') (hs : ¬ S g) : LRow ty w' g o cap l := by
  obtain ⟨h1, h2, m, f, h3, h4, h5⟩ := h
  exact ⟨h1, h2, m, f, h3.touch t hs, h4, h5⟩
theorem elem (h : LRow ty w g o cap l) {i : Nat} {x : It} (hx : l[i]? = some x) {j : Nat} (hj : j < 6) : ∃ v, x.vs[j]? = some v ∧ w.cell? ⟨g, o + i * 6 + j, none⟩ = some v := by
  have e := flat_get l hx hj
  have hl : j < x.vs.length := by rw [It.vs_len]; exact hj
  rw [List.getElem?_eq_getElem hl] at e
  exact ⟨_, List.getElem?_eq_getElem hl, by rw [Nat.add_assoc]; exact h.cell e⟩
theorem six (h : LRow ty w g o cap l) {i : Nat} {x : It} (hx : l[i]? = some x) : w.cell? ⟨g, o + i * 6, none⟩ = some (.int .i64 x.pc) ∧ w.cell? ⟨g, o + i * 6 + 1, none⟩ = some (.int .i64 x.pg) ∧ w.cell? ⟨g, o + i * 6 + 2, none⟩ = some (.int .i64 x.fr) ∧
    w.cell? ⟨g, o + i * 6 + 3, none⟩ = some (.bool x.wr) ∧ w.cell? ⟨g, o + i * 6 + 4, none⟩ = some (.bool x.us) ∧ w.cell? ⟨g, o + i * 6 + 5, none⟩ = some (.bool x.gl) := by
  have e : ∀ j v, x.vs[j]? = some v → w.cell? ⟨g, o + i * 6 + j, none⟩ = some v := fun j v hj => by
    have hj6 : j < 6 := (List.getElem?_eq_some_iff.1 hj).1
    obtain ⟨u, hu, hc⟩ := h.elem hx hj6
    rw [hj] at hu; cases hu; exact hc
  exact ⟨e 0 _ rfl, e 1 _ rfl, e 2 _ rfl, e 3 _ rfl, e 4 _ rfl, e 5 _ rfl⟩
theorem six0 (h : LRow ty w g 0 cap l) {i : Nat} {x : It} (hx : l[i]? = some x) : w.cell? ⟨g, i * 6, none⟩ = some (.int .i64 x.pc) ∧ w.cell? ⟨g, i * 6 + 1, none⟩ = some (.int .i64 x.pg) ∧ w.cell? ⟨g, i * 6 + 2, none⟩ = some (.int .i64 x.fr) ∧
    w.cell? ⟨g, i * 6 + 3, none⟩ = some (.bool x.wr) ∧ w.cell? ⟨g, i * 6 + 4, none⟩ = some (.bool x.us) ∧ w.cell? ⟨g, i * 6 + 5, none⟩ = some (.bool x.gl) := by
  have := h.six hx
  simp only [Nat.zero_add] at this
  exact this
end LRow

/-- A list: nil, or a row's. -/
def LAt (ty : TypeId) (w : World) (a : Option Addr) (cap : Nat) (l : List It) : Prop :=
  (a = none ∧ cap = 0 ∧ l = []) ∨ ∃ g o, a = some ⟨g, o, none⟩ ∧ LRow ty w g o cap l
/-- The block of a list. -/
def blk (a : Option Addr) (k : Nat) : Prop := ∃ p, a = some p ∧ p.block = k

theorem LAt.touch {ty : TypeId} {w w' : World} {a : Option Addr} {cap : Nat} {l : List It} {S : Nat → Prop} (h : LAt ty w a cap l) (t : Touch S w w') (hs : ∀ k, blk a k → ¬ S k) : LAt ty w' a cap l := by
  rcases h with h | ⟨g, o, rfl, h⟩
  · exact Or.inl h
  · exact Or.inr ⟨g, o, rfl, h.touch t (hs g ⟨_, rfl, rfl⟩)⟩

/-- What is asked of a closure. -/
def PredT (fn : Nat) (lb : Array Value) (p : It → Bool) (S : Nat → Prop) (w : World) : Prop :=
  ∀ (W : World) (x : It), Touch S w W → Calls Try.prog fn (#[x.V] ++ lb) W fun e w' => e = .returned (.bool (p x)) ∧ Touch Nil W w'
theorem PredT.mono {fn : Nat} {lb : Array Value} {p : It → Bool} {S S' : Nat → Prop} {w : World} (h : PredT fn lb p S w) (hs : ∀ k, S' k → S k) : PredT fn lb p S' w :=
  fun W x t => h W x (t.mono fun k _ => hs k)

/-- The first of which p holds, or -1. -/
def fidx (p : It → Bool) (l : List It) : Int := if l.any p = true then (l.findIdx p : Int) else -1
theorem fidx_hit {p : It → Bool} {l : List It} {k : Nat} {x : It} (hk : l[k]? = some x) (hp : p x = true) (hn : ∀ (j : Nat) y, j < k → l[j]? = some y → p y = false) : fidx p l = k := by
  obtain ⟨hlt, hx⟩ := List.getElem?_eq_some_iff.1 hk
  have e : l.findIdx p = k := (List.findIdx_eq hlt).2 ⟨by rw [hx]; exact hp, fun j hj => hn j _ hj (List.getElem?_eq_getElem _)⟩
  have ha : l.any p = true := List.any_eq_true.2 ⟨x, List.mem_of_getElem? hk, hp⟩
  unfold fidx
  rw [if_pos ha, e]
theorem fidx_miss {p : It → Bool} {l : List It} (hn : ∀ (j : Nat) y, l[j]? = some y → p y = false) : fidx p l = -1 := by
  unfold fidx
  rw [if_neg]
  rw [List.any_eq_true]
  rintro ⟨x, hx, hp⟩
  obtain ⟨j, hj⟩ := List.getElem?_of_mem hx
  rw [hn j x hj] at hp
  cases hp

set_option maxHeartbeats 1000000 in
theorem indexf_row {w : World} {g o cap : Nat} {l : List It} (h : LRow 26 w g o cap l) (hn : l.length ≤ 9) (fn : Nat) (lb : Array Value) (p : It → Bool) (eg : ∀ args w, (callFunc fn args).run Try.prog w = .ok (.enter fn args) w) (hp : PredT fn lb p Nil w) :
    Calls Try.prog 27 #[.slice (some ⟨g, o, none⟩) l.length cap, .func (.func fn) #[] lb] w fun e w' => e = .returned (.int .i64 (fidx p l)) ∧ Touch Nil w w' := by
  go_enter Try.func27, Try.ntmps27
  go_wp2
  go_loopg [5, 8] l.length (fun gg _ s8 wr => ∃ kk : Nat, kk ≤ l.length ∧ l.length - kk ≤ gg ∧ s8 = .int .i64 kk ∧ Aside (Touch Nil w wr) ∧ Aside (∀ (j : Nat) y, j < kk → l[j]? = some y → p y = false))
  case atStart => exact ⟨0, Nat.zero_le _, by omega, rfl, Touch.refl _ w, fun j y hj => absurd hj (Nat.not_lt_zero _)⟩
  case round =>
    obtain ⟨kk, hkk, hg, rfl, BW, A⟩ := hrel
    by_cases hlt : kk < l.length
    · have hltz : (kk : Int) < (l.length : Int) := by omega
      have hy : Aside (l[kk]? = some l[kk]) := List.getElem?_eq_getElem hlt
      generalize l[kk] = y at hy
      obtain ⟨c0, c1, c2, c3, c4, c5⟩ := (h.touch BW.out (by simp [Nil])).six hy.out
      have hcall := hp wr y BW.out
      clear h hp
      cases hq : p y with
      | true =>
        rw [hq] at hcall
        go_wp2_with (go_at_fn fn; refine hcall.mono ?_; rintro e w' ⟨rfl, hb'⟩)
        go_ret
        refine ⟨?_, BW.out.trans hb'⟩
        rw [fidx_hit hy.out hq A.out]; rfl
      | false =>
        rw [hq] at hcall
        go_wp2_with (go_at_fn fn; refine hcall.mono ?_; rintro e w' ⟨rfl, hb'⟩)
        go_roundg (l.length - (kk + 1))
        case measure => omega
        case rel =>
          refine ⟨kk + 1, by omega, by omega, by go_num, BW.out.trans hb', (show Aside _ from fun j z hj hz => ?_)⟩
          by_cases e : j = kk
          · subst e
            rw [hy.out] at hz; cases hz; exact hq
          · exact A.out j z (by omega) hz
    · have hltz : ¬ (kk : Int) < (l.length : Int) := by omega
      go_wp2
      go_ret
      refine ⟨?_, BW.out⟩
      rw [fidx_miss (p := p) (l := l) (fun j y hy => A.out j y (by have := (List.getElem?_eq_some_iff.1 hy).1; omega) hy)]; rfl

set_option maxHeartbeats 1000000 in
theorem indexf_nil {w : World} (fv : Value) :
    Calls Try.prog 27 #[.slice none 0 0, fv] w fun e w' => e = .returned (.int .i64 (-1)) ∧ w = w' := by
  go_enter Try.func27, Try.ntmps27
  go_wp2
  refine wp_loop_rounds 1 ?_
  rw [rounds_succ]
  go_wp2
  go_ret
  exact ⟨rfl, rfl⟩
end Go.Proofs.Ytleeodpnamnnfaa
