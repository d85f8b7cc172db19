/-
  The document's own slots (penumbraref01.Swap): one contract a function.
-/
import Derived.Test.YtaofkedcdeocjaaSwapD
import Derived.Test.YtaofkedcdeocjaaRefB
import Derived.Laws.IdiomCopy
namespace Go.Proofs.Ytaofkedcdeocjaa
open Go.ChangeShapes Go.WideShapes Go.ChangeAt Go.RowKit

namespace QS
/-- As the document lays it: all words, then which are had. -/
def rcell (q : QS) (i : Nat) : Value := if i < 64 then .int .u64 (q.W (i / 8) (i % 8)) else .bool (q.U (i - 64))
def setU (q : QS) (k : Nat) (u : Bool) : QS := ⟨fun i => if i = k then u else q.U i, q.W⟩
def setW (q : QS) (k : Nat) (g : Nat → Int) : QS := ⟨q.U, fun i => if i = k then g else q.W i⟩
theorem rcell_out (q : QS) (k : Nat) : q.rcell (64 + k) = .bool (q.U k) := by
  unfold rcell; rw [if_neg (by omega), show 64 + k - 64 = k by omega]
theorem rcell_word (q : QS) (k o : Nat) (hk : k < 8) (ho : o < 8) : q.rcell (k * 8 + o) = .int .u64 (q.W k o) := by
  unfold rcell; rw [if_pos (by omega), show (k * 8 + o) / 8 = k by omega, show (k * 8 + o) % 8 = o by omega]
end QS
/-- The document's slots in block b. -/
def RQAt (w : World) (b : Nat) (q : QS) : Prop := w.rowIs b 86 72 q.rcell
namespace RQAt
variable {w w' : World} {b : Nat} {q : QS}
theorem touch {S : Nat → Prop} (h : RQAt w b q) (t : Touch S w w') (hs : ¬ S b) : RQAt w' b q := t.row h hs
theorem outC (h : RQAt w b q) {k : Nat} (hk : k < 8) : w.cell? ⟨b, 64 + k, none⟩ = some (.bool (q.U k)) := by
  rw [World.rowIs.cell h (i := 64 + k) (by omega), q.rcell_out]
theorem wordC (h : RQAt w b q) {k o : Nat} (hk : k < 8) (ho : o < 8) : w.cell? ⟨b, k * 8 + o, none⟩ = some (.int .u64 (q.W k o)) := by
  rw [World.rowIs.cell h (i := k * 8 + o) (by omega), q.rcell_word _ _ hk ho]
theorem frozen (h : RQAt w b q) (i : Nat) : w.frozen? ⟨b, i, none⟩ = false := World.rowIs.frozen h i
theorem lt (h : RQAt w b q) : b < w.heap.size := World.rowIs.lt h
theorem setU (h : RQAt w b q) (k : Nat) (u : Bool) : RQAt (w.setCell ⟨b, 64 + k, none⟩ (.bool u)) b (q.setU k u) := by
  refine (World.rowIs.set h (64 + k) _).congr fun i _ => ?_
  unfold QS.rcell QS.setU
  by_cases e : i = 64 + k
  · rw [if_pos e, if_neg (by omega)]; dsimp only; rw [if_pos (by omega)]
  · rw [if_neg e]
    by_cases e2 : i < 64
    · rw [if_pos e2, if_pos e2]
    · rw [if_neg e2, if_neg e2]; dsimp only; rw [if_neg (by omega)]
theorem setW (h : RQAt w b q) (k : Nat) (hk : k < 8) (g : Nat → Int) : RQAt (w.setCells b (k * 8) (ws8 g)) b (q.setW k g) := by
  refine (rowIs_setCells _ _ _ _ h).congr fun i _ => ?_
  unfold QS.rcell QS.setW
  by_cases h1 : k * 8 ≤ i
  · rw [if_pos h1]
    by_cases h2 : i - k * 8 < 8
    · have hd : i / 8 = k := by omega
      have h64 : i < 64 := by omega
      rw [ws8_get _ _ h2]
      simp only [h64, if_true, hd, Option.getD_some]
      rw [show i % 8 = i - k * 8 by omega]
    · rw [List.getElem?_eq_none (by show 8 ≤ _; omega)]
      have hd : i / 8 ≠ k := by omega
      simp only [hd, if_false, Option.getD_none]
  · rw [if_neg h1]
    have hd : i / 8 ≠ k := by omega
    simp only [hd, if_false]
end RQAt

set_option maxHeartbeats 400000 in
theorem rsleft_any {w : World} {b : Nat} {q : QS} (h : RQAt w b q) :
    Calls Try.prog 44 #[.pointer (some ⟨b, 0, none⟩)] w fun e w' => e = .returned (.int .i64 q.left) ∧ w = w' := by
  go_enter Try.func44, Try.ntmps44
  go_wp2
  go_loopg [3, 4] 7 (fun g n i wr => ∃ k : Nat, g + k = 7 ∧ i = .int .i64 ((k : Int) + 1) ∧ n = .int .i64 (QS.cnt q.U k) ∧ QS.cnt q.U k ≤ k ∧ w = wr)
  case atStart => exact ⟨0, by omega, rfl, rfl, by simp [QS.cnt], rfl⟩
  case round =>
    obtain ⟨k, hgk, rfl, rfl, hle, rfl⟩ := hrel
    by_cases hk : k < 7
    · have hc := h.outC (k := k + 1) (by omega)
      have e1 : QS.cnt q.U (k + 1) = QS.cnt q.U k + if q.U (k + 1) = true then 0 else 1 := rfl
      have k1 : (k : Int) + 1 < 8 := by omega
      cases hU : q.U (k + 1)
      · rw [hU] at hc e1
        go_wp2
        go_roundg (6 - k)
        case measure => omega
        case rel => exact ⟨k + 1, by omega, by go_num, by rw [e1]; go_num, by rw [e1]; simp; omega, rfl⟩
      · rw [hU] at hc e1
        go_wp2
        go_roundg (6 - k)
        case measure => omega
        case rel => exact ⟨k + 1, by omega, by go_num, by rw [e1]; go_num, by rw [e1]; simp; omega, rfl⟩
    · have h7 : k = 7 := by omega
      subst h7
      go_wp2
      go_ret
      exact ⟨rfl, rfl⟩

set_option maxHeartbeats 1000000 in
theorem rsdrop_any {w : World} {b : Nat} {q : QS} (h : RQAt w b q) (k : Int) :
    Calls Try.prog 42 #[.pointer (some ⟨b, 0, none⟩), .int .i64 k] w fun e w' => e = .returned (.bool (q.isOut k)) ∧ RQAt w' b (if q.isOut k = true then q.setU k.toNat false else q) ∧ Touch (· = b) w w' := by
  by_cases h1 : 1 ≤ k
  · by_cases h2 : k < 8
    · have hc := h.outC (k := k.toNat) (by omega)
      have hz := h.frozen (64 + k.toNat)
      have hi : q.isOut k = q.U k.toNat := by unfold QS.isOut; rw [decide_eq_true h1, decide_eq_true h2]; rfl
      rw [hi]
      cases hU : q.U k.toNat
      · rw [hU] at hc
        rw [if_neg (by decide)]
        go_enter Try.func42, Try.ntmps42
        go_wp2
        go_ret
        exact ⟨rfl, h, Touch.refl _ _⟩
      · rw [hU] at hc
        rw [if_pos rfl]
        go_enter Try.func42, Try.ntmps42
        go_wp2
        go_ret
        exact ⟨rfl, h.setU _ _, (Touch.refl (· = b) w).setCell rfl _⟩
    · rw [q.isOut_off k (by omega), if_neg (by decide)]
      go_enter Try.func42, Try.ntmps42
      go_wp2
      go_ret
      exact ⟨rfl, h, Touch.refl _ _⟩
  · rw [q.isOut_off k (by omega), if_neg (by decide)]
    go_enter Try.func42, Try.ntmps42
    go_wp2
    go_ret
    exact ⟨rfl, h, Touch.refl _ _⟩
end Go.Proofs.Ytaofkedcdeocjaa
