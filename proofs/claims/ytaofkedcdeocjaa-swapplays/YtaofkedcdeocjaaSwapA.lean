/-
  Package swap: pages that are out, as plain functions; what is asked of them.
-/
import Derived.Test.YtaofkedcdeocjaaMemC
import Derived.Test.YtaofkedcdeocjaaMemF
import Derived.Test.YtaofkedcdeocjaaRows3
import Derived.Deep.LoopGhost
import Derived.Deep.DeepCutAuto
import Derived.Deep.CutBlock
namespace Go.Proofs.Ytaofkedcdeocjaa
open Go.ChangeShapes Go.WideShapes Go.ChangeAt Go.RowKit

/-- Slots: which are had, their words. -/
structure QS where
  U : Nat → Bool
  W : Nat → Nat → Int
namespace QS
def cell (q : QS) (i : Nat) : Value := if i % 9 = 0 then .bool (q.U (i / 9)) else .int .u64 (q.W (i / 9) (i % 9 - 1))
def fresh : QS := ⟨fun _ => false, fun _ _ => 0⟩
def isOut (q : QS) (k : Int) : Bool := decide (1 ≤ k) && decide (k < 8) && q.U k.toNat
/-- Of the slots 1 to k how many are free. -/
def cnt (U : Nat → Bool) : Nat → Nat
  | 0 => 0
  | k + 1 => cnt U k + if U (k + 1) = true then 0 else 1
def left (q : QS) : Nat := cnt q.U 7
def put (q : QS) (k : Nat) (g : Nat → Int) : QS := ⟨fun i => if i = k then true else q.U i, fun i => if i = k then g else q.W i⟩
def del (q : QS) (k : Nat) : QS := ⟨fun i => if i = k then false else q.U i, fun i => if i = k then fun _ => 0 else q.W i⟩
theorem cell_out (q : QS) (k : Nat) : q.cell (k * 9) = .bool (q.U k) := by
  unfold cell; rw [if_pos (by omega), show k * 9 / 9 = k by omega]
theorem cell_word (q : QS) (k o : Nat) (h : o < 8) : q.cell (k * 9 + (o + 1)) = .int .u64 (q.W k o) := by
  unfold cell; rw [if_neg (by omega), show (k * 9 + (o + 1)) / 9 = k by omega, show (k * 9 + (o + 1)) % 9 - 1 = o by omega]
theorem isOut_iff (q : QS) (k : Int) : q.isOut k = true ↔ 1 ≤ k ∧ k < 8 ∧ q.U k.toNat = true := by simp [isOut, and_assoc]
/-- The least slot that is free. -/
structure Free (q : QS) (f : Nat) : Prop where
  lo : 1 ≤ f
  hi : f < 8
  free : q.U f = false
  less : ∀ g, 1 ≤ g → g < f → q.U g = true
def Full (q : QS) : Prop := ∀ g, 1 ≤ g → g < 8 → q.U g = true
theorem free_or (q : QS) : (∃ f, q.Free f) ∨ q.Full := by
  have : ∀ k, k ≤ 7 → (∃ f, q.Free f) ∨ ∀ g, 1 ≤ g → g ≤ k → q.U g = true := by
    intro k
    induction k with
    | zero => intro _; exact Or.inr fun g h1 h2 => by omega
    | succ k ih =>
      intro hk
      rcases ih (by omega) with h | h
      · exact Or.inl h
      · cases e : q.U (k + 1)
        · exact Or.inl ⟨k + 1, by omega, by omega, e, fun g h1 h2 => h g h1 (by omega)⟩
        · refine Or.inr fun g h1 h2 => ?_
          by_cases e2 : g = k + 1
          · rw [e2]; exact e
          · exact h g h1 (by omega)
  rcases this 7 (by omega) with h | h
  · exact Or.inl h
  · exact Or.inr fun g h1 h2 => h g h1 (by omega)
end QS

/-- The slots in block b. -/
def QAt (w : World) (b : Nat) (q : QS) : Prop := w.rowIs b 129 72 q.cell
namespace QAt
variable {w w' : World} {b : Nat} {q : QS}
theorem touch {S : Nat → Prop} (h : QAt w b q) (t : Touch S w w') (hs : ¬ S b) : QAt w' b q := t.row h hs
theorem drew (h : QAt w b q) : QAt w.drew b q := h
theorem drewN (h : QAt w b q) (n : Nat) : QAt (w.drewN n) b q := h
theorem outC (h : QAt w b q) {k : Nat} (hk : k < 8) : w.cell? ⟨b, k * 9, none⟩ = some (.bool (q.U k)) := by
  rw [World.rowIs.cell h (i := k * 9) (by omega), q.cell_out]
theorem wordC (h : QAt w b q) {k o : Nat} (hk : k < 8) (ho : o < 8) : w.cell? ⟨b, k * 9 + (o + 1), none⟩ = some (.int .u64 (q.W k o)) := by
  rw [World.rowIs.cell h (i := k * 9 + (o + 1)) (by omega), q.cell_word _ _ ho]
theorem frozen (h : QAt w b q) (i : Nat) : w.frozen? ⟨b, i, none⟩ = false := World.rowIs.frozen h i
theorem lt (h : QAt w b q) : b < w.heap.size := World.rowIs.lt h
end QAt

set_option maxHeartbeats 400000 in
theorem swhas_any {w : World} {b c : Nat} {s : MS} (h : MemAt w b c s) (f : Int) :
    Calls Try.prog 79 #[.pointer (some ⟨b, 0, none⟩), .int .i64 f] w fun e w' => e = .returned (.bool (s.hasF f)) ∧ w = w' := by
  by_cases h1 : 0 ≤ f
  · go_enter Try.func79, Try.ntmps79
    go_wp2_with (go_at_call 51; refine (frames_any h).mono ?_; rintro e w' ⟨rfl, rfl⟩)
    go_ret
    exact ⟨ret_bool (by simp [MS.hasF, h1]), rfl⟩
  · go_enter Try.func79, Try.ntmps79
    go_wp2
    go_ret
    exact ⟨ret_bool (by rw [eq_comm, MS.hasF_no]; omega), rfl⟩

set_option maxHeartbeats 400000 in
theorem isOut_any {w : World} {b : Nat} {q : QS} (h : QAt w b q) (k : Int) :
    Calls Try.prog 81 #[.pointer (some ⟨b, 0, none⟩), .int .i64 k] w fun e w' => e = .returned (.bool (q.isOut k)) ∧ w = w' := by
  by_cases h1 : 1 ≤ k
  · by_cases h2 : k < 8
    · have hc := h.outC (k := k.toNat) (by omega)
      go_enter Try.func81, Try.ntmps81
      go_wp2
      go_ret
      exact ⟨ret_bool (by simp [QS.isOut, h1, h2]), rfl⟩
    · go_enter Try.func81, Try.ntmps81
      go_wp2
      go_ret
      exact ⟨ret_bool (by rw [eq_comm, Bool.eq_false_iff, Ne, QS.isOut_iff]; omega), rfl⟩
  · go_enter Try.func81, Try.ntmps81
    go_wp2
    go_ret
    exact ⟨ret_bool (by rw [eq_comm, Bool.eq_false_iff, Ne, QS.isOut_iff]; omega), rfl⟩

/-- Has a slot such a word? Which? -/
def QS.wok (q : QS) (k o : Int) : Bool := q.isOut k && decide (0 ≤ o) && decide (o < 8)
def QS.wd (q : QS) (k o : Int) : Int := if q.wok k o = true then q.W k.toNat o.toNat else 0
theorem QS.wok_iff (q : QS) (k o : Int) : q.wok k o = true ↔ q.isOut k = true ∧ 0 ≤ o ∧ o < 8 := by simp [QS.wok, and_assoc]
theorem QS.wok_no {q : QS} {k o : Int} (h : ¬ (q.isOut k = true ∧ 0 ≤ o ∧ o < 8)) : q.wok k o = false ∧ q.wd k o = 0 := by
  have : q.wok k o = false := by rw [Bool.eq_false_iff, Ne, QS.wok_iff]; exact h
  exact ⟨this, by unfold QS.wd; rw [this]; rfl⟩
set_option maxHeartbeats 400000 in
theorem sword_any {w : World} {b : Nat} {q : QS} (h : QAt w b q) (k o : Int) :
    Calls Try.prog 34 #[.pointer (some ⟨b, 0, none⟩), .int .i64 k, .int .i64 o] w fun e w' => e = .returned (.tuple #[.int .u64 (q.wd k o), .bool (q.wok k o)]) ∧ w = w' := by
  have hI := isOut_any h k
  cases hk : q.isOut k
  · rw [hk] at hI
    obtain ⟨e1, e2⟩ := QS.wok_no (q := q) (k := k) (o := o) (by rw [hk]; simp)
    rw [e1, e2]
    go_enter Try.func34, Try.ntmps34
    go_wp2_with (go_at_call 81; refine hI.mono ?_; rintro e w' ⟨rfl, rfl⟩)
    go_ret2
    exact ⟨rfl, rfl⟩
  · rw [hk] at hI
    obtain ⟨k1, k2, hU⟩ := (q.isOut_iff k).1 hk
    by_cases h0 : 0 ≤ o
    · by_cases h8 : o < 8
      · have hc := h.wordC (k := k.toNat) (o := o.toNat) (by omega) (by omega)
        have e1 : q.wok k o = true := (q.wok_iff k o).2 ⟨hk, h0, h8⟩
        have e2 : Hid (q.wd k o = q.W k.toNat o.toNat) := by show _ = _; unfold QS.wd; rw [e1]; rfl
        rw [e1, e2.out]
        rw [show k.toNat * 9 + (o.toNat + 1) = k.toNat * 9 + 1 + o.toNat by omega] at hc
        go_enter Try.func34, Try.ntmps34
        go_wp2_with (go_at_call 81; refine hI.mono ?_; rintro e w' ⟨rfl, rfl⟩)
        go_ret2
        exact ⟨rfl, rfl⟩
      · obtain ⟨e1, e2⟩ := QS.wok_no (q := q) (k := k) (o := o) (by omega)
        rw [e1, e2]
        go_enter Try.func34, Try.ntmps34
        go_wp2_with (go_at_call 81; refine hI.mono ?_; rintro e w' ⟨rfl, rfl⟩)
        go_ret2
        exact ⟨rfl, rfl⟩
    · obtain ⟨e1, e2⟩ := QS.wok_no (q := q) (k := k) (o := o) (by omega)
      rw [e1, e2]
      go_enter Try.func34, Try.ntmps34
      go_wp2_with (go_at_call 81; refine hI.mono ?_; rintro e w' ⟨rfl, rfl⟩)
      go_ret2
      exact ⟨rfl, rfl⟩

set_option maxHeartbeats 400000 in
theorem sleft_any {w : World} {b : Nat} {q : QS} (h : QAt w b q) :
    Calls Try.prog 36 #[.pointer (some ⟨b, 0, none⟩)] w fun e w' => e = .returned (.int .i64 q.left) ∧ w = w' := by
  go_enter Try.func36, Try.ntmps36
  go_wp2
  go_loopg [3, 4] 7 (fun g n i wr => ∃ k : Nat, g + k = 7 ∧ i = .int .i64 ((k : Int) + 1) ∧ n = .int .i64 (QS.cnt q.U k) ∧ QS.cnt q.U k ≤ k ∧ w = wr)
  case atStart => exact ⟨0, by omega, rfl, rfl, by simp [QS.cnt], rfl⟩
  case round =>
    obtain ⟨k, hgk, rfl, rfl, hle, rfl⟩ := hrel
    by_cases hk : k < 7
    · have hc := h.outC (k := k + 1) (by omega)
      have e1 : QS.cnt q.U (k + 1) = QS.cnt q.U k + if q.U (k + 1) = true then 0 else 1 := rfl
      have k1 : (k : Int) + 1 < 8 := by omega
      cases hU : q.U (k + 1)
      · rw [hU] at hc e1
        go_wp2
        go_roundg (6 - k)
        case measure => omega
        case rel => exact ⟨k + 1, by omega, by go_num, by rw [e1]; go_num, by rw [e1]; simp; omega, rfl⟩
      · rw [hU] at hc e1
        go_wp2
        go_roundg (6 - k)
        case measure => omega
        case rel => exact ⟨k + 1, by omega, by go_num, by rw [e1]; go_num, by rw [e1]; simp; omega, rfl⟩
    · have h7 : k = 7 := by omega
      subst h7
      go_wp2
      go_ret
      exact ⟨rfl, rfl⟩

set_option maxHeartbeats 400000 in
theorem free_yes {w : World} {b f : Nat} {q : QS} (h : QAt w b q) (hF : q.Free f) :
    Calls Try.prog 78 #[.pointer (some ⟨b, 0, none⟩)] w fun e w' => e = .returned (.int .i64 f) ∧ w = w' := by
  have hlo := hF.lo
  have hhi := hF.hi
  go_enter Try.func78, Try.ntmps78
  go_wp2
  go_loopg [3] 7 (fun g i wr => ∃ k : Nat, g + k = 7 ∧ k < f ∧ i = .int .i64 ((k : Int) + 1) ∧ w = wr)
  case atStart => exact ⟨0, by omega, by omega, rfl, rfl⟩
  case round =>
    obtain ⟨k, hgk, hkf, rfl, rfl⟩ := hrel
    have hc := h.outC (k := k + 1) (by omega)
    have k1 : (k : Int) + 1 < 8 := by omega
    by_cases hk : k + 1 < f
    · rw [hF.less _ (by omega) hk] at hc
      go_wp2
      go_roundg (6 - k)
      case measure => omega
      case rel => exact ⟨k + 1, by omega, by omega, by go_num, rfl⟩
    · have h7 : k + 1 = f := by omega
      rw [h7, hF.free] at hc
      have hc' : w.cell? ⟨b, (k + 1) * 9, none⟩ = some (.bool false) := by rw [h7]; exact hc
      go_wp2
      go_ret
      exact ⟨by rw [← h7]; rfl, rfl⟩

set_option maxHeartbeats 400000 in
theorem free_no {w : World} {b : Nat} {q : QS} (h : QAt w b q) (hF : q.Full) :
    Calls Try.prog 78 #[.pointer (some ⟨b, 0, none⟩)] w fun e w' => e = .returned (.int .i64 0) ∧ w = w' := by
  go_enter Try.func78, Try.ntmps78
  go_wp2
  go_loopg [3] 7 (fun g i wr => ∃ k : Nat, g + k = 7 ∧ i = .int .i64 ((k : Int) + 1) ∧ w = wr)
  case atStart => exact ⟨0, by omega, rfl, rfl⟩
  case round =>
    obtain ⟨k, hgk, rfl, rfl⟩ := hrel
    by_cases hk : k < 7
    · have hc := h.outC (k := k + 1) (by omega)
      have k1 : (k : Int) + 1 < 8 := by omega
      rw [hF _ (by omega) (by omega)] at hc
      go_wp2
      go_roundg (6 - k)
      case measure => omega
      case rel => exact ⟨k + 1, by omega, by go_num, rfl⟩
    · have h7 : k = 7 := by omega
      subst h7
      go_wp2
      go_ret
      exact ⟨rfl, rfl⟩
end Go.Proofs.Ytaofkedcdeocjaa
