/-
  Package area: pages' rights as a plain function (-1: not there); a row counted, filled; a new one.
-/
import Derived.Test.YtcjfdgkhlidakaaKeep
import Derived.Test.YtcjfdgkhlidakaaCore
import Derived.Test.YtcjfdgkhlidakaaRows3
import Derived.Lib.SlFresh
import Derived.Deep.MidRow
import Derived.Deep.LoopGhost
import Derived.BigQuiet
import Derived.Deep.CutBlock
import Derived.Deep.DeepCutAuto
import Derived.Deep.QuietTactic
namespace Go.Proofs.Ytcjfdgkhlidakaa
open Go.ChangeShapes Go.WideShapes Go.ChangeAt Go.RowKit

/-- What Rights tells of a page. -/
def rt (R : Nat → Int) (k : Nat) : Int := if R k < 0 then 0 else R k
def acell (R : Nat → Int) (i : Nat) : Value := if i % 2 = 0 then .bool (decide (0 ≤ R (i / 2))) else .int .i64 (rt R (i / 2))
theorem acell_has (R : Nat → Int) (k : Nat) : acell R (k * 2) = .bool (decide (0 ≤ R k)) := by
  unfold acell; rw [if_pos (by omega), show k * 2 / 2 = k by omega]
theorem acell_rt (R : Nat → Int) (k : Nat) : acell R (k * 2 + 1) = .int .i64 (rt R k) := by
  unfold acell; rw [if_neg (by omega), show (k * 2 + 1) / 2 = k by omega]
/-- The program's areas. -/
def AAt (w : World) (b : Nat) (R : Nat → Int) : Prop := w.rowIs b 40 512 (acell R)
/-- The document's. -/
def RAt (w : World) (b : Nat) (R : Nat → Int) : Prop := w.rowIs b 43 256 (fun i => .int .i64 (R i))
namespace AAt
variable {w w' : World} {b : Nat} {R R' : Nat → Int}
theorem hasC (h : AAt w b R) {k : Nat} (hk : k < 256) : w.cell? ⟨b, k * 2, none⟩ = some (.bool (decide (0 ≤ R k))) := by
  rw [World.rowIs.cell h (i := k * 2) (by omega), acell_has]
theorem rtC (h : AAt w b R) {k : Nat} (hk : k < 256) : w.cell? ⟨b, k * 2 + 1, none⟩ = some (.int .i64 (rt R k)) := by
  rw [World.rowIs.cell h (i := k * 2 + 1) (by omega), acell_rt]
theorem touch {S : Nat → Prop} (h : AAt w b R) (t : Touch S w w') (hs : ¬ S b) : AAt w' b R := t.row h hs
theorem lt (h : AAt w b R) : b < w.heap.size := World.rowIs.lt h
theorem eq (h : AAt w b R) (e : ∀ k, k < 256 → R k = R' k) : AAt w b R' :=
  World.rowIs.congr h fun i hi => by unfold acell rt; rw [e (i / 2) (by omega)]
end AAt
namespace RAt
variable {w w' : World} {b : Nat} {R R' : Nat → Int}
theorem cel (h : RAt w b R) {k : Nat} (hk : k < 256) : w.cell? ⟨b, k, none⟩ = some (.int .i64 (R k)) := World.rowIs.cell h hk
theorem touch {S : Nat → Prop} (h : RAt w b R) (t : Touch S w w') (hs : ¬ S b) : RAt w' b R := t.row h hs
theorem lt (h : RAt w b R) : b < w.heap.size := World.rowIs.lt h
theorem eq (h : RAt w b R) (e : ∀ k, k < 256 → R k = R' k) : RAt w b R' :=
  World.rowIs.congr h fun i hi => by rw [e i hi]
end RAt
def noA : Nat → Int := fun _ => -1
/-- Pages f .. f + n - 1 are given r. -/
def setA (R : Nat → Int) (f n : Nat) (r : Int) : Nat → Int := fun k => if f ≤ k ∧ k < f + n then r else R k
def cntA (R : Nat → Int) (f : Nat) : Nat → Nat
  | 0 => 0
  | n + 1 => cntA R f n + if 0 ≤ R (f + n) then 1 else 0
theorem cntA_le (R : Nat → Int) (f n : Nat) : cntA R f n ≤ n := by
  induction n with
  | zero => exact Nat.le_refl _
  | succ n ih => unfold cntA; split <;> omega
theorem cntA_zero (R : Nat → Int) (f n : Nat) : cntA R f n = 0 ↔ ∀ k, k < n → R (f + k) < 0 := by
  induction n with
  | zero => simp [cntA]
  | succ n ih =>
    unfold cntA
    constructor
    · intro h k hk
      by_cases e : k = n
      · subst e
        by_cases q : 0 ≤ R (f + k)
        · rw [if_pos q] at h; omega
        · omega
      · exact ih.1 (by omega) k (by omega)
    · intro h
      rw [ih.2 (fun k hk => h k (by omega)), if_neg (by have := h n (by omega); omega)]
theorem cntA_all (R : Nat → Int) (f n : Nat) : cntA R f n = n ↔ ∀ k, k < n → 0 ≤ R (f + k) := by
  induction n with
  | zero => simp [cntA]
  | succ n ih =>
    have hl := cntA_le R f n
    unfold cntA
    constructor
    · intro h k hk
      by_cases q : 0 ≤ R (f + n)
      · rw [if_pos q] at h
        by_cases e : k = n
        · subst e; exact q
        · exact ih.1 (by omega) k (by omega)
      · rw [if_neg q] at h; omega
    · intro h
      rw [ih.2 (fun k hk => h k (by omega)), if_pos (h n (by omega))]

def rowP (f n : Int) : Bool := decide (0 ≤ f) && (decide (1 ≤ n) && decide (n ≤ 256 - f))
def riP (r : Int) : Bool := (r == 0) || ((r == 1) || (r == 3))
set_option maxHeartbeats 400000 in
theorem isRow_any (f n : Int) (w : World) (hf : f ≤ 9223372036854775807) :
    Calls Try.prog 18 #[.int .i64 f, .int .i64 n] w fun e w' => e = .returned (.bool (rowP f n)) ∧ w = w' := by
  unfold rowP
  go_enter Try.func18, Try.ntmps18
  cases h1 : decide (0 ≤ f) with
  | false =>
    go_wp2_with fail
    go_ret
    exact ⟨by simp, rfl⟩
  | true =>
    cases h2 : decide (1 ≤ n) with
    | false =>
      go_wp2_with fail
      go_ret
      exact ⟨by simp, rfl⟩
    | true =>
      have h1' : 0 ≤ f := by simpa using h1
      have hw : IntKind.i64.wrap (256 - f) = 256 - f := by rw [IntKind.wrap_i64]; omega
      go_wp2_with fail
      go_ret
      exact ⟨by simp, rfl⟩
set_option maxHeartbeats 400000 in
theorem areRights_any (r : Int) (w : World) :
    Calls Try.prog 19 #[.int .i64 r] w fun e w' => e = .returned (.bool (riP r)) ∧ w = w' := by
  unfold riP
  go_enter Try.func19, Try.ntmps19
  cases h1 : (r == 0) with
  | true =>
    go_wp2_with fail
    go_ret
    exact ⟨by simp, rfl⟩
  | false =>
    cases h2 : (r == 1) with
    | true =>
      go_wp2_with fail
      go_ret
      exact ⟨by simp, rfl⟩
    | false =>
      cases h3 : (r == 3) <;>
      · go_wp2_with fail
        go_ret
        exact ⟨by simp, rfl⟩
set_option maxHeartbeats 1000000 in
theorem countThere_any {w : World} {b : Nat} {R : Nat → Int} (h : AAt w b R) (o f n cap : Nat) (ho : o = f * 2) (hfn : f + n ≤ 256) :
    Calls Try.prog 20 #[.slice (some ⟨b, o, none⟩) n cap] w fun e w' => e = .returned (.int .i64 (cntA R f n)) ∧ Touch Nil w w' := by
  subst ho
  go_enter Try.func20, Try.ntmps20
  go_wp2_with fail
  go_loopg [3, 5, 8] n (fun g c u i wr => ∃ k : Nat, g + k = n ∧ c = .int .i64 (cntA R f k) ∧ i = .int .i64 k ∧ Aside (Touch Nil w wr))
  case atStart => exact ⟨0, by omega, rfl, rfl, Touch.refl _ w⟩
  case round =>
    obtain ⟨k, hgk, rfl, rfl, tk⟩ := hrel
    by_cases hk : k < n
    · have k1 : (k : Int) < n := by omega
      have hAk := h.touch tk.out (by simp [Nil])
      have c1 := hAk.hasC (k := f + k) (by omega)
      have c2 := hAk.rtC (k := f + k) (by omega)
      have e0 : (f + k) * 2 = f * 2 + k * 2 := by omega
      rw [e0] at c1 c2
      have hc := cntA_le R f k
      obtain ⟨x, hx⟩ : ∃ x : Nat, Hid (cntA R f k = x) := ⟨_, rfl⟩
      rw [hx.out] at hc
      rw [hx.out]
      generalize rt R (f + k) = r at c2
      cases hd : decide (0 ≤ R (f + k))
      · rw [hd] at c1
        have hn : cntA R f (k + 1) = x := by unfold cntA; rw [if_neg (by simpa using hd), hx.out]; rfl
        go_wp2_with fail
        go_roundg (n - (k + 1))
        case measure => omega
        case rel => exact ⟨k + 1, by omega, by rw [hn], by go_num, tk.out.alloc _⟩
      · rw [hd] at c1
        have hn : cntA R f (k + 1) = x + 1 := by unfold cntA; rw [if_pos (by simpa using hd), hx.out]
        go_wp2_with fail
        go_roundg (n - (k + 1))
        case measure => omega
        case rel => exact ⟨k + 1, by omega, by rw [hn]; go_num, by go_num, tk.out.alloc _⟩
    · have e : k = n := by omega
      subst e
      go_wp2_with fail
      go_ret
      exact ⟨rfl, tk.out⟩
/-- What a page is given: there or not, with its rights. -/
def useV (r : Int) : Value := .agg #[.bool (decide (0 ≤ r)), .int .i64 (if r < 0 then 0 else r)]
theorem setA_zero (R : Nat → Int) (f : Nat) (r : Int) : setA R f 0 r = R := by
  funext k; unfold setA; rw [if_neg (by omega)]
theorem setA_cell (R : Nat → Int) (f k : Nat) (r : Int) (i : Nat) :
    acell (setA R f (k + 1) r) i = if i = f * 2 + k * 2 + 1 then .int .i64 (if r < 0 then 0 else r) else if i = f * 2 + k * 2 then .bool (decide (0 ≤ r)) else acell (setA R f k r) i := by
  by_cases h1 : i = f * 2 + k * 2 + 1
  · rw [if_pos h1, h1, show f * 2 + k * 2 + 1 = (f + k) * 2 + 1 by omega, acell_rt]
    unfold rt setA
    rw [if_pos (⟨by omega, by omega⟩ : f ≤ f + k ∧ f + k < f + (k + 1))]
  · rw [if_neg h1]
    by_cases h2 : i = f * 2 + k * 2
    · rw [if_pos h2, h2, show f * 2 + k * 2 = (f + k) * 2 by omega, acell_has]
      unfold setA
      rw [if_pos (⟨by omega, by omega⟩ : f ≤ f + k ∧ f + k < f + (k + 1))]
    · rw [if_neg h2]
      have e : setA R f (k + 1) r (i / 2) = setA R f k r (i / 2) := by
        unfold setA
        by_cases q : f ≤ i / 2 ∧ i / 2 < f + k
        · rw [if_pos q, if_pos ⟨q.1, by omega⟩]
        · rw [if_neg q, if_neg (by omega)]
      unfold acell rt
      rw [e]
theorem AAt.put {w : World} {b : Nat} {R : Nat → Int} {f k : Nat} {r : Int} (h : AAt w b (setA R f k r)) :
    AAt ((w.setCell ⟨b, f * 2 + k * 2, none⟩ (.bool (decide (0 ≤ r)))).setCell ⟨b, f * 2 + k * 2 + 1, none⟩ (.int .i64 (if r < 0 then 0 else r))) b (setA R f (k + 1) r) :=
  World.rowIs.congr (World.rowIs.set (World.rowIs.set h (f * 2 + k * 2) _) (f * 2 + k * 2 + 1) _) fun i hi => by rw [setA_cell]
set_option maxHeartbeats 1000000 in
theorem fill_any {w : World} {b : Nat} {R : Nat → Int} (h : AAt w b R) (o f n cap : Nat) (ho : o = f * 2) (hfn : f + n ≤ 256) (r : Int) :
    Calls Try.prog 21 #[.slice (some ⟨b, o, none⟩) n cap, useV r] w fun e w' => e = .returned (.tuple #[]) ∧ AAt w' b (setA R f n r) ∧ Touch (· = b) w w' := by
  subst ho
  have hlt := h.lt
  unfold useV
  obtain ⟨u, hu⟩ : ∃ u, Hid (decide (0 ≤ r) = u) := ⟨_, rfl⟩
  obtain ⟨v, hv⟩ : ∃ v, Hid ((if r < 0 then 0 else r) = v) := ⟨_, rfl⟩
  rw [hu.out, hv.out]
  go_enter Try.func21, Try.ntmps21
  have hb := heap_alloc_new w (.cells #[.bool u, .int .i64 v] 37)
  go_wp2_with fail
  go_loopg [4, 7] n (fun g c i wr => ∃ k : Nat, g + k = n ∧ i = .int .i64 k ∧ Aside (AAt wr b (setA R f k r)) ∧ Aside (Touch (· = b) w wr) ∧ wr.cell? ⟨w.heap.size, 0, none⟩ = some (.bool u) ∧ wr.cell? ⟨w.heap.size, 1, none⟩ = some (.int .i64 v))
  case atStart =>
    refine ⟨0, by omega, rfl, (World.rowIs.alloc h _).congr fun i _ => ?_, (Touch.refl _ w).alloc _, by unfold World.cell?; rw [hb]; rfl, by unfold World.cell?; rw [hb]; rfl⟩
    rw [setA_zero]
  case round =>
    obtain ⟨k, hgk, rfl, hA, tk, c0, c1⟩ := hrel
    by_cases hk : k < n
    · have k1 : (k : Int) < n := by omega
      have d1 := hA.out.hasC (k := f + k) (by omega)
      have d2 := hA.out.rtC (k := f + k) (by omega)
      have z1 := World.rowIs.frozen hA.out (f * 2 + k * 2)
      have z2 := World.rowIs.frozen hA.out (f * 2 + k * 2 + 1)
      have e0 : (f + k) * 2 = f * 2 + k * 2 := by omega
      rw [e0] at d1 d2
      have hne : w.heap.size ≠ b := by omega
      have hput : Aside (AAt ((wr.setCell ⟨b, f * 2 + k * 2, none⟩ (.bool (decide (0 ≤ r)))).setCell ⟨b, f * 2 + k * 2 + 1, none⟩ (.int .i64 (if r < 0 then 0 else r))) b (setA R f (k + 1) r)) := hA.out.put
      rw [hu.out, hv.out] at hput
      go_wp2_with fail
      go_roundg (n - (k + 1))
      case measure => omega
      case rel => exact ⟨k + 1, by omega, by go_num, hput, (tk.out.setCell (p := ⟨b, _, none⟩) rfl _).setCell (p := ⟨b, _, none⟩) rfl _, by simp [World.cell?_setCell_other, c0], by simp [World.cell?_setCell_other, c1]⟩
    · have e : k = n := by omega
      subst e
      go_wp2_with fail
      go_end0
      exact ⟨rfl, hA.out, tk.out⟩
end Go.Proofs.Ytcjfdgkhlidakaa
