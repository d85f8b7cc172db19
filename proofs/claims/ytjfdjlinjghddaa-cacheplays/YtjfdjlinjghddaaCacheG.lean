/-
  Two rows of numbers held against each other; the document's example of chapter 4.
-/
import Derived.Test.YtjfdjlinjghddaaCacheF
namespace Go.Proofs.Ytjfdjlinjghddaa
open Go.ChangeShapes Go.WideShapes Go.ChangeAt Go.RowKit

/-- A slice of n numbers, whatever it lies in. -/
def Ints (w : World) (a : Option Addr) (n : Nat) (f : Nat → Int) : Prop :=
  n = 0 ∨ ∃ b o, a = some ⟨b, o, none⟩ ∧ b < w.heap.size ∧ ∀ i, i < n → w.cell? ⟨b, o + i, none⟩ = some (.int .i64 (f i))
theorem Ints.none (w : World) (f : Nat → Int) : Ints w none 0 f := Or.inl rfl
theorem Ints.of {w : World} {b n : Nat} {f : Nat → Int} (h : rowHas w b 3 n (fun i => .int .i64 (f i))) : Ints w (some ⟨b, 0, Option.none⟩) n f :=
  Or.inr ⟨b, 0, rfl, h.lt, fun i hi => by rw [Nat.zero_add]; exact h.cell hi⟩
theorem Ints.congr {w : World} {a : Option Addr} {n : Nat} {f g : Nat → Int} (h : Ints w a n f) (e : ∀ i, i < n → f i = g i) : Ints w a n g := by
  rcases h with h | ⟨b, o, h1, h2, h3⟩
  · exact Or.inl h
  · exact Or.inr ⟨b, o, h1, h2, fun i hi => by rw [← e i hi]; exact h3 i hi⟩

set_option maxHeartbeats 1000000 in
theorem isame_yes {w : World} {a a' : Option Addr} {n k k' : Nat} {f g : Nat → Int} (h : Ints w a n f) (h' : Ints w a' n g) (hn : n ≤ 1099511627776) (e : ∀ i, i < n → f i = g i) :
    Calls Try.prog 13 #[.slice a n k, .slice a' n k'] w fun e w' => e = .returned (.bool true) ∧ ∃ m, w' = w.drewN m := by
  go_enter Try.func13, Try.ntmps13
  go_wp2
  go_loopw [5] (fun v wr => ∃ j : Nat, j ≤ n ∧ v = .int .i64 j ∧ ∃ m, wr = w.drewN m) (fun v _ => n - (intOf v).toNat)
  case atStart => exact ⟨0, by omega, rfl, 0, rfl⟩
  case round =>
    obtain ⟨j, hj, rfl, m, rfl⟩ := hrel
    by_cases hlt : j < n
    · have j1 : (j : Int) < n := by omega
      rcases h with h | ⟨b, o, rfl, hb, hc⟩
      · omega
      rcases h' with h' | ⟨b', o', rfl, hb', hc'⟩
      · omega
      have q1 := hc j hlt
      have q2 := hc' j hlt
      rw [← e j hlt] at q2
      go_wp2
      go_quiet (fail)
      go_wp2
      go_roundw
      case rel => exact ⟨j + 1, by omega, by go_num, _, rfl⟩
      case measure => simp [intOf]; omega
    · have hjn : j = n := by omega
      subst hjn
      go_wp2
      go_ret
      exact ⟨rfl, m, rfl⟩

theorem cnear_t {w : World} {b lo hi : Nat} {q : CQ} (h : CAt w b lo hi q) (u x : Int) (hx : x < 9223372036854775808) :
    Calls Try.prog 15 #[.pointer (some ⟨b, 0, none⟩), .int .i64 u, .int .i64 x] w fun e w' => e = .returned (.bool (q.near u x)) ∧ Touch Nil w w' :=
  (cnear_any h u x hx).mono fun _ _ ⟨h1, m, h2⟩ => ⟨h1, h2 ▸ (Touch.refl Nil w).drews m⟩
theorem isame_t {w : World} {a a' : Option Addr} {n k k' : Nat} {f g : Nat → Int} (h : Ints w a n f) (h' : Ints w a' n g) (hn : n ≤ 1099511627776) (e : ∀ i, i < n → f i = g i) :
    Calls Try.prog 13 #[.slice a n k, .slice a' n k'] w fun e w' => e = .returned (.bool true) ∧ Touch Nil w w' :=
  (isame_yes h h' hn e).mono fun _ _ ⟨h1, m, h2⟩ => ⟨h1, h2 ▸ (Touch.refl Nil w).drews m⟩

theorem many1 : CQ.many 1 = 1 := by decide
theorem many2 : CQ.many 2 = 2 := by decide

set_option maxHeartbeats 1000000 in
theorem wakes4_any (w : World) :
    Calls Try.prog 18 #[] w fun e w' => e = .returned (.bool true) ∧ Touch Nil w w' := by
  obtain ⟨q0, hq0⟩ : ∃ q, Hid (CQ.fresh (CQ.many 1) = q) := ⟨_, rfl⟩
  have e1 : q0.hasC 0 = true := by rw [← hq0.out]; rfl
  have e2 : tg (q0.F 0) 2 7 = -1 := by rw [← hq0.out]; rfl
  have e3 : q0.may 0 5 = true := by rw [← hq0.out]; rfl
  have e4 : (q0.touch 0 5).near 0 5 = true := by rw [← hq0.out]; decide
  go_enter Try.func18, Try.ntmps18
  go_wp2_with (first
    | (go_at_call 9; refine (cnew_any _ _).mono ?_; rintro e w1 ⟨rfl, hC, hT⟩; rw [hq0.out] at hC; have hz := Nat.le_refl w.heap.size; generalize w.heap.size + 4 = b at hC; generalize w1.heap.size = hi at hC)
    | (go_at_call 11; refine (ctags_yes hC _ e1).mono ?_; rintro e w2 ⟨c2, cap2, rfl, g2, r2, t2, _, _⟩; replace hC := hC.touch t2 (fun _ _ _ e => e); replace hT := hT.trans t2; have x2 := r2.cell (i := 7) (by omega))
    | (go_at_call 12; refine (cshared_any hC).mono ?_; rintro e w3 ⟨c3, cap3, rfl, g3, r3, t3, _, _⟩; replace hC := hC.touch t3 (fun _ _ _ e => e); replace hT := hT.trans t3)
    | (go_at_call 10; refine (ctouch_any hC _ _ (by omega)).mono ?_; rintro e w4 ⟨hx4, hC4, t4⟩; subst hx4; replace hT := hT.transNew t4 (fun i h e => by omega))
    | (go_at_call 15; refine (cnear_any hC4 _ _ (by omega)).mono ?_; rintro e w5 ⟨rfl, m5, rfl⟩))
  go_ret
  exact ⟨rfl, hT.drews _⟩
end Go.Proofs.Ytjfdjlinjghddaa
