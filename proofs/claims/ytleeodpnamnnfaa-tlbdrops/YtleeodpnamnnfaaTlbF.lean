/-
  What is dropped, forgotten, put, told, cloned.
-/
import Derived.Test.YtleeodpnamnnfaaTlbE
namespace Go.Proofs.Ytleeodpnamnnfaa
open Go.ChangeShapes Go.WideShapes Go.ChangeAt Go.RowKit

theorem rowIs_put1 {w : World} {b : Nat} {t : TypeId} {f : Nat → Value} (h : w.rowIs b t 1 f) (v : Value) : (w.setCell ⟨b, 0, none⟩ v).rowIs b t 1 (fun _ => v) :=
  (h.set 0 v).congr fun i hi => by have : i = 0 := by omega
                                   subst this; simp
theorem TAt.store {w : World} {b k cap : Nat} {f : Nat → Value} {l : List It} (h : w.rowIs b 52 1 f) (hL : LRow 26 w k 0 cap l) (h8 : l.length ≤ 8) : TAt (w.setCell ⟨b, 0, none⟩ (.slice (some ⟨k, 0, none⟩) l.length cap)) b (some k) l := by
  obtain ⟨n, f', h3⟩ := hL.rowHas0
  have hne : b ≠ k := rowIs_ne h h3 (by decide)
  refine ⟨h8, Or.inr ⟨k, cap, rfl, rowIs_put1 h _, hL.touch ((Touch.refl (· = b) w).setCell (p := ⟨b, 0, none⟩) rfl _) (fun e => hne e.symm)⟩⟩
theorem TAt.storeNil {w : World} {b : Nat} {f : Nat → Value} (h : w.rowIs b 52 1 f) : TAt (w.setCell ⟨b, 0, none⟩ (.slice none 0 0)) b none [] :=
  ⟨by simp, Or.inl ⟨rfl, rfl, rowIs_put1 h _⟩⟩

set_option maxHeartbeats 1000000 in
theorem tdrop_any {w : World} {b : Nat} {g : Option Nat} {l : List It} (h : TAt w b g l) (fn : Nat) (lb : Array Value) (p : It → Bool) (eg : ∀ args w, (callFunc fn args).run Try.prog w = .ok (.enter fn args) w) (hp : PredT fn lb p (fun k => g = some k) w) :
    Calls Try.prog 30 #[.pointer (some ⟨b, 0, none⟩), .func (.func fn) #[] lb] w fun e w' => e = .returned (.tuple #[]) ∧ TAt w' b g (drops p l) ∧ Touch (own b g) w w' := by
  obtain ⟨h0, ⟨rfl, rfl, h⟩ | ⟨k, cap, rfl, h, h2⟩⟩ := h
  · have c0 := h.cell (i := 0) (by omega)
    have f0 := h.frozen 0
    go_enter Try.func30, Try.ntmps30
    go_wp2_with (go_at_call 35; refine (deletef_nil _).mono ?_; rintro e w1 ⟨rfl, rfl⟩)
    go_end0
    exact ⟨rfl, TAt.storeNil h, (Touch.refl (own b none) w).setCell (p := ⟨b, 0, none⟩) (Or.inl rfl) _⟩
  · have c0 := h.cell (i := 0) (by omega)
    have hne : b ≠ k := by obtain ⟨n, f', h3⟩ := h2.rowHas0; exact rowIs_ne h h3 (by decide)
    have hdel := deletef_row h2 (by omega) fn lb p eg (hp.mono fun j hj => by rw [hj])
    have hdl := drops_len p l
    go_enter Try.func30, Try.ntmps30
    go_wp2_with (go_at_call 35; refine hdel.mono ?_; rintro e w1 ⟨rfl, hL, hT⟩; have hb1 := hT.row h hne; have c1 := hb1.cell (i := 0) (by omega); have f1 := hb1.frozen 0)
    go_end0
    exact ⟨rfl, TAt.store hb1 hL (by omega), (hT.mono (S' := own b (some k)) fun j _ e => Or.inr (by rw [e])).setCell (p := ⟨b, 0, none⟩) (Or.inl rfl) _⟩

set_option maxHeartbeats 1000000 in
theorem tdropPage_any {w : World} {b : Nat} {g : Option Nat} {l : List It} (h : TAt w b g l) (pcid page : Int) :
    Calls Try.prog 13 #[.pointer (some ⟨b, 0, none⟩), .int .i64 pcid, .int .i64 page] w fun e w' => e = .returned (.tuple #[]) ∧ TAt w' b g (dropPage pcid page l) ∧ Touch (own b g) w w' := by
  have hT : Touch Nil w ((w.alloc (.cells #[.int .i64 pcid] 3)).alloc (.cells #[.int .i64 page] 3)) := ((Touch.refl Nil w).alloc _).alloc _
  have hg := h.glt
  have hp := pred_page (w := (w.alloc (.cells #[.int .i64 pcid] 3)).alloc (.cells #[.int .i64 page] 3)) (pcid := pcid) (page := page) (B := w.heap.size) (C := w.heap.size + 1) (S := fun k => g = some k) (by simp) (by simp) (fun e => by have := hg _ e; omega) (fun e => by have := hg _ e; omega)
  have hd := tdrop_any (h.nil hT) _ _ _ enter_page hp
  clear hp
  go_enter Try.func13, Try.ntmps13
  go_wp2_with (go_at_call 30; refine hd.mono ?_; rintro e w1 ⟨rfl, hA, hT1⟩)
  go_end0
  exact ⟨rfl, hA, (hT.mono (by simp [Nil])).trans hT1⟩

set_option maxHeartbeats 1000000 in
theorem tdropName_any {w : World} {b : Nat} {g : Option Nat} {l : List It} (h : TAt w b g l) (pcid : Int) :
    Calls Try.prog 12 #[.pointer (some ⟨b, 0, none⟩), .int .i64 pcid] w fun e w' => e = .returned (.tuple #[]) ∧ TAt w' b g (dropName pcid l) ∧ Touch (own b g) w w' := by
  have hT : Touch Nil w (w.alloc (.cells #[.int .i64 pcid] 3)) := (Touch.refl Nil w).alloc _
  have hg := h.glt
  have hp := pred_name (w := w.alloc (.cells #[.int .i64 pcid] 3)) (pcid := pcid) (B := w.heap.size) (S := fun k => g = some k) (by simp) (fun e => by have := hg _ e; omega)
  have hd := tdrop_any (h.nil hT) _ _ _ enter_name hp
  clear hp
  go_enter Try.func12, Try.ntmps12
  go_wp2_with (go_at_call 30; refine hd.mono ?_; rintro e w1 ⟨rfl, hA, hT1⟩)
  go_end0
  exact ⟨rfl, hA, (hT.mono (by simp [Nil])).trans hT1⟩

theorem tdropAll_any {w : World} {b : Nat} {g : Option Nat} {l : List It} (h : TAt w b g l) :
    Calls Try.prog 22 #[.pointer (some ⟨b, 0, none⟩)] w fun e w' => e = .returned (.tuple #[]) ∧ TAt w' b none [] ∧ Touch (own b g) w w' := by
  obtain ⟨f, h⟩ : ∃ f, w.rowIs b 52 1 f := by
    obtain ⟨_, ⟨_, _, h⟩ | ⟨k, cap, _, h, _⟩⟩ := h
    · exact ⟨_, h⟩
    · exact ⟨_, h⟩
  have c0 := h.cell (i := 0) (by omega)
  have f0 := h.frozen 0
  go_enter Try.func22, Try.ntmps22
  go_wp2
  go_end0
  exact ⟨rfl, TAt.storeNil h, (Touch.refl (own b g) w).setCell (p := ⟨b, 0, none⟩) (Or.inl rfl) _⟩

/-- Whether there is an n-th, and what stays. -/
def hasN (n : Int) (l : List It) : Bool := decide (0 ≤ n) && decide (n < l.length)
def forgetI (n : Int) (l : List It) : List It := if hasN n l = true then forget n.toNat l else l
theorem hasN_iff (n : Int) (l : List It) : hasN n l = true ↔ 0 ≤ n ∧ n < l.length := by simp [hasN]

set_option maxHeartbeats 1000000 in
theorem tforget_row {w : World} {b k cap : Nat} {l : List It} (h : w.rowIs b 52 1 (fun _ => .slice (some ⟨k, 0, none⟩) l.length cap)) (h2 : LRow 26 w k 0 cap l) (h9 : l.length ≤ 9) (n : Int) (hn : 0 ≤ n ∧ n < l.length) :
    Calls Try.prog 15 #[.pointer (some ⟨b, 0, none⟩), .int .i64 n] w fun e w' => e = .returned (.bool true) ∧ TAt w' b (some k) (forget n.toNat l) ∧ Touch (own b (some k)) w w' := by
  obtain ⟨i, rfl⟩ := Int.eq_ofNat_of_zero_le hn.1
  have hi : i < l.length := by omega
  have hi' : (i : Int) < (l.length : Int) := hn.2
  have hi2 : ¬ ((l.length : Int) ≤ (i : Int)) := by omega
  have hlen : Hid ((forget i l).length = l.length - 1) := forget_len i l hi
  have c0 := h.cell (i := 0) (by omega)
  have hne : b ≠ k := by obtain ⟨n, f', h3⟩ := h2.rowHas0; exact rowIs_ne h h3 (by decide)
  have hdel := delete_row h2 h9 i hi
  have i4 : IntKind.i64.wrap ((i : Int) + 1) = (i : Int) + 1 := by rw [IntKind.wrap_i64]; omega
  rw [Int.toNat_natCast]
  go_enter Try.func15, Try.ntmps15
  go_wp2_with (go_at_call 34; refine hdel.mono ?_; rintro e w1 ⟨rfl, hL, hT⟩; have hb1 := hT.row h hne; have c1 := hb1.cell (i := 0) (by omega); have f1 := hb1.frozen 0)
  go_ret
  rw [← hlen.out]
  exact ⟨rfl, TAt.store hb1 hL (by have := hlen.out; omega), (hT.mono (S' := own b (some k)) fun j _ e => Or.inr (by rw [e])).setCell (p := ⟨b, 0, none⟩) (Or.inl rfl) _⟩

set_option maxHeartbeats 1000000 in
theorem tforget_any {w : World} {b : Nat} {g : Option Nat} {l : List It} (h : TAt w b g l) (n : Int) :
    Calls Try.prog 15 #[.pointer (some ⟨b, 0, none⟩), .int .i64 n] w fun e w' => e = .returned (.bool (hasN n l)) ∧ TAt w' b g (forgetI n l) ∧ Touch (own b g) w w' := by
  unfold forgetI
  cases hh : hasN n l
  · have hno : ¬ (0 ≤ n ∧ n < l.length) := fun e => by rw [(hasN_iff n l).2 e] at hh; cases hh
    rw [if_neg (by simp)]
    have hsl : ∃ a cap, w.cell? ⟨b, 0, none⟩ = some (.slice a l.length cap) := by
      obtain ⟨_, ⟨_, rfl, h⟩ | ⟨k, cap, _, h, _⟩⟩ := h
      · exact ⟨_, _, h.cell (i := 0) (by omega)⟩
      · exact ⟨_, _, h.cell (i := 0) (by omega)⟩
    obtain ⟨a, cap, c0⟩ := hsl
    by_cases hn : n < 0
    · go_enter Try.func15, Try.ntmps15
      go_wp2
      go_ret
      exact ⟨rfl, h, Touch.refl _ _⟩
    · have hn2 : (l.length : Int) ≤ n := by omega
      go_enter Try.func15, Try.ntmps15
      go_wp2
      go_ret
      exact ⟨rfl, h, Touch.refl _ _⟩
  · have hn := (hasN_iff n l).1 hh
    rw [if_pos rfl]
    obtain ⟨h0, ⟨rfl, rfl, h⟩ | ⟨k, cap, rfl, h, h2⟩⟩ := h
    · simp at hn; omega
    · exact tforget_row h h2 (by omega) n hn
end Go.Proofs.Ytleeodpnamnnfaa
