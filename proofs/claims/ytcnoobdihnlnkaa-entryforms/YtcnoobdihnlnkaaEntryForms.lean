/-
  PROVED: for every number, penumbralaw01.EntryForms answers true and leaves its argument as it was. No condition.
-/
import Derived.Test.YtcnoobdihnlnkaaRows
import Derived.Test.YtcnoobdihnlnkaaFacts
import Derived.Test.YtcnoobdihnlnkaaLater
import Derived.WalkKit
import Derived.ProofKit
import Derived.OpenShut
import Derived.Below
import Derived.ShutString
namespace Go.Proofs.Ytcnoobdihnlnkaa.entryForms
open Go.ChangeShapes Go.WideShapes Go.ChangeAt Go.RowKit
open Go.ChangeMaps (open_string shut_string)
set_option linter.unusedVariables false      -- a walk need not use every 'w<i>' (that an integer argument fits its kind)

theorem own : ownKnob Try.prog.godebug = none := by kernel_rfl

theorem unpack_lit (a u g : Bool) (f X : Int) (h1 : 0 ≤ f) (h2 : f < 1099511627776) (hX : packV a u g f = X) (w : World) :
    Calls Try.prog 10 #[.int .u64 X] w fun e w' => e = .returned (.tuple #[.agg #[.bool true, .bool a, .bool u, .bool g, .int .i64 f], .int .i64 0]) ∧ w' = w.alloc (.cells #[.bool true, .bool a, .bool u, .bool g, .int .i64 f] 23) := by
  subst hX; exact unpack_pack a u g f w h1 h2
theorem pack_lit (a u g : Bool) (f X : Int) (h1 : 0 ≤ f) (h2 : f < 1099511627776) (hX : packV a u g f = X) (w : World) :
    Calls Try.prog 9 #[.agg #[.bool true, .bool a, .bool u, .bool g, .int .i64 f]] w fun e w' => e = .returned (.tuple #[.int .u64 X, .int .i64 0]) ∧ w' = w.alloc (.cells #[.bool true, .bool a, .bool u, .bool g, .int .i64 f] 23) := by
  subst hX; exact pack_ok a u g f w h1 h2
theorem absent_lit (f : Int) (inv : Bool) (X : Int) (h : absV f inv = X) (w : World) : Calls Try.prog 12 #[.int .i64 f, .bool inv] w fun e w' => e = .returned (.int .u64 X) ∧ w' = w := by
  subst h; exact absent_any f inv w
theorem of_lit (w : World) : Calls Try.prog 13 #[.int .u64 12288, .bool false] w fun e w' => e = .returned (.int .i64 3) ∧ w' = w := of_any 12288 false w (by omega) (by omega)
theorem raw_lit (w : World) : Calls Try.prog 14 #[.int .u64 16383] w fun e w' => e = .returned (.int .i64 3) ∧ w' = w := raw_any 16383 w (by omega) (by omega)
set_option maxHeartbeats 4000000 in
theorem walk (a0 : Int) (w0 : (Lit.int .i64 a0).wf = true) (w : World) :
    Calls Try.prog 3 #[.int .i64 a0] w fun e w' => e = .returned (.bool true) ∧ Below w.heap.size w w' := by
  have l1 : 0 ≤ a0 % 1000 := by omega
  have l2 : a0 % 1000 < 1000 := by omega
  go_enter Try.func3, Try.ntmps3
  go_wp2
  go_loopw [23] (fun i wr => ∃ k : Nat, k ≤ 4 ∧ i = .int .i64 k ∧ Below (w.heap.size + 1) (w.alloc (.cells #[.bool true, .bool false, .bool false, .bool false, .int .i64 0, .int .u64 1, .bool true, .bool true, .bool false, .bool false, .int .i64 2, .int .u64 8195, .bool true, .bool false, .bool true, .bool true, .int .i64 12, .int .u64 49413, .bool true, .bool true, .bool true, .bool true, .int .i64 1099511627775, .int .u64 4503599627366663] 25)) wr) (fun i _ => 4 - (intOf i).toNat)
  case atStart => exact ⟨0, by omega, rfl, Below.refl _ _⟩
  case round =>
    obtain ⟨k, hk, rfl, hb⟩ := hrel
    have hs : w.heap.size + 1 ≤ wr.heap.size := by have := hb.size; simpa using this
    have hk' : k = 0 ∨ k = 1 ∨ k = 2 ∨ k = 3 ∨ k = 4 := by omega
    rcases hk' with rfl | rfl | rfl | rfl | rfl
    · have c0 : wr.cell? ⟨w.heap.size, 0, none⟩ = some (.bool true) := (hb.cell (p := ⟨w.heap.size, 0, none⟩) (by simp)).trans (by go_simp)
      have c1 : wr.cell? ⟨w.heap.size, 1, none⟩ = some (.bool false) := (hb.cell (p := ⟨w.heap.size, 1, none⟩) (by simp)).trans (by go_simp)
      have c2 : wr.cell? ⟨w.heap.size, 2, none⟩ = some (.bool false) := (hb.cell (p := ⟨w.heap.size, 2, none⟩) (by simp)).trans (by go_simp)
      have c3 : wr.cell? ⟨w.heap.size, 3, none⟩ = some (.bool false) := (hb.cell (p := ⟨w.heap.size, 3, none⟩) (by simp)).trans (by go_simp)
      have c4 : wr.cell? ⟨w.heap.size, 4, none⟩ = some (.int .i64 0) := (hb.cell (p := ⟨w.heap.size, 4, none⟩) (by simp)).trans (by go_simp)
      have c5 : wr.cell? ⟨w.heap.size, 5, none⟩ = some (.int .u64 1) := (hb.cell (p := ⟨w.heap.size, 5, none⟩) (by simp)).trans (by go_simp)
      go_wp2_with (first
        | (go_at_call 9; refine (pack_lit false false false 0 1 (by omega) (by omega) rfl _).mono ?_; rintro e w' ⟨rfl, rfl⟩)
        | (go_at_call 10; refine (unpack_lit false false false 0 1 (by omega) (by omega) rfl _).mono ?_; rintro e w' ⟨rfl, rfl⟩))
      go_roundw
      case rel => exact ⟨1, by omega, rfl, hb.trans (by repeat (first | exact Below.refl _ _ | refine Below.alloc ?_ (by first | omega | (simp; done) | (simp; omega)) _))⟩
      case measure => simp [intOf]
    · have c0 : wr.cell? ⟨w.heap.size, 6, none⟩ = some (.bool true) := (hb.cell (p := ⟨w.heap.size, 6, none⟩) (by simp)).trans (by go_simp)
      have c1 : wr.cell? ⟨w.heap.size, 7, none⟩ = some (.bool true) := (hb.cell (p := ⟨w.heap.size, 7, none⟩) (by simp)).trans (by go_simp)
      have c2 : wr.cell? ⟨w.heap.size, 8, none⟩ = some (.bool false) := (hb.cell (p := ⟨w.heap.size, 8, none⟩) (by simp)).trans (by go_simp)
      have c3 : wr.cell? ⟨w.heap.size, 9, none⟩ = some (.bool false) := (hb.cell (p := ⟨w.heap.size, 9, none⟩) (by simp)).trans (by go_simp)
      have c4 : wr.cell? ⟨w.heap.size, 10, none⟩ = some (.int .i64 2) := (hb.cell (p := ⟨w.heap.size, 10, none⟩) (by simp)).trans (by go_simp)
      have c5 : wr.cell? ⟨w.heap.size, 11, none⟩ = some (.int .u64 8195) := (hb.cell (p := ⟨w.heap.size, 11, none⟩) (by simp)).trans (by go_simp)
      go_wp2_with (first
        | (go_at_call 9; refine (pack_lit true false false 2 8195 (by omega) (by omega) rfl _).mono ?_; rintro e w' ⟨rfl, rfl⟩)
        | (go_at_call 10; refine (unpack_lit true false false 2 8195 (by omega) (by omega) rfl _).mono ?_; rintro e w' ⟨rfl, rfl⟩))
      go_roundw
      case rel => exact ⟨2, by omega, rfl, hb.trans (by repeat (first | exact Below.refl _ _ | refine Below.alloc ?_ (by first | omega | (simp; done) | (simp; omega)) _))⟩
      case measure => simp [intOf]
    · have c0 : wr.cell? ⟨w.heap.size, 12, none⟩ = some (.bool true) := (hb.cell (p := ⟨w.heap.size, 12, none⟩) (by simp)).trans (by go_simp)
      have c1 : wr.cell? ⟨w.heap.size, 13, none⟩ = some (.bool false) := (hb.cell (p := ⟨w.heap.size, 13, none⟩) (by simp)).trans (by go_simp)
      have c2 : wr.cell? ⟨w.heap.size, 14, none⟩ = some (.bool true) := (hb.cell (p := ⟨w.heap.size, 14, none⟩) (by simp)).trans (by go_simp)
      have c3 : wr.cell? ⟨w.heap.size, 15, none⟩ = some (.bool true) := (hb.cell (p := ⟨w.heap.size, 15, none⟩) (by simp)).trans (by go_simp)
      have c4 : wr.cell? ⟨w.heap.size, 16, none⟩ = some (.int .i64 12) := (hb.cell (p := ⟨w.heap.size, 16, none⟩) (by simp)).trans (by go_simp)
      have c5 : wr.cell? ⟨w.heap.size, 17, none⟩ = some (.int .u64 49413) := (hb.cell (p := ⟨w.heap.size, 17, none⟩) (by simp)).trans (by go_simp)
      go_wp2_with (first
        | (go_at_call 9; refine (pack_lit false true true 12 49413 (by omega) (by omega) rfl _).mono ?_; rintro e w' ⟨rfl, rfl⟩)
        | (go_at_call 10; refine (unpack_lit false true true 12 49413 (by omega) (by omega) rfl _).mono ?_; rintro e w' ⟨rfl, rfl⟩))
      go_roundw
      case rel => exact ⟨3, by omega, rfl, hb.trans (by repeat (first | exact Below.refl _ _ | refine Below.alloc ?_ (by first | omega | (simp; done) | (simp; omega)) _))⟩
      case measure => simp [intOf]
    · have c0 : wr.cell? ⟨w.heap.size, 18, none⟩ = some (.bool true) := (hb.cell (p := ⟨w.heap.size, 18, none⟩) (by simp)).trans (by go_simp)
      have c1 : wr.cell? ⟨w.heap.size, 19, none⟩ = some (.bool true) := (hb.cell (p := ⟨w.heap.size, 19, none⟩) (by simp)).trans (by go_simp)
      have c2 : wr.cell? ⟨w.heap.size, 20, none⟩ = some (.bool true) := (hb.cell (p := ⟨w.heap.size, 20, none⟩) (by simp)).trans (by go_simp)
      have c3 : wr.cell? ⟨w.heap.size, 21, none⟩ = some (.bool true) := (hb.cell (p := ⟨w.heap.size, 21, none⟩) (by simp)).trans (by go_simp)
      have c4 : wr.cell? ⟨w.heap.size, 22, none⟩ = some (.int .i64 1099511627775) := (hb.cell (p := ⟨w.heap.size, 22, none⟩) (by simp)).trans (by go_simp)
      have c5 : wr.cell? ⟨w.heap.size, 23, none⟩ = some (.int .u64 4503599627366663) := (hb.cell (p := ⟨w.heap.size, 23, none⟩) (by simp)).trans (by go_simp)
      go_wp2_with (first
        | (go_at_call 9; refine (pack_lit true true true 1099511627775 4503599627366663 (by omega) (by omega) rfl _).mono ?_; rintro e w' ⟨rfl, rfl⟩)
        | (go_at_call 10; refine (unpack_lit true true true 1099511627775 4503599627366663 (by omega) (by omega) rfl _).mono ?_; rintro e w' ⟨rfl, rfl⟩))
      go_roundw
      case rel => exact ⟨4, by omega, rfl, hb.trans (by repeat (first | exact Below.refl _ _ | refine Below.alloc ?_ (by first | omega | (simp; done) | (simp; omega)) _))⟩
      case measure => simp [intOf]
    · go_wp2_with (go_at_call 11; refine (within_any _ _ _ (by omega) (by omega)).mono ?_; rintro e w' ⟨rfl, rfl⟩)
      go_loopw [72] (fun i ws => ∃ k : Nat, k ≤ 5 ∧ i = .int .i64 k ∧ Below (w'.heap.size + 1) (w'.alloc (.cells #[.bool false, .bool false, .bool false, .bool false, .int .i64 0, .bool false, .bool false, .bool false, .bool false, .int .i64 3, .bool false, .bool true, .bool true, .bool false, .int .i64 0, .bool true, .bool false, .bool false, .bool false, .int .i64 (-(1 + a0 % 1000)), .bool true, .bool false, .bool false, .bool false, .int .i64 (1099511627775 + (1 + a0 % 1000))] 23)) ws) (fun i _ => 5 - (intOf i).toNat)
      case atStart => exact ⟨0, by omega, by go_num, Below.refl _ _⟩
      case round =>
        obtain ⟨k, hk2, rfl, hb2⟩ := hrel
        have hs2 : w'.heap.size + 1 ≤ wr.heap.size := by have := hb2.size; simpa using this
        have hk' : k = 0 ∨ k = 1 ∨ k = 2 ∨ k = 3 ∨ k = 4 ∨ k = 5 := by omega
        rcases hk' with rfl | rfl | rfl | rfl | rfl | rfl
        · have c0 : wr.cell? ⟨w'.heap.size, 0, none⟩ = some (.bool false) := (hb2.cell (p := ⟨w'.heap.size, 0, none⟩) (by simp)).trans (by go_simp)
          have c1 : wr.cell? ⟨w'.heap.size, 1, none⟩ = some (.bool false) := (hb2.cell (p := ⟨w'.heap.size, 1, none⟩) (by simp)).trans (by go_simp)
          have c2 : wr.cell? ⟨w'.heap.size, 2, none⟩ = some (.bool false) := (hb2.cell (p := ⟨w'.heap.size, 2, none⟩) (by simp)).trans (by go_simp)
          have c3 : wr.cell? ⟨w'.heap.size, 3, none⟩ = some (.bool false) := (hb2.cell (p := ⟨w'.heap.size, 3, none⟩) (by simp)).trans (by go_simp)
          have c4 : wr.cell? ⟨w'.heap.size, 4, none⟩ = some (.int .i64 0) := (hb2.cell (p := ⟨w'.heap.size, 4, none⟩) (by simp)).trans (by go_simp)
          go_wp2_with (go_at_call 9; refine (pack_no false false false false 0 _ (Or.inl rfl)).mono ?_; rintro e w1 ⟨rfl, rfl⟩)
          go_roundw
          case rel => exact ⟨1, by omega, rfl, hb2.trans (by repeat (first | exact Below.refl _ _ | refine Below.alloc ?_ (by first | omega | (simp; done) | (simp; omega)) _))⟩
          case measure => simp [intOf]
        · have c0 : wr.cell? ⟨w'.heap.size, 5, none⟩ = some (.bool false) := (hb2.cell (p := ⟨w'.heap.size, 5, none⟩) (by simp)).trans (by go_simp)
          have c1 : wr.cell? ⟨w'.heap.size, 6, none⟩ = some (.bool false) := (hb2.cell (p := ⟨w'.heap.size, 6, none⟩) (by simp)).trans (by go_simp)
          have c2 : wr.cell? ⟨w'.heap.size, 7, none⟩ = some (.bool false) := (hb2.cell (p := ⟨w'.heap.size, 7, none⟩) (by simp)).trans (by go_simp)
          have c3 : wr.cell? ⟨w'.heap.size, 8, none⟩ = some (.bool false) := (hb2.cell (p := ⟨w'.heap.size, 8, none⟩) (by simp)).trans (by go_simp)
          have c4 : wr.cell? ⟨w'.heap.size, 9, none⟩ = some (.int .i64 3) := (hb2.cell (p := ⟨w'.heap.size, 9, none⟩) (by simp)).trans (by go_simp)
          go_wp2_with (go_at_call 9; refine (pack_no false false false false 3 _ (Or.inl rfl)).mono ?_; rintro e w1 ⟨rfl, rfl⟩)
          go_roundw
          case rel => exact ⟨2, by omega, rfl, hb2.trans (by repeat (first | exact Below.refl _ _ | refine Below.alloc ?_ (by first | omega | (simp; done) | (simp; omega)) _))⟩
          case measure => simp [intOf]
        · have c0 : wr.cell? ⟨w'.heap.size, 10, none⟩ = some (.bool false) := (hb2.cell (p := ⟨w'.heap.size, 10, none⟩) (by simp)).trans (by go_simp)
          have c1 : wr.cell? ⟨w'.heap.size, 11, none⟩ = some (.bool true) := (hb2.cell (p := ⟨w'.heap.size, 11, none⟩) (by simp)).trans (by go_simp)
          have c2 : wr.cell? ⟨w'.heap.size, 12, none⟩ = some (.bool true) := (hb2.cell (p := ⟨w'.heap.size, 12, none⟩) (by simp)).trans (by go_simp)
          have c3 : wr.cell? ⟨w'.heap.size, 13, none⟩ = some (.bool false) := (hb2.cell (p := ⟨w'.heap.size, 13, none⟩) (by simp)).trans (by go_simp)
          have c4 : wr.cell? ⟨w'.heap.size, 14, none⟩ = some (.int .i64 0) := (hb2.cell (p := ⟨w'.heap.size, 14, none⟩) (by simp)).trans (by go_simp)
          go_wp2_with (go_at_call 9; refine (pack_no false true true false 0 _ (Or.inl rfl)).mono ?_; rintro e w1 ⟨rfl, rfl⟩)
          go_roundw
          case rel => exact ⟨3, by omega, rfl, hb2.trans (by repeat (first | exact Below.refl _ _ | refine Below.alloc ?_ (by first | omega | (simp; done) | (simp; omega)) _))⟩
          case measure => simp [intOf]
        · have c0 : wr.cell? ⟨w'.heap.size, 15, none⟩ = some (.bool true) := (hb2.cell (p := ⟨w'.heap.size, 15, none⟩) (by simp)).trans (by go_simp)
          have c1 : wr.cell? ⟨w'.heap.size, 16, none⟩ = some (.bool false) := (hb2.cell (p := ⟨w'.heap.size, 16, none⟩) (by simp)).trans (by go_simp)
          have c2 : wr.cell? ⟨w'.heap.size, 17, none⟩ = some (.bool false) := (hb2.cell (p := ⟨w'.heap.size, 17, none⟩) (by simp)).trans (by go_simp)
          have c3 : wr.cell? ⟨w'.heap.size, 18, none⟩ = some (.bool false) := (hb2.cell (p := ⟨w'.heap.size, 18, none⟩) (by simp)).trans (by go_simp)
          have c4 : wr.cell? ⟨w'.heap.size, 19, none⟩ = some (.int .i64 (-(1 + a0 % 1000))) := (hb2.cell (p := ⟨w'.heap.size, 19, none⟩) (by simp)).trans (by go_simp)
          go_wp2_with (go_at_call 9; refine (pack_no true false false false (-(1 + a0 % 1000)) _ (Or.inr (Or.inl (by omega)))).mono ?_; rintro e w1 ⟨rfl, rfl⟩)
          go_roundw
          case rel => exact ⟨4, by omega, rfl, hb2.trans (by repeat (first | exact Below.refl _ _ | refine Below.alloc ?_ (by first | omega | (simp; done) | (simp; omega)) _))⟩
          case measure => simp [intOf]
        · have c0 : wr.cell? ⟨w'.heap.size, 20, none⟩ = some (.bool true) := (hb2.cell (p := ⟨w'.heap.size, 20, none⟩) (by simp)).trans (by go_simp)
          have c1 : wr.cell? ⟨w'.heap.size, 21, none⟩ = some (.bool false) := (hb2.cell (p := ⟨w'.heap.size, 21, none⟩) (by simp)).trans (by go_simp)
          have c2 : wr.cell? ⟨w'.heap.size, 22, none⟩ = some (.bool false) := (hb2.cell (p := ⟨w'.heap.size, 22, none⟩) (by simp)).trans (by go_simp)
          have c3 : wr.cell? ⟨w'.heap.size, 23, none⟩ = some (.bool false) := (hb2.cell (p := ⟨w'.heap.size, 23, none⟩) (by simp)).trans (by go_simp)
          have c4 : wr.cell? ⟨w'.heap.size, 24, none⟩ = some (.int .i64 (1099511627775 + (1 + a0 % 1000))) := (hb2.cell (p := ⟨w'.heap.size, 24, none⟩) (by simp)).trans (by go_simp)
          go_wp2_with (go_at_call 9; refine (pack_no true false false false (1099511627775 + (1 + a0 % 1000)) _ (Or.inr (Or.inr (by omega)))).mono ?_; rintro e w1 ⟨rfl, rfl⟩)
          go_roundw
          case rel => exact ⟨5, by omega, rfl, hb2.trans (by repeat (first | exact Below.refl _ _ | refine Below.alloc ?_ (by first | omega | (simp; done) | (simp; omega)) _))⟩
          case measure => simp [intOf]
        · have k1 : Below w.heap.size w w' := ((Below.refl _ _).alloc (Nat.le_refl _) _).trans (hb.mono (by omega))
          have k2 : Below w'.heap.size w' wr := ((Below.refl _ _).alloc (Nat.le_refl _) _).trans (hb2.mono (by omega))
          have s1 := k1.size
          have s2 := k2.size
          go_wp2_with (first
            | (go_at_call_has 12 (Value.int .i64 3); refine (absent_lit 3 false 12288 rfl _).mono ?_; rintro e w1 ⟨rfl, rfl⟩)
            | (go_at_call_has 12 (Value.int .i64 0); refine (absent_lit 0 true 4503599627366400 rfl _).mono ?_; rintro e w1 ⟨rfl, rfl⟩)
            | (go_at_call_has 12 (Value.int .i64 1); refine (absent_lit 1 true 4503599627362304 rfl _).mono ?_; rintro e w1 ⟨rfl, rfl⟩)
            | (go_at_call 13; refine (of_lit _).mono ?_; rintro e w1 ⟨rfl, rfl⟩)
            | (go_at_call 14; refine (raw_lit _).mono ?_; rintro e w1 ⟨rfl, rfl⟩)
            | (go_at_call 15; refine (wakes_below _).mono ?_; rintro e w1 ⟨rfl, hb3⟩))
          go_ret
          refine ⟨rfl, ?_⟩
          exact (k1.trans (k2.mono (by omega))).trans (hb3.mono (by omega))

/-! ### THE ROW's STEP: WRITTEN OUT: LEAVE IT -/
set_option maxRecDepth 100000 in
theorem lifted (os : Os) (started : os.Started) (H : Type) (enc : TypeId × Value → H) :
    ReturnsInHanded {} Try.checked os 3 .any (Rows.entryFormsSpec.pre6 enc Try.prog Try.f3 Rows.entryFormsRow.domain false) (Rows.entryFormsSpec.post enc Try.prog Try.f3 false true false false) := by
  refine returnsInHanded_of_change (C := Try.checked) own started (by kernel_rfl) Try.func3
    (ChangeSpec.witness6 (enc := enc) (C := Try.checked) false ⟨#[], #[.int .i64 0], []⟩ 8 (by kernel_rfl) (by kernel_rfl) (by kernel_rfl) (by kernel_rfl)) ?_
  intro W base args ds gs before hval0 hW hcnd _
  have hval : ∀ (j : Nat) t v, Try.f3.params[j]? = some t → args[j]? = some v → Value.okWide Try.prog W .any base t v := hval0
  have hW' := hW
  obtain ⟨p, q, hA0, hV, rfl, hfz, hnd⟩ := hW
  have hA : DataW.TrodAll enc Try.prog W 0 (fun _ => true) true Try.f3.params.toList args.toList ds p := hA0
  rw [Try.params3] at hA hval
  obtain ⟨v0, vs0, d0, ds0, p0, q0, hargs, rfl, rfl, h0, r0⟩ := trodAll_cons hA
  obtain ⟨rfl, rfl, rfl⟩ := trodAll_nil r0
  obtain rfl : args = #[v0] := by cases args; simp_all
  obtain ⟨rfl, rfl⟩ := trodVars_none hV
  obtain ⟨a0, rfl, rfl, rfl, w0⟩ := open_int Try.underlying3 (hval 0 3 v0 rfl rfl) h0
  clear hA0 hval0
  simp only [List.append_nil] at hW'
  refine (walk a0 w0 W).mono fun e W' ⟨he, hg⟩ => ?_
  subst he
  exact ⟨_, rfl, _, _, _, [], [], [], hW', (trodAll_cons_mk (shut_bool Try.underlying4 _) trodAll_mk0), (trodAll_cons_mk (shut_int Try.underlying3 w0) trodAll_mk0), rfl, hg.frame _, fun h => by cases h⟩

theorem over : Rows.entryFormsRow.holds Try.pinned (OpenSpec.ofChange Rows.entryFormsSpec) :=
  OpenClaim.holds_of_wide 3 Try.f3 rfl rfl rfl rfl rfl rfl rfl ⟨rfl, rfl, rfl, rfl, rfl⟩ rfl rfl rfl rfl rfl (by kernel_rfl) Try.func3 (by kernel_rfl)
    (of_decide_eq_true (by kernel_rfl)) (by unfold Func.isWrapper; first | (rw [if_pos (by decide +kernel)]; kernel_rfl) | (rw [if_neg (by decide +kernel)]; exact ⟨rfl, rfl⟩))
    (fun os started H enc _ => lifted os started H enc)

/-- ████ THE STATEMENT ████ -/
theorem proved : Rows.EntryFormsSaid :=
  over
end Go.Proofs.Ytcnoobdihnlnkaa.entryForms
