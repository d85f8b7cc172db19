/-
  PROVED: for every entry and bits, penumbralaw01.EntryTells answers true and leaves its arguments as they were. No condition.
-/
import Derived.Test.YtcnoobdihnlnkaaRows
import Derived.Test.YtcnoobdihnlnkaaDigits
import Derived.Test.YtcnoobdihnlnkaaLater
import Derived.Laws.Closers25b
import Derived.WalkKit
import Derived.ProofKit
import Derived.OpenShut
import Derived.Below
import Derived.ShutString
namespace Go.Proofs.Ytcnoobdihnlnkaa.entryTells
open Go.ChangeShapes Go.WideShapes Go.ChangeAt Go.RowKit
open Go.ChangeMaps (open_string shut_string)
set_option linter.unusedVariables false      -- a walk need not use every 'w<i>' (that an integer argument fits its kind)

theorem own : ownKnob Try.prog.godebug = none := by kernel_rfl

/-- May such an entry be? -/
def pkO (p : Bool) (f : Int) : Bool := p && decide (0 ≤ f ∧ f < 1099511627776)
def pkV (p a u g : Bool) (f : Int) : Int := if pkO p f = true then packV a u g f else 0

theorem pkO_no {p : Bool} {f : Int} (h : pkO p f = false) : p = false ∨ f < 0 ∨ 1099511627775 < f := by
  cases p
  · exact Or.inl rfl
  · simp [pkO] at h; omega
theorem pkO_yes {p : Bool} {f : Int} (h : pkO p f = true) : p = true ∧ 0 ≤ f ∧ f < 1099511627776 := by
  cases p
  · simp [pkO] at h
  · simp [pkO] at h; exact ⟨rfl, h.1, h.2⟩
theorem pkV_bd (p a u g : Bool) (f : Int) : 0 ≤ pkV p a u g f ∧ pkV p a u g f < 18446744073709551616 := by
  unfold pkV
  split
  · rename_i h; have := pkO_yes h; have := packV_bd a u g f this.2.1 this.2.2; omega
  · omega
theorem pack_all (p a u g : Bool) (f : Int) (w : World) :
    Calls Try.prog 9 #[.agg #[.bool p, .bool a, .bool u, .bool g, .int .i64 f]] w fun e w' => e = .returned (.tuple #[.int .u64 (pkV p a u g f), .int .i64 (if pkO p f = true then 0 else 1)]) ∧ w' = w.alloc (.cells #[.bool p, .bool a, .bool u, .bool g, .int .i64 f] 23) := by
  cases h : pkO p f
  · simp only [pkV, h, Bool.false_eq_true, if_false]; exact pack_no p a u g f w (pkO_no h)
  · obtain ⟨rfl, h1, h2⟩ := pkO_yes h
    simp only [pkV, h, if_true]; exact pack_ok a u g f w h1 h2
theorem refpack_all (p a u g : Bool) (f : Int) (w : World) :
    Calls Try.prog 16 #[.agg #[.bool p, .bool a, .bool u, .bool g, .int .i64 f]] w fun e w' => e = .returned (.tuple #[.int .u64 (pkV p a u g f), .bool (pkO p f)]) ∧ w' = w.alloc (.cells #[.bool p, .bool a, .bool u, .bool g, .int .i64 f] 43) := by
  cases h : pkO p f
  · simp only [pkV, h, Bool.false_eq_true, if_false]; exact refpack_no p a u g f w (pkO_no h)
  · obtain ⟨rfl, h1, h2⟩ := pkO_yes h
    simp only [pkV, h, if_true]; exact refpack_ok a u g f w h1 h2

/-- Five words lie in block b; all that was there is as it was. -/
def Inv (b : Nat) (w wr : World) : Prop :=
  (∀ j, j < 5 → ∃ z, wr.cell? ⟨b, j, none⟩ = some (.int .u64 z) ∧ 0 ≤ z ∧ z < 18446744073709551616) ∧ Below w.heap.size w wr
theorem Inv.later {b : Nat} {w wr wx : World} (h : Inv b w wr) (hb : Below wr.heap.size wr wx) : Inv b w wx :=
  ⟨fun j hj => let ⟨z, h1, h2⟩ := h.1 j hj; ⟨z, cell_later hb h1, h2⟩, h.2.trans (hb.mono h.2.size)⟩

theorem inv_start {b : Nat} {w w1 : World} {t : TypeId} (z0 z1 z2 z3 z4 : Int) (h0 : 0 ≤ z0 ∧ z0 ≤ 18446744073709551615) (h1 : 0 ≤ z1 ∧ z1 < 18446744073709551616) (h2 : 0 ≤ z2 ∧ z2 ≤ 18446744073709551615) (h3 : 0 ≤ z3 ∧ z3 ≤ 18446744073709551615) (h4 : 0 ≤ z4 ∧ z4 ≤ 18446744073709551615)
    (hb : Below w.heap.size w w1) (hs : w1.heap.size = b) : Inv b w (w1.alloc (.cells #[.int .u64 z0, .int .u64 z1, .int .u64 z2, .int .u64 z3, .int .u64 z4] t)) := by
  subst hs
  refine ⟨fun j hj => ?_, hb.alloc hb.size _⟩
  have hj' : j = 0 ∨ j = 1 ∨ j = 2 ∨ j = 3 ∨ j = 4 := by omega
  rcases hj' with rfl | rfl | rfl | rfl | rfl
  · exact ⟨z0, by go_simp, by omega⟩
  · exact ⟨z1, by go_simp, by omega⟩
  · exact ⟨z2, by go_simp, by omega⟩
  · exact ⟨z3, by go_simp, by omega⟩
  · exact ⟨z4, by go_simp, by omega⟩

set_option maxHeartbeats 4000000 in
theorem walk (a0 : Bool) (a1 : Bool) (a2 : Bool) (a3 : Bool) (a4 : Int) (a5 : Int) (a6 : Int) (w4 : (Lit.int .i64 a4).wf = true) (w5 : (Lit.int .i64 a5).wf = true) (w6 : (Lit.int .u64 a6).wf = true) (w : World) :
    Calls Try.prog 5 #[.bool a0, .bool a1, .bool a2, .bool a3, .int .i64 a4, .int .i64 a5, .int .u64 a6] w fun e w' => e = .returned (.bool true) ∧ Below w.heap.size w w' := by
  have b6 := bounds_u64 w6
  obtain ⟨b61, b62⟩ := b6
  by_cases hh : a5.tmod 3 = 0
  · have hpk := pkV_bd a0 a1 a2 a3 a4
    cases hO : pkO a0 a4
    all_goals
      go_enter Try.func5, Try.ntmps5
      go_wp2_with (first
        | (go_at_call 11; refine (within_any _ _ _ (by omega) (by omega)).mono ?_; rintro e w' ⟨rfl, rfl⟩)
        | (go_at_call 9; refine (pack_all _ _ _ _ _ _).mono ?_; rintro e w' ⟨rfl, rfl⟩)
        | (go_at_call 16; refine (refpack_all _ _ _ _ _ _).mono ?_; rintro e w' ⟨rfl, rfl⟩))
      go_loopw [79] (fun i wr => ∃ k : Nat, k ≤ 5 ∧ i = .int .i64 k ∧ Inv (w.heap.size + 1 + 1 + 1) w wr) (fun i _ => 5 - (intOf i).toNat)
      case atStart => exact ⟨0, by omega, rfl, inv_start _ _ _ _ _ ⟨by omega, by omega⟩ ⟨by omega, by omega⟩ ⟨bits_lo_u64 _ _ _, bits_hi_u64 _ _ _⟩ ⟨bits_lo_u64 _ _ _, bits_hi_u64 _ _ _⟩ ⟨bits_lo_u64 _ _ _, bits_hi_u64 _ _ _⟩ (by repeat (first | exact Below.refl _ _ | refine Below.alloc ?_ (by first | omega | (simp; done) | (simp; omega)) _)) (by simp)⟩
      case round =>
        obtain ⟨k, hk, rfl, hI⟩ := hrel
        by_cases hlt : k < 5
        · obtain ⟨z, hz, z1, z2⟩ := hI.1 k hlt
          have k1 : (0 : Int) ≤ (k : Int) := by omega
          have k2 : (k : Int) < 5 := by omega
          go_wp2_with (first
            | (go_at_call 10; refine (unpack_any _ _ (by omega) (by omega)).mono ?_; rintro e w1 ⟨rfl, rfl⟩)
            | (go_at_call 17; refine (refunpack_any _ _ (by omega) (by omega)).mono ?_; rintro e w1 ⟨rfl, rfl⟩)
            | (go_at_call 14; refine (raw_any _ _ (by omega) (by omega)).mono ?_; rintro e w1 ⟨rfl, hw⟩; subst hw)
            | (go_at_call 18; refine (refraw_any _ _ (by omega) (by omega)).mono ?_; rintro e w1 ⟨rfl, hw⟩; subst hw))
          go_roundw
          case rel => exact ⟨k + 1, by omega, by go_num, hI.later (by repeat (first | exact Below.refl _ _ | refine Below.alloc ?_ (by first | omega | (simp; done) | (simp; omega)) _))⟩
          case measure => simp [intOf]; omega
        · have k2 : ¬ (k : Int) < 5 := by omega
          go_wp2_with (go_at_call 15; refine (wakes_below _).mono ?_; rintro e w1 ⟨rfl, hb⟩)
          go_ret
          exact ⟨rfl, (hI.later hb).2⟩
  · have hpk := pkV_bd a0 a1 a2 a3 (a4 % 70)
    cases hO : pkO a0 (a4 % 70)
    all_goals
      go_enter Try.func5, Try.ntmps5
      go_wp2_with (first
        | (go_at_call 11; refine (within_any _ _ _ (by omega) (by omega)).mono ?_; rintro e w' ⟨rfl, rfl⟩)
        | (go_at_call 9; refine (pack_all _ _ _ _ _ _).mono ?_; rintro e w' ⟨rfl, rfl⟩)
        | (go_at_call 16; refine (refpack_all _ _ _ _ _ _).mono ?_; rintro e w' ⟨rfl, rfl⟩))
      go_loopw [79] (fun i wr => ∃ k : Nat, k ≤ 5 ∧ i = .int .i64 k ∧ Inv (w'.heap.size + 1 + 1 + 1) w' wr) (fun i _ => 5 - (intOf i).toNat)
      case atStart => exact ⟨0, by omega, rfl, inv_start _ _ _ _ _ ⟨by omega, by omega⟩ ⟨by omega, by omega⟩ ⟨bits_lo_u64 _ _ _, bits_hi_u64 _ _ _⟩ ⟨bits_lo_u64 _ _ _, bits_hi_u64 _ _ _⟩ ⟨bits_lo_u64 _ _ _, bits_hi_u64 _ _ _⟩ (by repeat (first | exact Below.refl _ _ | refine Below.alloc ?_ (by first | omega | (simp; done) | (simp; omega)) _)) (by simp)⟩
      case round =>
        obtain ⟨k, hk, rfl, hI⟩ := hrel
        by_cases hlt : k < 5
        · obtain ⟨z, hz, z1, z2⟩ := hI.1 k hlt
          have k1 : (0 : Int) ≤ (k : Int) := by omega
          have k2 : (k : Int) < 5 := by omega
          go_wp2_with (first
            | (go_at_call 10; refine (unpack_any _ _ (by omega) (by omega)).mono ?_; rintro e w1 ⟨rfl, rfl⟩)
            | (go_at_call 17; refine (refunpack_any _ _ (by omega) (by omega)).mono ?_; rintro e w1 ⟨rfl, rfl⟩)
            | (go_at_call 14; refine (raw_any _ _ (by omega) (by omega)).mono ?_; rintro e w1 ⟨rfl, hw⟩; subst hw)
            | (go_at_call 18; refine (refraw_any _ _ (by omega) (by omega)).mono ?_; rintro e w1 ⟨rfl, hw⟩; subst hw))
          go_roundw
          case rel => exact ⟨k + 1, by omega, by go_num, hI.later (by repeat (first | exact Below.refl _ _ | refine Below.alloc ?_ (by first | omega | (simp; done) | (simp; omega)) _))⟩
          case measure => simp [intOf]; omega
        · have k2 : ¬ (k : Int) < 5 := by omega
          go_wp2_with (go_at_call 15; refine (wakes_below _).mono ?_; rintro e w1 ⟨rfl, hb⟩)
          go_ret
          exact ⟨rfl, (hI.later hb).2⟩

/-! ### THE ROW's STEP: WRITTEN OUT: LEAVE IT -/
set_option maxRecDepth 100000 in
theorem lifted (os : Os) (started : os.Started) (H : Type) (enc : TypeId × Value → H) :
    ReturnsInHanded {} Try.checked os 5 .any (Rows.entryTellsSpec.pre6 enc Try.prog Try.f5 Rows.entryTellsRow.domain false) (Rows.entryTellsSpec.post enc Try.prog Try.f5 false true false false) := by
  refine returnsInHanded_of_change (C := Try.checked) own started (by kernel_rfl) Try.func5
    (ChangeSpec.witness6 (enc := enc) (C := Try.checked) false ⟨#[], #[.bool false, .bool false, .bool false, .bool false, .int .i64 0, .int .i64 0, .int .u64 0], []⟩ 8 (by kernel_rfl) (by kernel_rfl) (by kernel_rfl) (by kernel_rfl)) ?_
  intro W base args ds gs before hval0 hW hcnd _
  have hval : ∀ (j : Nat) t v, Try.f5.params[j]? = some t → args[j]? = some v → Value.okWide Try.prog W .any base t v := hval0
  have hW' := hW
  obtain ⟨p, q, hA0, hV, rfl, hfz, hnd⟩ := hW
  have hA : DataW.TrodAll enc Try.prog W 0 (fun _ => true) true Try.f5.params.toList args.toList ds p := hA0
  rw [Try.params5] at hA hval
  obtain ⟨v0, vs0, d0, ds0, p0, q0, hargs, rfl, rfl, h0, r0⟩ := trodAll_cons hA
  obtain ⟨v1, vs1, d1, ds1, p1, q1, rfl, rfl, rfl, h1, r1⟩ := trodAll_cons r0
  obtain ⟨v2, vs2, d2, ds2, p2, q2, rfl, rfl, rfl, h2, r2⟩ := trodAll_cons r1
  obtain ⟨v3, vs3, d3, ds3, p3, q3, rfl, rfl, rfl, h3, r3⟩ := trodAll_cons r2
  obtain ⟨v4, vs4, d4, ds4, p4, q4, rfl, rfl, rfl, h4, r4⟩ := trodAll_cons r3
  obtain ⟨v5, vs5, d5, ds5, p5, q5, rfl, rfl, rfl, h5, r5⟩ := trodAll_cons r4
  obtain ⟨v6, vs6, d6, ds6, p6, q6, rfl, rfl, rfl, h6, r6⟩ := trodAll_cons r5
  obtain ⟨rfl, rfl, rfl⟩ := trodAll_nil r6
  obtain rfl : args = #[v0, v1, v2, v3, v4, v5, v6] := by cases args; simp_all
  obtain ⟨rfl, rfl⟩ := trodVars_none hV
  obtain ⟨a0, rfl, rfl, rfl⟩ := open_bool Try.underlying4 (hval 0 4 v0 rfl rfl) h0
  obtain ⟨a1, rfl, rfl, rfl⟩ := open_bool Try.underlying4 (hval 1 4 v1 rfl rfl) h1
  obtain ⟨a2, rfl, rfl, rfl⟩ := open_bool Try.underlying4 (hval 2 4 v2 rfl rfl) h2
  obtain ⟨a3, rfl, rfl, rfl⟩ := open_bool Try.underlying4 (hval 3 4 v3 rfl rfl) h3
  obtain ⟨a4, rfl, rfl, rfl, w4⟩ := open_int Try.underlying3 (hval 4 3 v4 rfl rfl) h4
  obtain ⟨a5, rfl, rfl, rfl, w5⟩ := open_int Try.underlying3 (hval 5 3 v5 rfl rfl) h5
  obtain ⟨a6, rfl, rfl, rfl, w6⟩ := open_int Try.underlying24 (hval 6 24 v6 rfl rfl) h6
  clear hA0 hval0
  simp only [List.append_nil] at hW'
  refine (walk a0 a1 a2 a3 a4 a5 a6 w4 w5 w6 W).mono fun e W' ⟨he, hg⟩ => ?_
  subst he
  exact ⟨_, rfl, _, _, _, [], [], [], hW', (trodAll_cons_mk (shut_bool Try.underlying4 _) trodAll_mk0), (trodAll_cons_mk (shut_bool Try.underlying4 _) (trodAll_cons_mk (shut_bool Try.underlying4 _) (trodAll_cons_mk (shut_bool Try.underlying4 _) (trodAll_cons_mk (shut_bool Try.underlying4 _) (trodAll_cons_mk (shut_int Try.underlying3 w4) (trodAll_cons_mk (shut_int Try.underlying3 w5) (trodAll_cons_mk (shut_int Try.underlying24 w6) trodAll_mk0))))))), rfl, hg.frame _, fun h => by cases h⟩

theorem over : Rows.entryTellsRow.holds Try.pinned (OpenSpec.ofChange Rows.entryTellsSpec) :=
  OpenClaim.holds_of_wide 5 Try.f5 rfl rfl rfl rfl rfl rfl rfl ⟨rfl, rfl, rfl, rfl, rfl⟩ rfl rfl rfl rfl rfl (by kernel_rfl) Try.func5 (by kernel_rfl)
    (of_decide_eq_true (by kernel_rfl)) (by unfold Func.isWrapper; first | (rw [if_pos (by decide +kernel)]; kernel_rfl) | (rw [if_neg (by decide +kernel)]; exact ⟨rfl, rfl⟩))
    (fun os started H enc _ => lifted os started H enc)

/-- ████ THE STATEMENT ████ -/
theorem proved : Rows.EntryTellsSaid :=
  over
end Go.Proofs.Ytcnoobdihnlnkaa.entryTells
