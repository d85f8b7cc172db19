/-
  PROVED: for every write, user, global, frame and invert, penumbralaw01.EntryBack answers true and leaves its arguments as they were. No condition.
-/
import Derived.Test.YtcnoobdihnlnkaaRows
import Derived.Test.YtcnoobdihnlnkaaFacts
import Derived.Test.YtcnoobdihnlnkaaLater
import Derived.WalkKit
import Derived.ProofKit
import Derived.OpenShut
import Derived.Below
import Derived.ShutString
namespace Go.Proofs.Ytcnoobdihnlnkaa.entryBack
open Go.ChangeShapes Go.WideShapes Go.ChangeAt Go.RowKit
open Go.ChangeMaps (open_string shut_string)
set_option linter.unusedVariables false      -- a walk need not use every 'w<i>' (that an integer argument fits its kind)

theorem own : ownKnob Try.prog.godebug = none := by kernel_rfl

set_option maxHeartbeats 4000000 in
theorem walk (a0 : Bool) (a1 : Bool) (a2 : Bool) (a3 : Int) (a4 : Bool) (w3 : (Lit.int .i64 a3).wf = true) (w : World) :
    Calls Try.prog 7 #[.bool a0, .bool a1, .bool a2, .int .i64 a3, .bool a4] w fun e w' => e = .returned (.bool true) ∧ Below w.heap.size w w' := by
  have l1 : 0 ≤ a3 % 1099511627776 := by omega
  have l2 : a3 % 1099511627776 < 1099511627776 := by omega
  have m1 : 0 ≤ a3 % 64 := by omega
  have m2 : a3 % 64 < 64 := by omega
  have hz := absV_bd (a3 % 64) a4
  have q1 : bits .and .u64 (absV (a3 % 64) a4) 4095 = 0 := by rw [mask12 _ hz.1 (by omega)]; exact hz.2.2
  have q2 : absV (a3 % 64) a4 / 4503599627370496 = 0 := by omega
  cases a4
  · go_enter Try.func7, Try.ntmps7
    go_wp2_with (first
      | (go_at_call 11; refine (within_any _ _ _ (by omega) (by omega)).mono ?_; rintro e w' ⟨rfl, rfl⟩)
      | (go_at_call 9; refine (pack_ok _ _ _ _ _ (by omega) (by omega)).mono ?_; rintro e w' ⟨rfl, rfl⟩)
      | (go_at_call_has 10 (Value.int .u64 (packV a0 a1 a2 (a3 % 1099511627776))); refine (unpack_pack _ _ _ _ _ (by omega) (by omega)).mono ?_; rintro e w' ⟨rfl, rfl⟩)
      | (go_at_call_has 10 (Value.int .u64 (absV (a3 % 64) false)); refine (unpack_abs _ _ _).mono ?_; rintro e w' ⟨rfl, rfl⟩)
      | (go_at_call 12; refine (absent_any _ _ _).mono ?_; rintro e w' ⟨rfl, rfl⟩))
    refine wp_region_later (by kernel_rfl) (by kernel_rfl) ?_
    intro W hW hN
    dsimp only [List.append]
    have c0 := later_cell (W := W) (p := ⟨w'.heap.size, 0, none⟩) (v := .bool true) (by rw [hW.out]; go_simp)
    have c1 := later_cell (W := W) (p := ⟨w'.heap.size, 1, none⟩) (v := .bool a0) (by rw [hW.out]; go_simp)
    have c2 := later_cell (W := W) (p := ⟨w'.heap.size, 2, none⟩) (v := .bool a1) (by rw [hW.out]; go_simp)
    have c3 := later_cell (W := W) (p := ⟨w'.heap.size, 3, none⟩) (v := .bool a2) (by rw [hW.out]; go_simp)
    have c4 := later_cell (W := W) (p := ⟨w'.heap.size, 4, none⟩) (v := .int .i64 (a3 % 1099511627776)) (by rw [hW.out]; go_simp)
    have d0 := later_cell (W := W) (p := ⟨w'.heap.size + 1 + 1 + 1, 0, none⟩) (v := .bool true) (by rw [hW.out]; go_simp)
    have d1 := later_cell (W := W) (p := ⟨w'.heap.size + 1 + 1 + 1, 1, none⟩) (v := .bool a0) (by rw [hW.out]; go_simp)
    have d2 := later_cell (W := W) (p := ⟨w'.heap.size + 1 + 1 + 1, 2, none⟩) (v := .bool a1) (by rw [hW.out]; go_simp)
    have d3 := later_cell (W := W) (p := ⟨w'.heap.size + 1 + 1 + 1, 3, none⟩) (v := .bool a2) (by rw [hW.out]; go_simp)
    have d4 := later_cell (W := W) (p := ⟨w'.heap.size + 1 + 1 + 1, 4, none⟩) (v := .int .i64 (a3 % 1099511627776)) (by rw [hW.out]; go_simp)
    have f0 := later_cell (W := W) (p := ⟨w'.heap.size + 1 + 1 + 1 + 1 + 1, 0, none⟩) (v := .bool false) (by rw [hW.out]; go_simp)
    have f1 := later_cell (W := W) (p := ⟨w'.heap.size + 1 + 1 + 1 + 1 + 1, 1, none⟩) (v := .bool false) (by rw [hW.out]; go_simp)
    have f2 := later_cell (W := W) (p := ⟨w'.heap.size + 1 + 1 + 1 + 1 + 1, 2, none⟩) (v := .bool false) (by rw [hW.out]; go_simp)
    have f3 := later_cell (W := W) (p := ⟨w'.heap.size + 1 + 1 + 1 + 1 + 1, 3, none⟩) (v := .bool false) (by rw [hW.out]; go_simp)
    have f4 := later_cell (W := W) (p := ⟨w'.heap.size + 1 + 1 + 1 + 1 + 1, 4, none⟩) (v := .int .i64 0) (by rw [hW.out]; go_simp)
    repeat (go_big_quiet_step (first
      | (go_at_call_has 14 (Value.int .u64 (packV a0 a1 a2 (a3 % 1099511627776))); refine later_of_same (raw_pack_any _ _ _ _ _ (by omega) (by omega)))
      | (go_at_call_has 14 (Value.int .u64 (absV (a3 % 64) false)); refine later_of_same (rawabs_plain _ _ (by omega) (by omega)))
      | (go_at_call 13; refine later_of_same (ofabs_any _ _ _ (by omega) (by omega)))
      | (go_at_call 15; refine later_of (Nat.le_refl _) (wakes_below _))))
    refine wpQuiet_nil ?_
    rintro _ ⟨x, rfl⟩
    go_wp2
    go_ret
    have hWb : Below w'.heap.size w' W := by
      rw [hW.out]
      repeat (first | exact Below.refl _ _ | refine Below.alloc ?_ (by simp; try omega) _)
    exact ⟨rfl, hWb.trans (x.h.mono hWb.size)⟩
  · have q5 : (1099511627775 - a3 % 64 == a3 % 64) = false := beq_eq_false_iff_ne.2 (by omega)
    have q6 : 64 ≤ 1099511627775 - a3 % 64 := by omega
    go_enter Try.func7, Try.ntmps7
    go_wp2_with (first
      | (go_at_call 11; refine (within_any _ _ _ (by omega) (by omega)).mono ?_; rintro e w' ⟨rfl, rfl⟩)
      | (go_at_call 9; refine (pack_ok _ _ _ _ _ (by omega) (by omega)).mono ?_; rintro e w' ⟨rfl, rfl⟩)
      | (go_at_call_has 10 (Value.int .u64 (packV a0 a1 a2 (a3 % 1099511627776))); refine (unpack_pack _ _ _ _ _ (by omega) (by omega)).mono ?_; rintro e w' ⟨rfl, rfl⟩)
      | (go_at_call_has 10 (Value.int .u64 (absV (a3 % 64) true)); refine (unpack_abs _ _ _).mono ?_; rintro e w' ⟨rfl, rfl⟩)
      | (go_at_call 12; refine (absent_any _ _ _).mono ?_; rintro e w' ⟨rfl, rfl⟩))
    refine wp_region_later (by kernel_rfl) (by kernel_rfl) ?_
    intro W hW hN
    dsimp only [List.append]
    have c0 := later_cell (W := W) (p := ⟨w'.heap.size, 0, none⟩) (v := .bool true) (by rw [hW.out]; go_simp)
    have c1 := later_cell (W := W) (p := ⟨w'.heap.size, 1, none⟩) (v := .bool a0) (by rw [hW.out]; go_simp)
    have c2 := later_cell (W := W) (p := ⟨w'.heap.size, 2, none⟩) (v := .bool a1) (by rw [hW.out]; go_simp)
    have c3 := later_cell (W := W) (p := ⟨w'.heap.size, 3, none⟩) (v := .bool a2) (by rw [hW.out]; go_simp)
    have c4 := later_cell (W := W) (p := ⟨w'.heap.size, 4, none⟩) (v := .int .i64 (a3 % 1099511627776)) (by rw [hW.out]; go_simp)
    have d0 := later_cell (W := W) (p := ⟨w'.heap.size + 1 + 1 + 1, 0, none⟩) (v := .bool true) (by rw [hW.out]; go_simp)
    have d1 := later_cell (W := W) (p := ⟨w'.heap.size + 1 + 1 + 1, 1, none⟩) (v := .bool a0) (by rw [hW.out]; go_simp)
    have d2 := later_cell (W := W) (p := ⟨w'.heap.size + 1 + 1 + 1, 2, none⟩) (v := .bool a1) (by rw [hW.out]; go_simp)
    have d3 := later_cell (W := W) (p := ⟨w'.heap.size + 1 + 1 + 1, 3, none⟩) (v := .bool a2) (by rw [hW.out]; go_simp)
    have d4 := later_cell (W := W) (p := ⟨w'.heap.size + 1 + 1 + 1, 4, none⟩) (v := .int .i64 (a3 % 1099511627776)) (by rw [hW.out]; go_simp)
    have f0 := later_cell (W := W) (p := ⟨w'.heap.size + 1 + 1 + 1 + 1 + 1, 0, none⟩) (v := .bool false) (by rw [hW.out]; go_simp)
    have f1 := later_cell (W := W) (p := ⟨w'.heap.size + 1 + 1 + 1 + 1 + 1, 1, none⟩) (v := .bool false) (by rw [hW.out]; go_simp)
    have f2 := later_cell (W := W) (p := ⟨w'.heap.size + 1 + 1 + 1 + 1 + 1, 2, none⟩) (v := .bool false) (by rw [hW.out]; go_simp)
    have f3 := later_cell (W := W) (p := ⟨w'.heap.size + 1 + 1 + 1 + 1 + 1, 3, none⟩) (v := .bool false) (by rw [hW.out]; go_simp)
    have f4 := later_cell (W := W) (p := ⟨w'.heap.size + 1 + 1 + 1 + 1 + 1, 4, none⟩) (v := .int .i64 0) (by rw [hW.out]; go_simp)
    repeat (go_big_quiet_step (first
      | (go_at_call_has 14 (Value.int .u64 (packV a0 a1 a2 (a3 % 1099511627776))); refine later_of_same (raw_pack_any _ _ _ _ _ (by omega) (by omega)))
      | (go_at_call_has 14 (Value.int .u64 (absV (a3 % 64) true)); refine later_of_same (rawabs_turned _ _ (by omega) (by omega)))
      | (go_at_call 13; refine later_of_same (ofabs_any _ _ _ (by omega) (by omega)))
      | (go_at_call 15; refine later_of (Nat.le_refl _) (wakes_below _))))
    refine wpQuiet_nil ?_
    rintro _ ⟨x, rfl⟩
    go_wp2
    go_ret
    have hWb : Below w'.heap.size w' W := by
      rw [hW.out]
      repeat (first | exact Below.refl _ _ | refine Below.alloc ?_ (by simp; try omega) _)
    exact ⟨rfl, hWb.trans (x.h.mono hWb.size)⟩

/-! ### THE ROW's STEP: WRITTEN OUT: LEAVE IT -/
set_option maxRecDepth 100000 in
theorem lifted (os : Os) (started : os.Started) (H : Type) (enc : TypeId × Value → H) :
    ReturnsInHanded {} Try.checked os 7 .any (Rows.entryBackSpec.pre6 enc Try.prog Try.f7 Rows.entryBackRow.domain false) (Rows.entryBackSpec.post enc Try.prog Try.f7 false true false false) := by
  refine returnsInHanded_of_change (C := Try.checked) own started (by kernel_rfl) Try.func7
    (ChangeSpec.witness6 (enc := enc) (C := Try.checked) false ⟨#[], #[.bool false, .bool false, .bool false, .int .i64 0, .bool false], []⟩ 8 (by kernel_rfl) (by kernel_rfl) (by kernel_rfl) (by kernel_rfl)) ?_
  intro W base args ds gs before hval0 hW hcnd _
  have hval : ∀ (j : Nat) t v, Try.f7.params[j]? = some t → args[j]? = some v → Value.okWide Try.prog W .any base t v := hval0
  have hW' := hW
  obtain ⟨p, q, hA0, hV, rfl, hfz, hnd⟩ := hW
  have hA : DataW.TrodAll enc Try.prog W 0 (fun _ => true) true Try.f7.params.toList args.toList ds p := hA0
  rw [Try.params7] at hA hval
  obtain ⟨v0, vs0, d0, ds0, p0, q0, hargs, rfl, rfl, h0, r0⟩ := trodAll_cons hA
  obtain ⟨v1, vs1, d1, ds1, p1, q1, rfl, rfl, rfl, h1, r1⟩ := trodAll_cons r0
  obtain ⟨v2, vs2, d2, ds2, p2, q2, rfl, rfl, rfl, h2, r2⟩ := trodAll_cons r1
  obtain ⟨v3, vs3, d3, ds3, p3, q3, rfl, rfl, rfl, h3, r3⟩ := trodAll_cons r2
  obtain ⟨v4, vs4, d4, ds4, p4, q4, rfl, rfl, rfl, h4, r4⟩ := trodAll_cons r3
  obtain ⟨rfl, rfl, rfl⟩ := trodAll_nil r4
  obtain rfl : args = #[v0, v1, v2, v3, v4] := by cases args; simp_all
  obtain ⟨rfl, rfl⟩ := trodVars_none hV
  obtain ⟨a0, rfl, rfl, rfl⟩ := open_bool Try.underlying4 (hval 0 4 v0 rfl rfl) h0
  obtain ⟨a1, rfl, rfl, rfl⟩ := open_bool Try.underlying4 (hval 1 4 v1 rfl rfl) h1
  obtain ⟨a2, rfl, rfl, rfl⟩ := open_bool Try.underlying4 (hval 2 4 v2 rfl rfl) h2
  obtain ⟨a3, rfl, rfl, rfl, w3⟩ := open_int Try.underlying3 (hval 3 3 v3 rfl rfl) h3
  obtain ⟨a4, rfl, rfl, rfl⟩ := open_bool Try.underlying4 (hval 4 4 v4 rfl rfl) h4
  clear hA0 hval0
  simp only [List.append_nil] at hW'
  refine (walk a0 a1 a2 a3 a4 w3 W).mono fun e W' ⟨he, hg⟩ => ?_
  subst he
  exact ⟨_, rfl, _, _, _, [], [], [], hW', (trodAll_cons_mk (shut_bool Try.underlying4 _) trodAll_mk0), (trodAll_cons_mk (shut_bool Try.underlying4 _) (trodAll_cons_mk (shut_bool Try.underlying4 _) (trodAll_cons_mk (shut_bool Try.underlying4 _) (trodAll_cons_mk (shut_int Try.underlying3 w3) (trodAll_cons_mk (shut_bool Try.underlying4 _) trodAll_mk0))))), rfl, hg.frame _, fun h => by cases h⟩

theorem over : Rows.entryBackRow.holds Try.pinned (OpenSpec.ofChange Rows.entryBackSpec) :=
  OpenClaim.holds_of_wide 7 Try.f7 rfl rfl rfl rfl rfl rfl rfl ⟨rfl, rfl, rfl, rfl, rfl⟩ rfl rfl rfl rfl rfl (by kernel_rfl) Try.func7 (by kernel_rfl)
    (of_decide_eq_true (by kernel_rfl)) (by unfold Func.isWrapper; first | (rw [if_pos (by decide +kernel)]; kernel_rfl) | (rw [if_neg (by decide +kernel)]; exact ⟨rfl, rfl⟩))
    (fun os started H enc _ => lifted os started H enc)

/-- ████ THE STATEMENT ████ -/
theorem proved : Rows.EntryBackSaid :=
  over
end Go.Proofs.Ytcnoobdihnlnkaa.entryBack
