/-
  The walk of MemWrites.
-/
import Derived.Test.YtcjjjlbafpefpaaMemF
import Derived.Test.YtcjjjlbafpefpaaSlices
namespace Go.Proofs.Ytcjjjlbafpefpaa
open Go.ChangeShapes Go.WideShapes Go.ChangeAt Go.RowKit Go.Maps

theorem lawI : Keyed Try.prog 3 := int_keyed Try.underlying3
theorem zeroU (w : World) : (zeroValue 30).run Try.prog w = .ok (.int .u64 0) w := by kernel_rfl

/-- The world while words are written: the memory, and the map that remembers them. -/
structure WInv (w : World) (k : Nat) (wr : World) : Prop where
  st : ∃ (s : MS) (D : DataW Unit), MemAt wr (w.heap.size + 1) w.heap.size s ∧ s.n = 4 ∧ wr.ownsMap Try.prog 3 (plainElem Try.prog 30) (w.heap.size + 2) k D ∧ IsMap D ∧
    ∀ a : Int, 0 ≤ a → a < 32 → D.atKey (.int .i64 a) (.lit (.int .u64 0)) = .lit (.int .u64 (s.rd a))
  bel : Below w.heap.size w wr
  big : w.heap.size + 2 < wr.heap.size

theorem WInv.start {w w1 : World} (hM : MemAt w1 (w.heap.size + 1) w.heap.size (MS.fresh (MS.many 4))) (hT : Touch Nil w w1) (hS : w1.heap.size = w.heap.size + 2) : WInv w 0 (w1.alloc (.map #[] 0)) := by
  refine ⟨⟨_, .map [], hM.touch ((Touch.refl Nil w1).alloc _) id id, rfl, ?_, isMap_empty, fun a h0 h1 => ?_⟩, (hT.alloc _).below (Nat.le_refl _) (fun _ e => e.elim), by simp [hS]⟩
  · have := World.ownsMap_made (H := Unit) w1 Try.prog 3 (plainElem Try.prog 30)
    rwa [hS] at this
  · rw [MS.rd_fresh]; rfl

/-- Behind one write, remembered. -/
theorem WInv.step {w wr w2 w3 : World} {k : Nat} {s : MS} {D : DataW Unit} {at' x : Int} (hn : s.n = 4) (hD : IsMap D)
    (hR : ∀ a : Int, 0 ≤ a → a < 32 → D.atKey (.int .i64 a) (.lit (.int .u64 0)) = .lit (.int .u64 (s.rd a)))
    (hB : Below w.heap.size w wr) (hbig : w.heap.size + 2 < wr.heap.size)
    (hM2 : MemAt w2 (w.heap.size + 1) w.heap.size (s.write at' x)) (hT2 : Touch (· = w.heap.size) wr w2)
    (hO3 : w3.ownsMap Try.prog 3 (plainElem Try.prog 30) (w.heap.size + 2) (k + 1) (D.put (.int .i64 at') (.lit (.int .u64 x)))) (hG : w2.grownBy w3 (some (w.heap.size + 2))) : WInv w (k + 1) w3 := by
  have hT3 := Touch.ofGrown hG
  refine ⟨⟨_, _, hM2.touch hT3 (by show ¬ _ = _; omega) (by show ¬ _ = _; omega), by rw [MS.write_n, hn], hO3, hD.put _ _, fun a h0 h1 => ?_⟩, ?_, ?_⟩
  · by_cases e : a = at'
    · subst e
      rw [atKey_put_same (k := .int .i64 a) hD trivial, MS.rd_write _ _ _ _ ((s.hasW_iff a).2 (by rw [hn]; omega)), if_pos rfl]
    · rw [atKey_put_other (by simpa using e), hR a h0 h1]
      by_cases hw : s.hasW at' = true
      · rw [MS.rd_write _ _ _ _ hw, if_neg e]
      · have : s.write at' x = s := by simp [MS.write, hw]
        rw [this]
  · exact hB.trans (((hT2.below (by have := hB.size; omega) (fun k e => by omega))).trans (hT3.below (by have := hB.size; have := hT2.size; omega) (fun k e => by omega)))
  · have := hT2.size; have := hT3.size; omega

set_option maxRecDepth 10000 in
set_option maxHeartbeats 4000000 in
theorem memWrites_walk (a0 : Option Addr) (len0 cap0 : Nat) (z0 : List Int) (a1 : Option Addr) (len1 cap1 : Nat) (z1 : List Int) (w : World) (r0 : Row .i64 w a0 len0 cap0 z0) (r1 : Row .u64 w a1 len1 cap1 z1) :
    Calls Try.prog 7 #[.slice a0 len0 cap0, .slice a1 len1 cap1] w fun e w' => e = .returned (.bool true) ∧ Below w.heap.size w w' := by
  obtain ⟨hm0, p0⟩ := r0.plain
  obtain ⟨hm1, p1⟩ := r1.plain
  unfold maxLen at hm0 hm1
  clear r0 r1
  have hmm := @run_makeMap Try.prog
  go_enter Try.func7, Try.ntmps7
  go_wp2_with (go_at_call 9; refine (new_any _ _).mono ?_; rintro e w1 ⟨rfl, hM, hT, hS⟩)
  go_loopw [7] (fun i wr => ∃ k : Nat, k ≤ len0 ∧ k ≤ len1 ∧ i = .int .i64 k ∧ WInv w k wr) (fun i _ => len0 - (intOf i).toNat)
  case atStart => exact ⟨0, by omega, by omega, rfl, WInv.start hM hT hS⟩
  case round =>
    obtain ⟨k, hk0, hk1, rfl, ⟨s, D, hMr, hn, hO, hD, hR⟩, hB, hbig⟩ := hrel
    by_cases hl0 : k < len0
    · by_cases hl1 : k < len1
      · rcases p0 with p0 | ⟨b0, o0, rfl, hb0, hc0⟩
        · omega
        rcases p1 with p1 | ⟨b1, o1, rfl, hb1, hc1⟩
        · omega
        have c0 := Plain.cell hc0 hb0 hB k hl0
        have hq0 := Int.emod_nonneg (z0.getD k 0) (b := 36) (by omega)
        have hq1 := Int.emod_lt_of_pos (z0.getD k 0) (b := 36) (by omega)
        have c1 := Plain.cell hc1 hb1 hB k hl1
        have wf1 := (hc1 k hl1).2
        generalize z0.getD k 0 = y0 at c0 hq0 hq1
        generalize z1.getD k 0 = x1 at c1 wf1
        generalize hT0 : y0 % 36 - 2 = T
        have hT1 : -2 ≤ T ∧ T < 34 := by omega
        obtain ⟨t1, t2⟩ := hT1
        have hkey : keyOf Try.prog 3 (.int .i64 T) = some (.int .i64 T) := keyOf_int_mk Try.underlying3 (WalkArith.wf_i64 (by omega))
        have hin : (T < 0 ∧ s.hasW T = false) ∨ (0 ≤ T ∧ T < 32 ∧ s.hasW T = true) ∨ (0 ≤ T ∧ 32 ≤ T ∧ s.hasW T = false) := by
          by_cases h1 : T < 0
          · exact Or.inl ⟨h1, (s.hasW_no T).2 (by omega)⟩
          · by_cases h2 : T < 32
            · exact Or.inr (Or.inl ⟨by omega, h2, (s.hasW_iff T).2 (by rw [hn]; omega)⟩)
            · exact Or.inr (Or.inr ⟨by omega, by omega, (s.hasW_no T).2 (by rw [hn]; omega)⟩)
        rcases hin with ⟨h1, hw⟩ | ⟨h1, h2, hw⟩ | ⟨h1, h2, hw⟩
        all_goals
          go_wp2_with (first
            | (go_at_call 8; refine (within_any _ _ _ (by omega) (by omega)).mono ?_; rintro e wq ⟨rfl, rfl⟩)
            | (go_at_call 17; refine (write_any hMr _ _ (by omega)).mono ?_; rintro e w2 ⟨hx, hM2, hT2⟩; subst hx; have c2 : w2.cell? ⟨b1, o1 + k, none⟩ = some (.int .u64 x1) := (World.cell?_of_block (hT2.block b1 (by have := hB.size; omega) (by show ¬ _ = _; omega))).trans c1; have hO2 := ownsMap_touch hO hT2 (by show ¬ _ = _; omega))
            | (at_mapUpdate; refine wpList_mapUpdate_own _ rfl _ _ _ 44 rfl 3 30 lawI Try.underlying44 _ (w.heap.size + 2) k _ rfl hO2 (by unfold maxLen; omega) _ _ _ rfl rfl hkey _ [] (plainElem_int Try.underlying30 wf1) ?_; intro w3 hO3 hG)
            | go_in)
          go_roundw
          case rel => exact ⟨k + 1, by omega, by omega, by go_num, WInv.step hn hD hR hB hbig hM2 hT2 hO3 hG⟩
          case measure => simp [intOf]; omega
      · clear p0 p1
        go_wp2
        go_loop [9] (fun i => ∃ a : Int, -2 ≤ a ∧ a ≤ 34 ∧ i = .int .i64 a) (fun i => (34 - intOf i).toNat)
        case atStart => exact ⟨-2, by omega, by omega, rfl⟩
        case round =>
          obtain ⟨a, g1, g2, rfl⟩ := hrel
          by_cases hlt : a < 34
          · have hin : (a < 0 ∧ s.hasW a = false) ∨ (0 ≤ a ∧ a < 32 ∧ s.hasW a = true) ∨ (0 ≤ a ∧ 32 ≤ a ∧ s.hasW a = false) := by
              by_cases h1 : a < 0
              · exact Or.inl ⟨h1, (s.hasW_no a).2 (by omega)⟩
              · by_cases h2 : a < 32
                · exact Or.inr (Or.inl ⟨by omega, h2, (s.hasW_iff a).2 (by rw [hn]; omega)⟩)
                · exact Or.inr (Or.inr ⟨by omega, by omega, (s.hasW_no a).2 (by rw [hn]; omega)⟩)
            rcases hin with ⟨h1, hw⟩ | ⟨h1, h2, hw⟩ | ⟨h1, h2, hw⟩
            · have hr0 : s.rd a = 0 := by simp [MS.rd, hw]
              go_wp2_with (go_at_call 16; refine (read_any hMr _ (by omega)).mono ?_; rintro e wq ⟨rfl, rfl⟩)
              go_round
              case rel => exact ⟨a + 1, by omega, by omega, rfl⟩
              case measure => simp [intOf]; omega
            · have hkey : keyOf Try.prog 3 (.int .i64 a) = some (.int .i64 a) := keyOf_int_mk Try.underlying3 (WalkArith.wf_i64 (by omega))
              obtain ⟨c, hrun, hat, _⟩ := hO.lookup_int lawI Try.underlying44 Try.underlying30 (zeroU _) hkey
              have hcr : c = s.rd a := by have := (hR a h1 h2).symm.trans hat; simpa using this.symm
              subst hcr
              go_wp2_with (go_at_call 16; refine (read_any hMr _ (by omega)).mono ?_; rintro e wq ⟨rfl, rfl⟩)
              go_round
              case rel => exact ⟨a + 1, by omega, by omega, rfl⟩
              case measure => simp [intOf]; omega
            · have hr0 : s.rd a = 0 := by simp [MS.rd, hw]
              go_wp2_with (go_at_call 16; refine (read_any hMr _ (by omega)).mono ?_; rintro e wq ⟨rfl, rfl⟩)
              go_round
              case rel => exact ⟨a + 1, by omega, by omega, rfl⟩
              case measure => simp [intOf]; omega
          · have ha : a = 34 := by omega
            subst ha
            go_wp2_with (go_at_call 18; refine (wakes2_any _).mono ?_; rintro e w9 ⟨rfl, hT9⟩)
            go_ret
            exact ⟨rfl, hB.trans (hT9.below hB.size (fun _ e => e.elim))⟩
    · clear p0 p1
      go_wp2
      go_loop [9] (fun i => ∃ a : Int, -2 ≤ a ∧ a ≤ 34 ∧ i = .int .i64 a) (fun i => (34 - intOf i).toNat)
      case atStart => exact ⟨-2, by omega, by omega, rfl⟩
      case round =>
        obtain ⟨a, g1, g2, rfl⟩ := hrel
        by_cases hlt : a < 34
        · have hin : (a < 0 ∧ s.hasW a = false) ∨ (0 ≤ a ∧ a < 32 ∧ s.hasW a = true) ∨ (0 ≤ a ∧ 32 ≤ a ∧ s.hasW a = false) := by
            by_cases h1 : a < 0
            · exact Or.inl ⟨h1, (s.hasW_no a).2 (by omega)⟩
            · by_cases h2 : a < 32
              · exact Or.inr (Or.inl ⟨by omega, h2, (s.hasW_iff a).2 (by rw [hn]; omega)⟩)
              · exact Or.inr (Or.inr ⟨by omega, by omega, (s.hasW_no a).2 (by rw [hn]; omega)⟩)
          rcases hin with ⟨h1, hw⟩ | ⟨h1, h2, hw⟩ | ⟨h1, h2, hw⟩
          · have hr0 : s.rd a = 0 := by simp [MS.rd, hw]
            go_wp2_with (go_at_call 16; refine (read_any hMr _ (by omega)).mono ?_; rintro e wq ⟨rfl, rfl⟩)
            go_round
            case rel => exact ⟨a + 1, by omega, by omega, rfl⟩
            case measure => simp [intOf]; omega
          · have hkey : keyOf Try.prog 3 (.int .i64 a) = some (.int .i64 a) := keyOf_int_mk Try.underlying3 (WalkArith.wf_i64 (by omega))
            obtain ⟨c, hrun, hat, _⟩ := hO.lookup_int lawI Try.underlying44 Try.underlying30 (zeroU _) hkey
            have hcr : c = s.rd a := by have := (hR a h1 h2).symm.trans hat; simpa using this.symm
            subst hcr
            go_wp2_with (go_at_call 16; refine (read_any hMr _ (by omega)).mono ?_; rintro e wq ⟨rfl, rfl⟩)
            go_round
            case rel => exact ⟨a + 1, by omega, by omega, rfl⟩
            case measure => simp [intOf]; omega
          · have hr0 : s.rd a = 0 := by simp [MS.rd, hw]
            go_wp2_with (go_at_call 16; refine (read_any hMr _ (by omega)).mono ?_; rintro e wq ⟨rfl, rfl⟩)
            go_round
            case rel => exact ⟨a + 1, by omega, by omega, rfl⟩
            case measure => simp [intOf]; omega
        · have ha : a = 34 := by omega
          subst ha
          go_wp2_with (go_at_call 18; refine (wakes2_any _).mono ?_; rintro e w9 ⟨rfl, hT9⟩)
          go_ret
          exact ⟨rfl, hB.trans (hT9.below hB.size (fun _ e => e.elim))⟩
end Go.Proofs.Ytcjjjlbafpefpaa
