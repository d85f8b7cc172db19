/-
  The law RegsKeeps, walked.
-/
import Derived.Test.YtdhamejgdapdjaaDoorRegH
import Derived.Test.YtdhamejgdapdjaaDoorSlices
import Derived.Deep.LoopGhost
namespace Go.Proofs.YtdhamejgdapdjaaDoor
open Go.ChangeShapes Go.WideShapes Go.ChangeAt Go.RowKit

set_option maxRecDepth 20000 in
set_option maxHeartbeats 2000000 in
theorem regsKeeps_walk (a n : Int) (a2 : Option Addr) (len2 cap2 : Nat) (z2 : List Int) (w : World) (w2 : Row .u64 w a2 len2 cap2 z2) (hV : Sh w) :
    Calls Tryd.prog 5 #[.int .i64 a, .int .i64 n, .slice a2 len2 cap2] w fun e w' => e = .returned (.bool true) ∧ Below w.heap.size w w' := by
  obtain ⟨mm, q2⟩ := w2.plain
  go_enter Tryd.func5, Tryd.ntmps5
  go_upto_block 0 with (go_at_call 17; refine (within_any _ _ _ (by decide) (by decide)).mono ?_; rintro e wq ⟨rfl, rfl⟩)
  have A0 := Int.emod_nonneg a (b := 8) (by omega)
  have A8 := Int.emod_lt_of_pos a (b := 8) (by omega)
  have N0 := Int.emod_nonneg n (b := 65536) (by omega)
  have N1 := Int.emod_lt_of_pos n (b := 65536) (by omega)
  have hI0 : IsF ((w.alloc (.cells #[.int .i64 1, .int .i64 (a % 8), .int .i64 0, .int .i64 (n % 65536), .int .i64 2, .int .i64 1, .int .i64 1, .int .i64 0] 32)).alloc (.cells #[.int .u64 0, .int .u64 0, .int .u64 0, .int .u64 0, .int .u64 0, .int .u64 0, .int .u64 0, .int .u64 0, .slice (some ⟨w.heap.size, 0, none⟩) 2 2, .int .i64 0] 45)) (w.heap.size + 1) (some ⟨w.heap.size, 0, none⟩) [⟨1, a % 8, 0, n % 65536⟩, ⟨2, 1, 1, 0⟩] := Or.inr ⟨_, by omega, rfl, (IRow.lit w #[.int .i64 1, .int .i64 (a % 8), .int .i64 0, .int .i64 (n % 65536), .int .i64 2, .int .i64 1, .int .i64 1, .int .i64 0] 32 [⟨1, a % 8, 0, n % 65536⟩, ⟨2, 1, 1, 0⟩] rfl).later ((Below.refl _ _).alloc (Nat.le_refl _) _)⟩
  have hB0 : SB ((w.alloc (.cells #[.int .i64 1, .int .i64 (a % 8), .int .i64 0, .int .i64 (n % 65536), .int .i64 2, .int .i64 1, .int .i64 1, .int .i64 0] 32)).alloc (.cells #[.int .u64 0, .int .u64 0, .int .u64 0, .int .u64 0, .int .u64 0, .int .u64 0, .int .u64 0, .int .u64 0, .slice (some ⟨w.heap.size, 0, none⟩) 2 2, .int .i64 0] 45)) (w.heap.size + 1) RS.zero (some ⟨w.heap.size, 0, none⟩) 2 2 := by
    have := heap_alloc_new (w.alloc (.cells #[.int .i64 1, .int .i64 (a % 8), .int .i64 0, .int .i64 (n % 65536), .int .i64 2, .int .i64 1, .int .i64 1, .int .i64 0] 32)) (.cells #[.int .u64 0, .int .u64 0, .int .u64 0, .int .u64 0, .int .u64 0, .int .u64 0, .int .u64 0, .int .u64 0, .slice (some ⟨w.heap.size, 0, none⟩) 2 2, .int .i64 0] 45)
    rw [World.size_alloc] at this
    exact this
  have hb0 : Below w.heap.size w ((w.alloc (.cells #[.int .i64 1, .int .i64 (a % 8), .int .i64 0, .int .i64 (n % 65536), .int .i64 2, .int .i64 1, .int .i64 1, .int .i64 0] 32)).alloc (.cells #[.int .u64 0, .int .u64 0, .int .u64 0, .int .u64 0, .int .u64 0, .int .u64 0, .int .u64 0, .int .u64 0, .slice (some ⟨w.heap.size, 0, none⟩) 2 2, .int .i64 0] 45)) := ((Below.refl _ w).alloc (Nat.le_refl _) _).alloc (by simp) _
  generalize (w.alloc (.cells #[.int .i64 1, .int .i64 (a % 8), .int .i64 0, .int .i64 (n % 65536), .int .i64 2, .int .i64 1, .int .i64 1, .int .i64 0] 32)).alloc (.cells #[.int .u64 0, .int .u64 0, .int .u64 0, .int .u64 0, .int .u64 0, .int .u64 0, .int .u64 0, .int .u64 0, .slice (some ⟨w.heap.size, 0, none⟩) 2 2, .int .i64 0] 45) = W at *
  generalize hAe : a % 8 = A at *
  generalize hMe : n % 65536 = M at *
  have hWA : ∀ wx, Calls Tryd.prog 17 #[.int .i64 a, .int .i64 8] wx fun e w' => e = .returned (.int .i64 A) ∧ wx = w' := fun wx => by rw [← hAe]; exact within_any a 8 wx (by decide) (by decide)
  have hWM : ∀ wx, Calls Tryd.prog 17 #[.int .i64 n, .int .i64 65536] wx fun e w' => e = .returned (.int .i64 M) ∧ wx = w' := fun wx => by rw [← hMe]; exact within_any n 65536 wx (by decide) (by decide)
  clear hAe hMe
  go_cut [8] (fun _ wr => ∃ rr : Nat → Int, SB wr (w.heap.size + 1) ⟨rr, 0⟩ (some ⟨w.heap.size, 0, none⟩) 2 2 ∧ IsF wr (w.heap.size + 1) (some ⟨w.heap.size, 0, none⟩) [⟨1, A, 0, M⟩, ⟨2, 1, 1, 0⟩] ∧ Below w.heap.size w wr)
  case first =>
    obtain ⟨K, hK⟩ : ∃ K : Nat, K = min len2 8 := ⟨_, rfl⟩
    go_wp2_with fail
    go_loopg [8] K (fun g i wr => ∃ (k : Nat) (rr : Nat → Int), g + k = K ∧ i = .int .i64 k ∧ SB wr (w.heap.size + 1) ⟨rr, 0⟩ (some ⟨w.heap.size, 0, none⟩) 2 2 ∧ IsF wr (w.heap.size + 1) (some ⟨w.heap.size, 0, none⟩) [⟨1, A, 0, M⟩, ⟨2, 1, 1, 0⟩] ∧ Below w.heap.size w wr)
    case atStart => exact ⟨0, fun _ => 0, by omega, rfl, hB0, hI0, hb0⟩
    case round =>
      obtain ⟨k, rr, hg, rfl, hSB, hI, hB⟩ := hrel
      by_cases hk : k < K
      · have k1 : (k : Int) < (len2 : Int) := by omega
        have k2 : (k : Int) < 8 := by omega
        rcases q2 with q2 | ⟨b2, o2, rfl, hb2, hc2⟩
        · omega
        have cc := Plain.cell hc2 hb2 hB k (by omega)
        have cs := hSB.cell (k := k) (by omega)
        have cf := cells_frozen hSB k
        go_wp2_with fail
        go_roundg (K - (k + 1))
        case measure => omega
        case rel => exact ⟨k + 1, _, by omega, by go_num, hSB.setR (by omega) _, hI.set _ _, hB.setCell (Nat.le_succ _) _⟩
      · have hx : ¬ ((k : Int) < (len2 : Int)) ∨ ((k : Int) < (len2 : Int)) ∧ ¬ ((k : Int) < 8) := by omega
        rcases hx with k1 | ⟨k1, k2⟩
        all_goals
          go_wp2_with fail
          go_meet
          exact ⟨rr, hSB, hI, hB⟩
  case rest =>
    obtain ⟨rr, hSB, hI, hB⟩ := hcut
    have hA : ∀ wx, SB wx (w.heap.size + 1) ⟨rr, 0⟩ (some ⟨w.heap.size, 0, none⟩) 2 2 → wx.cell? ⟨w.heap.size + 1, 0, none⟩ = some (.int .u64 (rr 0)) ∧ wx.cell? ⟨w.heap.size + 1, 1, none⟩ = some (.int .u64 (rr 1)) ∧ wx.cell? ⟨w.heap.size + 1, 2, none⟩ = some (.int .u64 (rr 2)) ∧ wx.cell? ⟨w.heap.size + 1, 3, none⟩ = some (.int .u64 (rr 3)) ∧ wx.cell? ⟨w.heap.size + 1, 4, none⟩ = some (.int .u64 (rr 4)) ∧ wx.cell? ⟨w.heap.size + 1, 5, none⟩ = some (.int .u64 (rr 5)) ∧ wx.cell? ⟨w.heap.size + 1, 6, none⟩ = some (.int .u64 (rr 6)) ∧ wx.cell? ⟨w.heap.size + 1, 7, none⟩ = some (.int .u64 (rr 7)) ∧ wx.cell? ⟨w.heap.size + 1, 8, none⟩ = some (.slice (some ⟨w.heap.size, 0, none⟩) 2 2) ∧ wx.cell? ⟨w.heap.size + 1, 9, none⟩ = some (.int .i64 0) := fun wx hs => by
      obtain ⟨y0, y1, y2, y3, y4, y5, y6, y7, y8, y9⟩ := SCells.of hs
      exact ⟨y0, y1, y2, y3, y4, y5, y6, y7, y8, y9⟩
    go_upto_region 6 with fail
    obtain ⟨gl, hgl, hgr⟩ : ∃ gl, (some ⟨w.heap.size, 0, none⟩ : Option Addr) = some ⟨gl, 0, none⟩ ∧ IRow wc gl [⟨1, A, 0, M⟩, ⟨2, 1, 1, 0⟩] := by
      rcases hI.toL with h | h
      · cases h
      · exact h
    cases hgl
    go_cut [9, 10] (fun v9 v10 wx => ∃ P9 g' c', v9 = .pointer (some ⟨P9, 0, none⟩) ∧ v10 = .slice (some ⟨g', 0, none⟩) 2 c' ∧ SB wx P9 ⟨rr, 0⟩ (some ⟨w.heap.size, 0, none⟩) 2 2 ∧ SB wx (w.heap.size + 1) ⟨rr, 0⟩ (some ⟨w.heap.size, 0, none⟩) 2 2 ∧ IsL wx (some ⟨g', 0, none⟩) [⟨1, A, 0, M⟩, ⟨2, 1, 1, 0⟩] ∧ IsL wx (some ⟨w.heap.size, 0, none⟩) [⟨1, A, 0, M⟩, ⟨2, 1, 1, 0⟩] ∧ Below w.heap.size w wx)
    case first =>
      refine wp_region_held_drew (S := fun wx => wx.cell? ⟨w.heap.size + 1, 0, none⟩ = some (.int .u64 (rr 0)) ∧ wx.cell? ⟨w.heap.size + 1, 1, none⟩ = some (.int .u64 (rr 1)) ∧ wx.cell? ⟨w.heap.size + 1, 2, none⟩ = some (.int .u64 (rr 2)) ∧ wx.cell? ⟨w.heap.size + 1, 3, none⟩ = some (.int .u64 (rr 3)) ∧ wx.cell? ⟨w.heap.size + 1, 4, none⟩ = some (.int .u64 (rr 4)) ∧ wx.cell? ⟨w.heap.size + 1, 5, none⟩ = some (.int .u64 (rr 5)) ∧ wx.cell? ⟨w.heap.size + 1, 6, none⟩ = some (.int .u64 (rr 6)) ∧ wx.cell? ⟨w.heap.size + 1, 7, none⟩ = some (.int .u64 (rr 7)) ∧ wx.cell? ⟨w.heap.size + 1, 8, none⟩ = some (.slice (some ⟨w.heap.size, 0, none⟩) 2 2) ∧ wx.cell? ⟨w.heap.size + 1, 9, none⟩ = some (.int .i64 0)) (by kernel_rfl) (hA wc.drew hSB) (fun hHeld => ?_)
      refine wpAnyH_take (i := 0) (oi := { dst := some 40, op := Op.load 45 (Operand.tmp 7), type := 45, pos := "far.go:41", after := #[], guard := none }) (v := ?_) rfl (by kernel_rfl) (by kernel_rfl) (by kernel_rfl) (fun _ _ _ h => h) (Or.inl ⟨by rfl, ?_⟩) (by assumption) ?_
      rotate_left
      · intro wz hSw; (try dsimp only at hSw); go_simp; try with_reducible rfl
      try simp only [Act.put, List.setIfInBounds_toArray, List.set_cons_zero, List.set_cons_succ]
      refine wpAnyH_take (i := 1) (oi := { dst := some 41, op := Op.fieldAddr 45 (Operand.tmp 7) 1, type := 0, pos := "far.go:41", after := #[], guard := none }) (v := ?_) rfl (by kernel_rfl) (by kernel_rfl) (by kernel_rfl) (fun _ _ _ h => h) (Or.inl ⟨by rfl, ?_⟩) (by assumption) ?_
      rotate_left
      · intro wz hSw; (try dsimp only at hSw); go_simp; try with_reducible rfl
      try simp only [Act.put, List.setIfInBounds_toArray, List.set_cons_zero, List.set_cons_succ]
      refine wpAnyH_take (i := 2) (oi := { dst := some 42, op := Op.load 24 (Operand.tmp 41), type := 24, pos := "far.go:41", after := #[{ on := 1, ground := Ground.data }], guard := none }) (v := ?_) rfl (by kernel_rfl) (by kernel_rfl) (by kernel_rfl) (fun _ _ _ h => h) (Or.inl ⟨by rfl, ?_⟩) (by assumption) ?_
      rotate_left
      · intro wz hSw; (try dsimp only at hSw); go_simp; try with_reducible rfl
      try simp only [Act.put, List.setIfInBounds_toArray, List.set_cons_zero, List.set_cons_succ]
      refine wpAnyH_ready (rs := [3, 4]) (by kernel_rfl) (by simp) ?_
      refine AllReadyH.cons (o := { dst := some 43, op := Op.call { callee := Callee.builtin Builtin.append, args := #[Operand.const (Value.slice none 0 0), Operand.tmp 42], argTypes := #[24, 24] }, type := 24, pos := "far.go:41", after := #[{ on := 2, ground := Ground.data }], guard := none }) rfl (fun K hK => ?_) (AllReadyH.cons (o := { dst := some 9, op := Op.alloc 45, type := 0, pos := "far.go:41", after := #[], guard := none }) rfl (fun K hK => ?_) AllReadyH.nil)
      · obtain ⟨g', c', wA, hr, hIA, bA⟩ := app_nil (wp := wc.drew) (c := 2) hgr (by simp) (by simp)
        refine stepAppend (P := Tryd.prog) rfl (.const (.slice none 0 0)) (.tmp 42) 24 rfl (.slice none 0 0) (.slice (some ⟨w.heap.size, 0, none⟩) 2 2) (by simp [Act.eval]) (by simp [Act.eval]) 24 rfl hr ?_
        have bA := undrew bA
        refine hK.out _ _ (hA _ (hSB.later bA)) (fun hHeld => ?_)
        clear hK K
        try simp only [Act.put, List.setIfInBounds_toArray, List.set_cons_zero, List.set_cons_succ]
        refine wpAnyH_ready (rs := [4]) (by kernel_rfl) (by simp) ?_
        refine AllReadyH.cons (o := { dst := some 9, op := Op.alloc 45, type := 0, pos := "far.go:41", after := #[], guard := none }) rfl (fun K hK => ?_) AllReadyH.nil
        go_simp
        have bZ := bA.alloc bA.size (.cells zCells 45)
        have S6 := hSB.later bZ
        have hZ6 := heap_alloc_new wA (.cells zCells 45)
        have hlt := hSB.lt
        have hne9 : w.heap.size + 1 ≠ wA.heap.size := by have := bA.size; omega
        have hI6 : IsF (wA.alloc (.cells zCells 45)) wA.heap.size (some ⟨g', 0, none⟩) [⟨1, A, 0, M⟩, ⟨2, 1, 1, 0⟩] := IsF.of (hIA.toL.later ((Below.refl _ wA).alloc (Nat.le_refl _) _)) (fun g hg => by
          cases hg
          rcases hIA with h | ⟨g2, _, hg2, hr2⟩
          · cases h
          · cases hg2; have := hr2.lt; omega)
        have hL6 : IsF (wA.alloc (.cells zCells 45)) wA.heap.size (some ⟨w.heap.size, 0, none⟩) [⟨1, A, 0, M⟩, ⟨2, 1, 1, 0⟩] := IsF.of (hI.toL.later bZ) (fun g hg => by cases hg; have := bA.size; omega)
        have hB6 := past hB bZ
        have hle : w.heap.size ≤ wA.heap.size := by have := bA.size; omega
        generalize wA.alloc (.cells zCells 45) = W6 at *
        generalize wA.heap.size = P9 at *
        have f1 := (SB.zero hZ6).put ⟨rr, 0⟩ (some ⟨w.heap.size, 0, none⟩) 2 2
        have f2 := S6.other hne9 ⟨rr, 0⟩ (some ⟨w.heap.size, 0, none⟩) 2 2
        have f3 := (IsF.put hI6 ⟨rr, 0⟩ (some ⟨w.heap.size, 0, none⟩) 2 2).toL
        have f4 := (IsF.put hL6 ⟨rr, 0⟩ (some ⟨w.heap.size, 0, none⟩) 2 2).toL
        have f5 := put10_below (s := ⟨rr, 0⟩) (a := some ⟨w.heap.size, 0, none⟩) (n := 2) (c := 2) hB6 hle
        dsimp only [put10] at f1 f2 f3 f4 f5
        obtain ⟨m0, m1, m2, m3, m4, m5, m6, m7, m8, m9⟩ := SCells.of (r := fun _ => 0) hZ6
        have mf := cells_frozen hZ6
        refine hK.out _ _ (hA _ S6) (fun hHeld => ?_)
        clear hK K
        try simp only [Act.put, List.setIfInBounds_toArray, List.set_cons_zero, List.set_cons_succ]
        refine wpAnyH_ready (rs := [5]) (by kernel_rfl) (by simp) ?_
        refine AllReadyH.cons (o := { dst := none, op := Op.store 45 (Operand.tmp 9) (Operand.tmp 40), type := 0, pos := "far.go:41", after := #[{ on := 4, ground := Ground.data }, { on := 0, ground := Ground.data }, { on := 3, ground := Ground.chain }, { on := 0, ground := Ground.phase }, { on := 1, ground := Ground.textOnly Departure.lateStores }, { on := 2, ground := Ground.textOnly Departure.lateStores }, { on := 3, ground := Ground.textOnly Departure.lateStoresUnsure }, { on := 4, ground := Ground.phase }], guard := none }) rfl (fun K hK => ?_) AllReadyH.nil
        go_simp
        refine hK.out _ _ (hA _ f2) (fun hHeld => ?_)
        clear hK K
        try simp only [Act.put, List.setIfInBounds_toArray, List.set_cons_zero, List.set_cons_succ]
        refine wpAnyH_take (i := 6) (oi := { dst := some 10, op := Op.assign (Operand.tmp 43), type := 24, pos := "far.go:41", after := #[{ on := 3, ground := Ground.data }, { on := 5, ground := Ground.chain }, { on := 0, ground := Ground.phase }, { on := 1, ground := Ground.phase }, { on := 2, ground := Ground.phase }, { on := 3, ground := Ground.phase }, { on := 4, ground := Ground.phase }, { on := 5, ground := Ground.phase }], guard := none }) (v := ?_) rfl (by kernel_rfl) (by kernel_rfl) (by kernel_rfl) (fun _ _ _ h => h) (Or.inl ⟨by rfl, ?_⟩) (by assumption) ?_
        rotate_left
        · intro wz hSw; (try dsimp only at hSw); go_simp; try with_reducible rfl
        try simp only [Act.put, List.setIfInBounds_toArray, List.set_cons_zero, List.set_cons_succ]
        refine wpAnyH_done (by kernel_rfl) ?_ _
        go_wp2
        go_meet
        exact ⟨P9, g', c', rfl, rfl, f1, f2, f3, f4, f5⟩
      · go_simp
        have bZ : Below wc.heap.size wc (wc.alloc (.cells zCells 45)) := (Below.refl _ wc).alloc (Nat.le_refl _) _
        refine hK.out _ _ (hA _ (hSB.later bZ.drew)) (fun hHeld => ?_)
        clear hK K
        try simp only [Act.put, List.setIfInBounds_toArray, List.set_cons_zero, List.set_cons_succ]
        refine wpAnyH_ready (rs := [3]) (by kernel_rfl) (by simp) ?_
        refine AllReadyH.cons (o := { dst := some 43, op := Op.call { callee := Callee.builtin Builtin.append, args := #[Operand.const (Value.slice none 0 0), Operand.tmp 42], argTypes := #[24, 24] }, type := 24, pos := "far.go:41", after := #[{ on := 2, ground := Ground.data }], guard := none }) rfl (fun K hK => ?_) AllReadyH.nil
        obtain ⟨g', c', wA, hr, hIA, bA⟩ := app_nil (wp := (wc.alloc (.cells zCells 45)).drew) (c := 2) (hgr.later bZ.drew) (by simp) (by simp)
        refine stepAppend (P := Tryd.prog) rfl (.const (.slice none 0 0)) (.tmp 42) 24 rfl (.slice none 0 0) (.slice (some ⟨w.heap.size, 0, none⟩) 2 2) (by simp [Act.eval]) (by simp [Act.eval]) 24 rfl hr ?_
        have bA := undrew bA
        have b6 := past bZ bA
        have S6 := hSB.later b6
        have hZ6 := cells_of (heap_alloc_new wc (.cells zCells 45)) bA
        have hlt := hSB.lt
        have hne9 : w.heap.size + 1 ≠ wc.heap.size := by omega
        have hI6 : IsF wA wc.heap.size (some ⟨g', 0, none⟩) [⟨1, A, 0, M⟩, ⟨2, 1, 1, 0⟩] := IsF.of hIA.toL (fun g hg => by
          cases hg
          rcases hIA with h | ⟨g2, hge, hg2, hr2⟩
          · cases h
          · cases hg2; have : wc.heap.size + 1 ≤ g' := by simpa using hge
            omega)
        have hL6 : IsF wA wc.heap.size (some ⟨w.heap.size, 0, none⟩) [⟨1, A, 0, M⟩, ⟨2, 1, 1, 0⟩] := IsF.of (hI.toL.later b6) (fun g hg => by cases hg; omega)
        have hB6 := past hB b6
        have hle : w.heap.size ≤ wc.heap.size := by omega
        generalize wc.heap.size = P9 at *
        have f1 := (SB.zero hZ6).put ⟨rr, 0⟩ (some ⟨w.heap.size, 0, none⟩) 2 2
        have f2 := S6.other hne9 ⟨rr, 0⟩ (some ⟨w.heap.size, 0, none⟩) 2 2
        have f3 := (IsF.put hI6 ⟨rr, 0⟩ (some ⟨w.heap.size, 0, none⟩) 2 2).toL
        have f4 := (IsF.put hL6 ⟨rr, 0⟩ (some ⟨w.heap.size, 0, none⟩) 2 2).toL
        have f5 := put10_below (s := ⟨rr, 0⟩) (a := some ⟨w.heap.size, 0, none⟩) (n := 2) (c := 2) hB6 hle
        dsimp only [put10] at f1 f2 f3 f4 f5
        obtain ⟨m0, m1, m2, m3, m4, m5, m6, m7, m8, m9⟩ := SCells.of (r := fun _ => 0) hZ6
        have mf := cells_frozen hZ6
        refine hK.out _ _ (hA _ S6) (fun hHeld => ?_)
        clear hK K
        try simp only [Act.put, List.setIfInBounds_toArray, List.set_cons_zero, List.set_cons_succ]
        refine wpAnyH_ready (rs := [5]) (by kernel_rfl) (by simp) ?_
        refine AllReadyH.cons (o := { dst := none, op := Op.store 45 (Operand.tmp 9) (Operand.tmp 40), type := 0, pos := "far.go:41", after := #[{ on := 4, ground := Ground.data }, { on := 0, ground := Ground.data }, { on := 3, ground := Ground.chain }, { on := 0, ground := Ground.phase }, { on := 1, ground := Ground.textOnly Departure.lateStores }, { on := 2, ground := Ground.textOnly Departure.lateStores }, { on := 3, ground := Ground.textOnly Departure.lateStoresUnsure }, { on := 4, ground := Ground.phase }], guard := none }) rfl (fun K hK => ?_) AllReadyH.nil
        go_simp
        refine hK.out _ _ (hA _ f2) (fun hHeld => ?_)
        clear hK K
        try simp only [Act.put, List.setIfInBounds_toArray, List.set_cons_zero, List.set_cons_succ]
        refine wpAnyH_take (i := 6) (oi := { dst := some 10, op := Op.assign (Operand.tmp 43), type := 24, pos := "far.go:41", after := #[{ on := 3, ground := Ground.data }, { on := 5, ground := Ground.chain }, { on := 0, ground := Ground.phase }, { on := 1, ground := Ground.phase }, { on := 2, ground := Ground.phase }, { on := 3, ground := Ground.phase }, { on := 4, ground := Ground.phase }, { on := 5, ground := Ground.phase }], guard := none }) (v := ?_) rfl (by kernel_rfl) (by kernel_rfl) (by kernel_rfl) (fun _ _ _ h => h) (Or.inl ⟨by rfl, ?_⟩) (by assumption) ?_
        rotate_left
        · intro wz hSw; (try dsimp only at hSw); go_simp; try with_reducible rfl
        try simp only [Act.put, List.setIfInBounds_toArray, List.set_cons_zero, List.set_cons_succ]
        refine wpAnyH_done (by kernel_rfl) ?_ _
        go_wp2
        go_meet
        exact ⟨P9, g', c', rfl, rfl, f1, f2, f3, f4, f5⟩
    case rest =>
      obtain ⟨P9, g', c', rfl, rfl, hSw, hSB, hIc, hIl, hB⟩ := hcut
      obtain ⟨y0, y1, y2, y3, y4, y5, y6, y7, y8, y9⟩ := SCells.of hSB
      have hok : okP ⟨1, A, 0, M⟩ = true := by
        simp only [okP, shape, fitP, if_true, Bool.and_eq_true, decide_eq_true_eq]
        simp; omega
      have hpl : plainP [⟨1, A, 0, M⟩, ⟨2, 1, 1, 0⟩] ⟨rr, 0⟩ = some ((RS.set ⟨rr, 0⟩ A M).on 2) := by
        unfold plainP nextP
        simp [hok, plainX]
      have hP := plain_some (n := 2) (c := 2) rfl hpl hIl (by simp) (by simp) (hV.later hB)
      have s2pc : Hid (((RS.set ⟨rr, 0⟩ A M).on 2).pc = 1) := by
        show _ = _
        unfold RS.set; rw [if_pos ⟨A0, A8⟩]; simp [RS.on, RS.go]
      have s2r : Hid (∀ j, ((RS.set ⟨rr, 0⟩ A M).on 2).r j = if j = A.toNat then M else rr j) := by
        show ∀ j, _ = _
        unfold RS.set; rw [if_pos ⟨A0, A8⟩]; simp [RS.on, RS.go]
      have hF := fun wx (h : IsL wx (some ⟨w.heap.size, 0, none⟩) [⟨1, A, 0, M⟩, ⟨2, 1, 1, 0⟩]) => fault_some (n := 2) (c := 2) (s := ⟨rr, 0⟩) 1 rfl rfl h (by simp) (by simp) (by decide)
      have fpc : Hid ((faultP 2 ⟨rr, 0⟩ 1).pc = 1) := by show _ = _; simp [faultP, RS.set, RS.on, RS.go]
      generalize (RS.set ⟨rr, 0⟩ A M).on 2 = s2 at *
      generalize faultP 2 ⟨rr, 0⟩ 1 = s3 at *
      unfold stV at hP
      go_upto_region 8 with (go_at_call 18; refine hP.mono ?_; rintro e w3 ⟨a', c3, rfl, hI3, b3⟩)
      have b3a := b3.alloc b3.size (.cells #[.int .u64 (s2.r 0), .int .u64 (s2.r 1), .int .u64 (s2.r 2), .int .u64 (s2.r 3), .int .u64 (s2.r 4), .int .u64 (s2.r 5), .int .u64 (s2.r 6), .int .u64 (s2.r 7), .slice a' 2 c3, .int .i64 s2.pc] 45)
      have hSt : SB (w3.alloc (.cells #[.int .u64 (s2.r 0), .int .u64 (s2.r 1), .int .u64 (s2.r 2), .int .u64 (s2.r 3), .int .u64 (s2.r 4), .int .u64 (s2.r 5), .int .u64 (s2.r 6), .int .u64 (s2.r 7), .slice a' 2 c3, .int .i64 s2.pc] 45)) w3.heap.size s2 a' 2 c3 := heap_alloc_new w3 _
      have hI3' := (hI3.alloc (.cells #[.int .u64 (s2.r 0), .int .u64 (s2.r 1), .int .u64 (s2.r 2), .int .u64 (s2.r 3), .int .u64 (s2.r 4), .int .u64 (s2.r 5), .int .u64 (s2.r 6), .int .u64 (s2.r 7), .slice a' 2 c3, .int .i64 s2.pc] 45)).toL
      have hSB := hSB.later b3a
      have hSw := hSw.later b3a
      have hIc := hIc.later b3a
      have hIl := hIl.later b3a
      have hB := past hB b3a
      clear hI3 y0 y1 y2 y3 y4 y5 y6 y7 y8 y9 hP b3a
      generalize w3.alloc (.cells #[.int .u64 (s2.r 0), .int .u64 (s2.r 1), .int .u64 (s2.r 2), .int .u64 (s2.r 3), .int .u64 (s2.r 4), .int .u64 (s2.r 5), .int .u64 (s2.r 6), .int .u64 (s2.r 7), .slice a' 2 c3, .int .i64 s2.pc] 45) = W3 at *
      generalize w3.heap.size = Pt at *
      obtain ⟨y0, y1, y2, y3, y4, y5, y6, y7, y8, y9⟩ := SCells.of hSB
      have hF := hF W3 hIl
      unfold stV at hF
      go_upto_region 9 with (go_at_call 22; refine hF.mono ?_; rintro e w4 ⟨a4, c4, rfl, hI4, b4⟩)
      have b4a := b4.alloc b4.size (.cells #[.int .u64 (s3.r 0), .int .u64 (s3.r 1), .int .u64 (s3.r 2), .int .u64 (s3.r 3), .int .u64 (s3.r 4), .int .u64 (s3.r 5), .int .u64 (s3.r 6), .int .u64 (s3.r 7), .slice a4 2 c4, .int .i64 s3.pc] 45)
      have hSu : SB (w4.alloc (.cells #[.int .u64 (s3.r 0), .int .u64 (s3.r 1), .int .u64 (s3.r 2), .int .u64 (s3.r 3), .int .u64 (s3.r 4), .int .u64 (s3.r 5), .int .u64 (s3.r 6), .int .u64 (s3.r 7), .slice a4 2 c4, .int .i64 s3.pc] 45)) w4.heap.size s3 a4 2 c4 := heap_alloc_new w4 _
      have hSt := hSt.later b4a
      have hSB := hSB.later b4a
      have hSw := hSw.later b4a
      have hIc := hIc.later b4a
      have hIl := hIl.later b4a
      have hI3' := hI3'.later b4a
      have hB := past hB b4a
      clear hI4 y0 y1 y2 y3 y4 y5 y6 y7 y8 y9 hF b4a
      generalize w4.alloc (.cells #[.int .u64 (s3.r 0), .int .u64 (s3.r 1), .int .u64 (s3.r 2), .int .u64 (s3.r 3), .int .u64 (s3.r 4), .int .u64 (s3.r 5), .int .u64 (s3.r 6), .int .u64 (s3.r 7), .slice a4 2 c4, .int .i64 s3.pc] 45) = W4 at *
      generalize w4.heap.size = Pu at *
      obtain ⟨y0, y1, y2, y3, y4, y5, y6, y7, y8, y9⟩ := SCells.of hSB
      obtain ⟨v0, v1, v2, v3, v4, v5, v6, v7, v8, v9⟩ := SCells.of hSw
      have hSm : Calls Tryd.prog 12 #[.slice (some ⟨w.heap.size, 0, none⟩) 2 2, .slice (some ⟨g', 0, none⟩) 2 c'] W4 fun e w' => e = .returned (.bool true) ∧ w'.cell? ⟨Pt, 9, none⟩ = some (.int .i64 1) ∧ w'.cell? ⟨Pu, 9, none⟩ = some (.int .i64 1) ∧ SB w' Pt s2 a' 2 c3 ∧ SB w' P9 ⟨rr, 0⟩ (some ⟨w.heap.size, 0, none⟩) 2 2 ∧ IsL w' a' [⟨1, A, 0, M⟩, ⟨2, 1, 1, 0⟩] ∧ IsL w' (some ⟨g', 0, none⟩) [⟨1, A, 0, M⟩, ⟨2, 1, 1, 0⟩] ∧ Below w.heap.size w w' := by
        refine (same_n (n := 2) rfl hIl hIc (by simp)).mono ?_
        rintro e w5 ⟨he, b5⟩
        have ht := (SCells.of (hSt.later b5)).c9
        have hu := (SCells.of (hSu.later b5)).c9
        rw [s2pc.out] at ht
        rw [fpc.out] at hu
        exact ⟨he, ht, hu, hSt.later b5, hSw.later b5, hI3'.later b5, hIc.later b5, past hB b5⟩
      clear hSu hSt hSw hIc hIl hI3' hSB hB
      have heq := eq8 (rr 0) (rr 1) (rr 2) (rr 3) (rr 4) (rr 5) (rr 6) (rr 7)
      go_upto_region 11 with (go_at_call 12; refine hSm.mono ?_; rintro e w5 ⟨rfl, ht, hu, hSt, hSw, hIt, hIc, hB⟩)
      obtain ⟨v0, v1, v2, v3, v4, v5, v6, v7, v8, v9⟩ := SCells.of hSw
      clear ht hu hSw hSm y0 y1 y2 y3 y4 y5 y6 y7 y8 y9
      go_upto_region 12 with fail
      have bR := (Below.refl w5.heap.size w5).alloc (Nat.le_refl _) (.cells #[.int .u64 (rr 0), .int .u64 (rr 1), .int .u64 (rr 2), .int .u64 (rr 3), .int .u64 (rr 4), .int .u64 (rr 5), .int .u64 (rr 6), .int .u64 (rr 7)] 43)
      have hR : RB (w5.alloc (.cells #[.int .u64 (rr 0), .int .u64 (rr 1), .int .u64 (rr 2), .int .u64 (rr 3), .int .u64 (rr 4), .int .u64 (rr 5), .int .u64 (rr 6), .int .u64 (rr 7)] 43)) w5.heap.size rr := heap_alloc_new w5 _
      have hle : w.heap.size ≤ w5.heap.size := hB.size
      have hRc := hR.cell (k := A.toNat) (by omega)
      have hRf := cells_frozen hR A.toNat
      have b7 : Below w5.heap.size w5 ((w5.alloc (.cells #[.int .u64 (rr 0), .int .u64 (rr 1), .int .u64 (rr 2), .int .u64 (rr 3), .int .u64 (rr 4), .int .u64 (rr 5), .int .u64 (rr 6), .int .u64 (rr 7)] 43)).setCell ⟨w5.heap.size, A.toNat, none⟩ (.int .u64 M)) := bR.setCell (Nat.le_refl _) _
      have hR7 : RB ((w5.alloc (.cells #[.int .u64 (rr 0), .int .u64 (rr 1), .int .u64 (rr 2), .int .u64 (rr 3), .int .u64 (rr 4), .int .u64 (rr 5), .int .u64 (rr 6), .int .u64 (rr 7)] 43)).setCell ⟨w5.heap.size, A.toNat, none⟩ (.int .u64 M)) w5.heap.size s2.r := by
        have := hR.setR (k := A.toNat) (by omega) M
        unfold RB at this ⊢
        simpa only [s2r.out] using this
      have hSt7 := hSt.later b7
      have hIt7 := hIt.later b7
      have hIc7 := hIc.later b7
      have hB7 := past hB b7
      have hM : IntKind.u64.wrap M = M := by rw [u64w]; omega
      clear bR hSt hIt hIc hB b7 v0 v1 v2 v3 v4 v5 v6 v7 v8 v9
      generalize w5.alloc (.cells #[.int .u64 (rr 0), .int .u64 (rr 1), .int .u64 (rr 2), .int .u64 (rr 3), .int .u64 (rr 4), .int .u64 (rr 5), .int .u64 (rr 6), .int .u64 (rr 7)] 43) = W6 at *
      generalize w5.heap.size = Pw at *
      go_upto_region 13 with (first | (go_at_call 17; with_reducible refine (hWA _).mono ?_; rintro e wq ⟨rfl, rfl⟩) | (go_at_call 17; with_reducible refine (hWM _).mono ?_; rintro e wq ⟨rfl, rfl⟩))
      generalize W6.setCell ⟨Pw, A.toNat, none⟩ (.int .u64 M) = W7 at *
      obtain ⟨t0, t1, t2, t3, t4, t5, t6, t7, t8, t9⟩ := SCells.of hSt7
      obtain ⟨r0, r1, r2, r3, r4, r5, r6, r7⟩ := hR7.all
      have heq := eq8 (s2.r 0) (s2.r 1) (s2.r 2) (s2.r 3) (s2.r 4) (s2.r 5) (s2.r 6) (s2.r 7)
      go_wp2_with (go_at_call 12; refine (same_n (n := 2) rfl hIt7 hIc7 (by simp)).mono ?_; rintro e w8 ⟨rfl, b8⟩)
      refine (wakes8 _ (hV.later (past hB7 b8))).mono ?_
      rintro e w9 ⟨rfl, b9⟩
      go_wp2_with fail
      go_ret
      exact ⟨rfl, past (past hB7 b8) b9⟩
end Go.Proofs.YtdhamejgdapdjaaDoor
