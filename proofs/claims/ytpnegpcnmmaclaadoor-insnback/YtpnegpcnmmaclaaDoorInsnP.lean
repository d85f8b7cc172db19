/-
  insn: Parse.
-/
import Derived.Test.YtpnegpcnmmaclaaDoorInsnE
namespace Go.Proofs.YtpnegpcnmmaclaaDoor
open Go.ChangeShapes Go.WideShapes Go.ChangeAt Go.RowKit

theorem guess_ok_parse (s : List UInt8) (h1 : okP (guessP s) = true) (h2 : (prP (guessP s) == s) = true) : parseP s = some (guessP s) := by
  unfold parseP; rw [h1, h2]; rfl

/-- What Parse answers. -/
def parseV (s : List UInt8) : Value := match parseP s with
  | some x => .tuple #[insV x, .int .i64 0]
  | none => .tuple #[insV ⟨0, 0, 0, 0⟩, .int .i64 2]
theorem four_cells {w : World} {R : Nat} {v0 v1 v2 v3 : Value} {t : TypeId} (h : w.heap[R]? = some (.cells #[v0, v1, v2, v3] t (0, 0))) :
    w.cell? ⟨R, 0, none⟩ = some v0 ∧ w.cell? ⟨R, 1, none⟩ = some v1 ∧ w.cell? ⟨R, 2, none⟩ = some v2 ∧ w.cell? ⟨R, 3, none⟩ = some v3 ∧ ∀ i, w.frozen? ⟨R, i, none⟩ = false := by
  simp [World.cell?, World.frozen?, h]
set_option maxHeartbeats 1000000 in
theorem parse_any (s : ByteArray) (hs : s.size ≤ 1000000) (w : World) (hV : Vs w) :
    Calls Tryd.prog 11 #[.string s] w fun e w' => e = .returned (parseV s.data.toList) ∧ Below w.heap.size w w' := by
  obtain ⟨x, hx⟩ : ∃ x, Hid (guessP s.data.toList = x) := ⟨_, rfl⟩
  have hg := guess_any s hs
  rw [hx.out] at hg
  cases hk : okP x
  · have e : parseV s.data.toList = .tuple #[insV ⟨0, 0, 0, 0⟩, .int .i64 2] := by unfold parseV parseP; rw [hx.out, hk]; rfl
    rw [e]
    go_enter Tryd.func11, Tryd.ntmps11
    go_wp2_with fail
    refine (hg _ (hV.alloc _)).mono ?_
    rintro e w1 ⟨rfl, b1⟩
    unfold insV
    go_wp2_with fail
    have V1 := (hV.alloc _).later b1
    have hR1 := (b1.block _ (by simp)).trans (heap_alloc_new w _)
    have hl1 := lt_of_block hR1
    refine (print_no x _ (V1.alloc _) hk).mono ?_
    rintro e w2 ⟨rfl, b2⟩
    have hR2 := (b2.block _ (by simp; omega)).trans ((Below.heap_alloc _ _ _ hl1).trans hR1)
    have hX2 := (b2.block _ (by simp)).trans (heap_alloc_new w1 _)
    obtain ⟨r0, r1, r2, r3, zr⟩ := four_cells hR2
    obtain ⟨x0, x1, x2, x3, zx⟩ := four_cells hX2
    have hne : ¬ w.heap.size = w1.heap.size := by omega
    have c1 : Below w.heap.size w w1 := past_alloc (Below.refl _ w) (Nat.le_refl _) b1
    have C : Below w.heap.size w w2 := past_alloc c1 c1.size b2
    clear hR1 hl1 hR2 hX2
    go_wp2_with fail
    refine bodyPost_ret (v := .tuple #[.agg #[.int .i64 0, .int .i64 0, .int .i64 0, .int .i64 0], .int .i64 2]) (by simp [results, Tryd.results11, go_sem, r0, r1, r2, r3]) rfl ⟨rfl, ((((C.setCell (p := ⟨w.heap.size, 0, none⟩) (Nat.le_refl _) _).setCell (p := ⟨w.heap.size, 1, none⟩) (Nat.le_refl _) _).setCell (p := ⟨w.heap.size, 2, none⟩) (Nat.le_refl _) _).setCell (p := ⟨w.heap.size, 3, none⟩) (Nat.le_refl _) _)⟩
  · cases hb : (prP x == s.toList)
    · have e : parseV s.data.toList = .tuple #[insV ⟨0, 0, 0, 0⟩, .int .i64 2] := by unfold parseV parseP; rw [hx.out, hk, ← ByteArray.toList_eq, hb]; rfl
      rw [e]
      go_enter Tryd.func11, Tryd.ntmps11
      go_wp2_with fail
      refine (hg _ (hV.alloc _)).mono ?_
      rintro e w1 ⟨rfl, b1⟩
      unfold insV
      go_wp2_with fail
      have V1 := (hV.alloc _).later b1
      have hR1 := (b1.block _ (by simp)).trans (heap_alloc_new w _)
      have hl1 := lt_of_block hR1
      refine (print_ok x _ (V1.alloc _) hk).mono ?_
      rintro e w2 ⟨rfl, b2⟩
      have hR2 := (b2.block _ (by simp; omega)).trans ((Below.heap_alloc _ _ _ hl1).trans hR1)
      have hX2 := (b2.block _ (by simp)).trans (heap_alloc_new w1 _)
      obtain ⟨r0, r1, r2, r3, zr⟩ := four_cells hR2
      obtain ⟨x0, x1, x2, x3, zx⟩ := four_cells hX2
      have hne : ¬ w.heap.size = w1.heap.size := by omega
      have c1 : Below w.heap.size w w1 := past_alloc (Below.refl _ w) (Nat.le_refl _) b1
      have C : Below w.heap.size w w2 := past_alloc c1 c1.size b2
      clear hR1 hl1 hR2 hX2
      go_wp2_with fail
      refine bodyPost_ret (v := .tuple #[.agg #[.int .i64 0, .int .i64 0, .int .i64 0, .int .i64 0], .int .i64 2]) (by simp [results, Tryd.results11, go_sem, r0, r1, r2, r3]) rfl ⟨rfl, ((((C.setCell (p := ⟨w.heap.size, 0, none⟩) (Nat.le_refl _) _).setCell (p := ⟨w.heap.size, 1, none⟩) (Nat.le_refl _) _).setCell (p := ⟨w.heap.size, 2, none⟩) (Nat.le_refl _) _).setCell (p := ⟨w.heap.size, 3, none⟩) (Nat.le_refl _) _)⟩
    · have e : parseV s.data.toList = .tuple #[insV x, .int .i64 0] := by unfold parseV parseP; rw [hx.out, hk, ← ByteArray.toList_eq, hb]; rfl
      rw [e]
      go_enter Tryd.func11, Tryd.ntmps11
      go_wp2_with fail
      refine (hg _ (hV.alloc _)).mono ?_
      rintro e w1 ⟨rfl, b1⟩
      unfold insV
      go_wp2_with fail
      have V1 := (hV.alloc _).later b1
      have hR1 := (b1.block _ (by simp)).trans (heap_alloc_new w _)
      have hl1 := lt_of_block hR1
      refine (print_ok x _ (V1.alloc _) hk).mono ?_
      rintro e w2 ⟨rfl, b2⟩
      have hR2 := (b2.block _ (by simp; omega)).trans ((Below.heap_alloc _ _ _ hl1).trans hR1)
      have hX2 := (b2.block _ (by simp)).trans (heap_alloc_new w1 _)
      obtain ⟨r0, r1, r2, r3, zr⟩ := four_cells hR2
      obtain ⟨x0, x1, x2, x3, zx⟩ := four_cells hX2
      have hne : ¬ w.heap.size = w1.heap.size := by omega
      have c1 : Below w.heap.size w w1 := past_alloc (Below.refl _ w) (Nat.le_refl _) b1
      have C : Below w.heap.size w w2 := past_alloc c1 c1.size b2
      clear hR1 hl1 hR2 hX2
      go_wp2_with fail
      refine bodyPost_ret (v := .tuple #[.agg #[.int .i64 x.op, .int .i64 x.a, .int .i64 x.b, .int .i64 x.n], .int .i64 0]) (by simp [results, Tryd.results11, go_sem, r0, r1, r2, r3]) rfl ⟨rfl, ((((C.setCell (p := ⟨w.heap.size, 0, none⟩) (Nat.le_refl _) _).setCell (p := ⟨w.heap.size, 1, none⟩) (Nat.le_refl _) _).setCell (p := ⟨w.heap.size, 2, none⟩) (Nat.le_refl _) _).setCell (p := ⟨w.heap.size, 3, none⟩) (Nat.le_refl _) _)⟩
end Go.Proofs.YtpnegpcnmmaclaaDoor
