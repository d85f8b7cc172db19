/-
  A process's tables: what all share (Boot).
-/
import Derived.Test.YtaofkedcdeocjaaSpD
import Derived.Test.YtaofkedcdeocjaaMemC
namespace Go.Proofs.Ytaofkedcdeocjaa
open Go.ChangeShapes Go.WideShapes Go.ChangeAt Go.RowKit

def MS.markL (s : MS) (c : Int) (l : List Nat) : MS := l.foldl (fun s (f : Nat) => s.mark (f : Int) c (-1)) s
def MS.markAll (s : MS) : MS := (((s.mark 0 5 (-1)).markL 4 (List.range' 1 2)).markL 1 (List.range' 3 12)).mark 12 3 (-1)
def MS.mapA (s : MS) (k : Nat) : MS := (List.range k).foldl (fun s (j : Nat) => s.write (3 * 8 + (j : Int)) (packV true false false (4 + (j : Int)))) s
def MS.mapB (s : MS) (g : Bool) (k : Nat) : MS := (List.range k).foldl (fun s (f : Nat) => s.write ((4 + (f : Int) / 8) * 8 + (f : Int) % 8) (packV true false g (f : Int))) s
def MS.layGate (s : MS) : MS := (s.write (13 * 8 + 0) (packV true true false 14)).write (14 * 8 + 0) (packV false true true 12)
/-- What Boot makes of a memory. -/
def MS.boot (s : MS) (kpti : Bool) : MS := ((s.markAll.mapA 8).mapB (!kpti) s.n).layGate

theorem markL_snoc (s : MS) (c : Int) (a k : Nat) : s.markL c (List.range' a (k + 1)) = (s.markL c (List.range' a k)).mark ((a + k : Nat) : Int) c (-1) := by
  unfold MS.markL
  rw [List.range'_concat, List.foldl_append]; simp
theorem mapA_succ (s : MS) (k : Nat) : s.mapA (k + 1) = (s.mapA k).write (3 * 8 + (k : Int)) (packV true false false (4 + (k : Int))) := by
  unfold MS.mapA; rw [List.range_succ, List.foldl_append]; rfl
theorem mapB_zero (s : MS) (g : Bool) : s.mapB g 0 = s := rfl
theorem mapB_succ (s : MS) (g : Bool) (k : Nat) : s.mapB g (k + 1) = (s.mapB g k).write ((4 + (k : Int) / 8) * 8 + (k : Int) % 8) (packV true false g (k : Int)) := by
  unfold MS.mapB; rw [List.range_succ, List.foldl_append]; rfl

set_option maxHeartbeats 1000000 in
theorem markAll_any {w : World} {b c : Nat} {s : MS} (m : MemAt w b c s) :
    Calls Try.prog 48 #[.pointer (some ⟨b, 0, none⟩)] w fun e w' => e = .returned (.tuple #[]) ∧ MemAt w' b c s.markAll ∧ Touch (· = c) w w' := by
  go_enter Try.func48, Try.ntmps48
  go_wp2_with (go_at_call 84; refine (mark_any m _ _ _).mono ?_; rintro e w1 ⟨rfl, m1, t1⟩)
  go_loopg [2] 2 (fun g i wr => ∃ k : Nat, g + k = 2 ∧ i = .int .i64 (1 + (k : Int)) ∧ MemAt wr b c ((s.mark 0 5 (-1)).markL 4 (List.range' 1 k)) ∧ Touch (· = c) w wr)
  case atStart => exact ⟨0, by omega, rfl, m1, t1⟩
  case round =>
    obtain ⟨k, hg, rfl, mk, tk⟩ := hrel
    by_cases hk : k < 2
    · have k1 : 1 + (k : Int) ≤ 2 := by omega
      have hM := mark_any mk ((1 + k : Nat) : Int) 4 (-1)
      rw [← markL_snoc] at hM
      have e : ((1 + k : Nat) : Int) = 1 + (k : Int) := by omega
      rw [e] at hM
      go_wp2_with (go_at_call 84; refine hM.mono ?_; rintro e w2 ⟨rfl, m2, t2⟩)
      go_roundg (2 - (k + 1))
      case measure => omega
      case rel => exact ⟨k + 1, by omega, by go_num, m2, tk.trans t2⟩
    · have k1 : ¬ (1 + (k : Int) ≤ 2) := by omega
      obtain rfl : k = 2 := by omega
      go_wp2_with fail
      go_loopg [3] 12 (fun g i wr => ∃ k : Nat, g + k = 12 ∧ i = .int .i64 (3 + (k : Int)) ∧ MemAt wr b c (((s.mark 0 5 (-1)).markL 4 (List.range' 1 2)).markL 1 (List.range' 3 k)) ∧ Touch (· = c) w wr)
      case atStart => exact ⟨0, by omega, rfl, mk, tk⟩
      case round =>
        clear mk tk hg k1 hk
        obtain ⟨k, hg, rfl, mk, tk⟩ := hrel
        by_cases hk : k < 12
        · have k1 : 3 + (k : Int) ≤ 14 := by omega
          have hM := mark_any mk ((3 + k : Nat) : Int) 1 (-1)
          rw [← markL_snoc] at hM
          have e : ((3 + k : Nat) : Int) = 3 + (k : Int) := by omega
          rw [e] at hM
          go_wp2_with (go_at_call 84; refine hM.mono ?_; rintro e w2 ⟨rfl, m2, t2⟩)
          go_roundg (12 - (k + 1))
          case measure => omega
          case rel => exact ⟨k + 1, by omega, by go_num, m2, tk.trans t2⟩
        · have k1 : ¬ (3 + (k : Int) ≤ 14) := by omega
          obtain rfl : k = 12 := by omega
          go_wp2_with (go_at_call 84; refine (mark_any mk _ _ _).mono ?_; rintro e w2 ⟨rfl, m2, t2⟩)
          go_end0
          exact ⟨rfl, m2, tk.trans t2⟩

set_option maxHeartbeats 1000000 in
theorem layGate_any {w : World} {b c : Nat} {s : MS} (m : MemAt w b c s) :
    Calls Try.prog 50 #[.pointer (some ⟨b, 0, none⟩)] w fun e w' => e = .returned (.tuple #[]) ∧ MemAt w' b c s.layGate ∧ Touch (· = c) w w' := by
  have hI := fun l wx => windex_any 448 l wx
  have hI1 := hI 1
  have hI2 := hI 2
  rw [show pidx 448 1 = 0 by decide] at hI1
  rw [show pidx 448 2 = 0 by decide] at hI2
  go_enter Try.func50, Try.ntmps50
  go_upto_region 1 with (first | (go_at_call 55; with_reducible refine (hI1 _).mono ?_; rintro e wq ⟨rfl, rfl⟩) | (go_at_call 54; refine (put_any m 13 0 true true false 14 (by decide) (by decide) (by decide)).mono ?_; rintro e w1 ⟨rfl, m1, t1⟩))
  go_wp2_with (first | (go_at_call 55; with_reducible refine (hI2 _).mono ?_; rintro e wq ⟨rfl, rfl⟩) | (go_at_call 54; refine (put_any m1 14 0 false true true 12 (by decide) (by decide) (by decide)).mono ?_; rintro e w2 ⟨rfl, m2, t2⟩))
  go_end0
  exact ⟨rfl, m2, t1.trans t2⟩

theorem lt_of_block' {w : World} {k : Nat} {o : Obj} (h : w.heap[k]? = some o) : k < w.heap.size := (Array.getElem?_eq_some_iff.1 h).1
/-- A configuration's value. -/
def cfV (F P : Int) (kpti inv : Bool) : Value := .agg #[.int .i64 F, .int .i64 P, .bool kpti, .bool inv]

set_option maxHeartbeats 2000000 in
theorem layMap_any {w : World} {b c : Nat} {s : MS} (m : MemAt w b c s) (n : Nat) (hn : n ≤ 64) (P : Int) (kpti inv : Bool) :
    Calls Try.prog 49 #[cfV n P kpti inv, .pointer (some ⟨b, 0, none⟩)] w fun e w' => e = .returned (.tuple #[]) ∧ MemAt w' b c ((s.mapA 8).mapB (!kpti) n) ∧ Touch (· = c) w w' := by
  unfold cfV
  go_enter Try.func49, Try.ntmps49
  go_upto_block 0 with fail
  have hb : (w.alloc (.cells #[.int .i64 n, .int .i64 P, .bool kpti, .bool inv] 25)).heap[w.heap.size]? = some (.cells #[.int .i64 n, .int .i64 P, .bool kpti, .bool inv] 25 (0, 0)) := heap_alloc_new w _
  have t0 : Touch (· = c) w _ := (Touch.refl (· = c) w).alloc (.cells #[.int .i64 n, .int .i64 P, .bool kpti, .bool inv] 25)
  have m0 := m.touch ((Touch.refl Nil w).alloc (.cells #[.int .i64 n, .int .i64 P, .bool kpti, .bool inv] 25)) (fun h => h) (fun h => h)
  have hcl : c < w.heap.size := m.row.lt
  generalize w.alloc (.cells #[.int .i64 n, .int .i64 P, .bool kpti, .bool inv] 25) = W at *
  generalize w.heap.size = G at *
  have hlt : G < W.heap.size := lt_of_block' hb
  have HC : ∀ wx, Touch (· = c) W wx → wx.cell? ⟨G, 0, none⟩ = some (.int .i64 n) ∧ wx.cell? ⟨G, 2, none⟩ = some (.bool kpti) := fun wx tx => by
    have := (tx.block G hlt (by omega)).trans hb
    simp [World.cell?, this]
  go_cut [6] (fun _ wx => MemAt wx b c (s.mapA 8) ∧ Touch (· = c) W wx)
  case first =>
    go_wp2_with fail
    go_loopg [6] 8 (fun g i wr => ∃ k : Nat, g + k = 8 ∧ i = .int .i64 k ∧ MemAt wr b c (s.mapA k) ∧ Touch (· = c) W wr)
    case atStart => exact ⟨0, by omega, rfl, m0, Touch.refl _ _⟩
    case round =>
      obtain ⟨k, hg, rfl, mk, tk⟩ := hrel
      by_cases hk : k < 8
      · have k1 : (k : Int) < 8 := by omega
        have hM := put_any mk 3 (k : Int) true false false (4 + (k : Int)) ⟨by omega, by omega⟩ (by decide) ⟨by omega, by omega⟩
        rw [← mapA_succ] at hM
        have hw : IntKind.i64.wrap (4 + (k : Int)) = 4 + (k : Int) := by rw [IntKind.wrap_i64]; omega
        go_wp2_with (go_at_call 54; refine hM.mono ?_; rintro e w2 ⟨rfl, m2, t2⟩)
        go_roundg (8 - (k + 1))
        case measure => omega
        case rel => exact ⟨k + 1, by omega, by go_num, m2, tk.trans t2⟩
      · have k1 : ¬ ((k : Int) < 8) := by omega
        obtain rfl : k = 8 := by omega
        go_wp2_with fail
        go_meet
        exact ⟨mk, tk⟩
  case rest =>
    obtain ⟨m1, t1⟩ := hcut
    obtain ⟨c0, c2⟩ := HC _ t1
    go_wp2_with fail
    go_loopg [18] n (fun g i wr => ∃ k : Nat, g + k = n ∧ i = .int .i64 k ∧ MemAt wr b c ((s.mapA 8).mapB (!kpti) k) ∧ Touch (· = c) W wr)
    case atStart => exact ⟨0, by omega, rfl, by rw [mapB_zero]; exact m1, t1⟩
    case round =>
      clear c0 c2 m1 t1
      obtain ⟨k, hg, rfl, mk, tk⟩ := hrel
      by_cases hk : k < n
      · have k1 : (k : Int) < (n : Int) := by omega
        obtain ⟨c0, c2⟩ := HC _ tk
        have hM := put_any mk (4 + (k : Int) / 8) ((k : Int) % 8) true false (!kpti) (k : Int) ⟨by omega, by omega⟩ ⟨by omega, by omega⟩ ⟨by omega, by omega⟩
        rw [← mapB_succ] at hM
        have e1 : (k : Int).tdiv 8 = (k : Int) / 8 := Int.tdiv_eq_ediv_of_nonneg (by omega)
        have e2 : (k : Int).tmod 8 = (k : Int) % 8 := Int.tmod_eq_emod_of_nonneg (by omega)
        have hw : IntKind.i64.wrap (4 + (k : Int) / 8) = 4 + (k : Int) / 8 := by rw [IntKind.wrap_i64]; omega
        have hw2 : IntKind.i64.wrap ((k : Int) / 8) = (k : Int) / 8 := by rw [IntKind.wrap_i64]; omega
        have hw3 : IntKind.i64.wrap ((k : Int) % 8) = (k : Int) % 8 := by rw [IntKind.wrap_i64]; omega
        go_wp2_with (go_at_call 54; refine hM.mono ?_; rintro e w2 ⟨rfl, m2, t2⟩)
        go_roundg (n - (k + 1))
        case measure => omega
        case rel => exact ⟨k + 1, by omega, by go_num, m2, tk.trans t2⟩
      · have k1 : ¬ ((k : Int) < (n : Int)) := by omega
        obtain rfl : k = n := by omega
        go_wp2_with fail
        go_end0
        exact ⟨rfl, mk, t0.trans tk⟩
end Go.Proofs.Ytaofkedcdeocjaa
