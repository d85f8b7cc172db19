/-
  Package swap: a new one; out, in, dropped.
-/
import Derived.Test.YtaofkedcdeocjaaSwapA
namespace Go.Proofs.Ytaofkedcdeocjaa
open Go.ChangeShapes Go.WideShapes Go.ChangeAt Go.RowKit

/-- A slot with other words. -/
def QS.lay (q : QS) (k : Nat) (u : Bool) (g : Nat → Int) : QS := ⟨fun i => if i = k then u else q.U i, fun i => if i = k then g else q.W i⟩
def pg9 (u : Bool) (g : Nat → Int) : List Value := .bool u :: ws8 g
theorem pg9_out (u : Bool) (g : Nat → Int) : (pg9 u g)[0]? = some (.bool u) := rfl
theorem pg9_word (u : Bool) (g : Nat → Int) (j : Nat) (h : j < 8) : (pg9 u g)[j + 1]? = some (.int .u64 (g j)) := ws8_get g j h
theorem pg9_none (u : Bool) (g : Nat → Int) (j : Nat) (h : 9 ≤ j) : (pg9 u g)[j]? = none := List.getElem?_eq_none h
theorem QAt.lay {w : World} {b : Nat} {q : QS} (h : QAt w b q) (k : Nat) (u : Bool) (g : Nat → Int) : QAt (w.setCells b (k * 9) (pg9 u g)) b (q.lay k u g) := by
  refine (rowIs_setCells _ _ _ _ h).congr fun i _ => ?_
  unfold QS.cell QS.lay
  by_cases h1 : k * 9 ≤ i
  · rw [if_pos h1]
    by_cases h2 : i - k * 9 < 9
    · have hd : i / 9 = k := by omega
      simp only [hd, if_true]
      by_cases h3 : i % 9 = 0
      · rw [if_pos h3, show i - k * 9 = 0 by omega, pg9_out, if_pos h3]; rfl
      · rw [if_neg h3, show i - k * 9 = (i % 9 - 1) + 1 by omega, pg9_word _ _ _ (by omega), if_neg h3]; rfl
    · rw [pg9_none _ _ _ (by omega)]
      have hd : i / 9 ≠ k := by omega
      simp only [hd, if_false, Option.getD_none]
  · rw [if_neg h1]
    have hd : i / 9 ≠ k := by omega
    simp only [hd, if_false]
theorem QAt.there {w : World} {b : Nat} {q : QS} (h : QAt w b q) {k : Nat} (hk : k < 8) : w.there b (k * 9) 9 := there_of_row h _ _ (by omega)

/-- A frame with other words. -/
def MS.lay (s : MS) (f : Int) (g : Nat → Int) : MS := { s with W := fun i => if i / 8 = f.toNat then g (i % 8) else s.W i }
/-- .. the first k of them. -/
def MS.layK (s : MS) (f : Int) (g : Nat → Int) (k : Nat) : MS := { s with W := fun i => if i / 8 = f.toNat ∧ i % 8 < k then g (i % 8) else s.W i }
theorem MS.layK_zero (s : MS) (f : Int) (g : Nat → Int) : s.layK f g 0 = s := by
  unfold MS.layK; simp
theorem MS.layK_all (s : MS) (f : Int) (g : Nat → Int) : s.layK f g 8 = s.lay f g := by
  unfold MS.layK MS.lay
  congr 1
  funext i
  have : i % 8 < 8 := Nat.mod_lt _ (by omega)
  simp [this]
theorem MS.layK_step (s : MS) (f : Int) (g : Nat → Int) (k : Nat) (hf : s.hasF f = true) (hk : k < 8) : (s.layK f g k).write (f * 8 + k) (g k) = s.layK f g (k + 1) := by
  obtain ⟨h0, h1⟩ := (s.hasF_iff f).1 hf
  have hW : (s.layK f g k).hasW (f * 8 + k) = true := (MS.hasW_iff _ _).2 (by show _ ∧ _ < 8 * (s.n : Int); omega)
  unfold MS.write
  rw [if_pos hW]
  unfold MS.layK
  congr 1
  funext i
  show (if i = (f * 8 + k).toNat then g k else if i / 8 = f.toNat ∧ i % 8 < k then g (i % 8) else s.W i) = _
  by_cases e : i = (f * 8 + k).toNat
  · rw [if_pos e, if_pos (by omega), show i % 8 = k by omega]
  · rw [if_neg e]
    by_cases e2 : i / 8 = f.toNat ∧ i % 8 < k
    · rw [if_pos e2, if_pos (by omega)]
    · rw [if_neg e2, if_neg (by omega)]
/-- A frame's words. -/
def MS.frame (s : MS) (f : Int) (o : Nat) : Int := s.rd (f * 8 + o)

theorem row_store' {W : World} {A : Nat} {ty : TypeId} {n : Nat} {f : Nat → Value} (h : W.rowIs A ty n f) (vs : List Value) (g : Nat → Value) (hg : ∀ k, k < n → vs[k]? = some (g k)) : (W.setCells A 0 vs).rowIs A ty n g :=
  (rowIs_setCells vs 0 W f h).congr fun i hi => by rw [if_pos (Nat.zero_le _), Nat.sub_zero, hg i hi]; rfl
abbrev z8 : Obj := .cells #[.int .u64 0, .int .u64 0, .int .u64 0, .int .u64 0, .int .u64 0, .int .u64 0, .int .u64 0, .int .u64 0] 82
theorem row8_alloc (W : World) : (W.alloc z8).rowIs W.heap.size 82 8 (fun _ => .int .u64 0) :=
  World.rowIs_alloc W #[.int .u64 0, .int .u64 0, .int .u64 0, .int .u64 0, .int .u64 0, .int .u64 0, .int .u64 0, .int .u64 0] 82 (fun _ => .int .u64 0) (fun i hi => by
    have : i < 8 := hi
    rcases (by omega : i = 0 ∨ i = 1 ∨ i = 2 ∨ i = 3 ∨ i = 4 ∨ i = 5 ∨ i = 6 ∨ i = 7) with rfl | rfl | rfl | rfl | rfl | rfl | rfl | rfl <;> rfl)
set_option maxHeartbeats 1000000 in
theorem wordsOf_any {w : World} {b c : Nat} {s : MS} (h : MemAt w b c s) (f : Int) (hf : s.hasF f = true) :
    Calls Try.prog 80 #[.pointer (some ⟨b, 0, none⟩), .int .i64 f] w fun e w' => e = .returned (.agg (ws8 (s.frame f)).toArray) ∧ Touch Nil w w' := by
  obtain ⟨f0, f1⟩ := (s.hasF_iff f).1 hf
  have hle := h.le
  go_enter Try.func80, Try.ntmps80
  go_wp2_with fail
  have hA' : ((w.alloc z8).alloc z8).rowIs (w.heap.size + 1) 82 8 (fun _ => .int .u64 0) := by
    have := row8_alloc (w.alloc z8)
    rwa [show (w.alloc z8).heap.size = w.heap.size + 1 by simp] at this
  have hB' : ((w.alloc z8).alloc z8).rowIs w.heap.size 82 8 (fun _ => .int .u64 0) := ((Touch.refl Nil (w.alloc z8)).alloc z8).row (row8_alloc w) (fun h => h)
  have tA' := ((Touch.refl Nil w).alloc z8).alloc z8
  generalize (w.alloc z8).alloc z8 = W2 at *
  go_loopg [7] 8 (fun g i wr => ∃ k : Nat, g + k = 8 ∧ i = .int .i64 k ∧ wr.rowIs w.heap.size 82 8 (fun _ => .int .u64 0) ∧ wr.rowIs (w.heap.size + 1) 82 8 (fun i => .int .u64 (if i < k then s.frame f i else 0)) ∧ Touch Nil w wr)
  case atStart => exact ⟨0, by omega, rfl, hB', hA', tA'⟩
  case round =>
    clear hB' hA' tA'
    obtain ⟨k, hgk, rfl, hB, hA, tA⟩ := hrel
    by_cases hk : k < 8
    · have k1 : (k : Int) < 8 := by omega
      have hM := h.touch tA (fun h => h) (fun h => h)
      have hR := read_any hM (f * 8 + k) (by omega)
      have hrd : s.rd (f * 8 + k) = s.frame f k := rfl
      have hW : s.hasW (f * 8 + k) = true := (s.hasW_iff _).2 (by omega)
      rw [hrd, hW] at hR
      go_wp2_with fail
      with_reducible refine hR.mono ?_
      rintro e wq ⟨rfl, rfl⟩
      have hfz := hA.frozen k
      have hcl := hA.cell (i := k) hk
      go_wp2_with fail
      go_roundg (7 - k)
      case measure => omega
      case rel =>
        refine ⟨k + 1, by omega, by go_num, hB.setOther (show w.heap.size ≠ w.heap.size + 1 by omega) _, (hA.set k _).congr fun i _ => ?_, tA.setNew (show w.heap.size ≤ w.heap.size + 1 by omega) _⟩
        by_cases e : i = k
        · subst e; simp
        · by_cases e2 : i < k
          · simp [e, e2, show i < k + 1 by omega]
          · simp [e, e2, show ¬ i < k + 1 by omega]
    · have k8 : k = 8 := by omega
      subst k8
      have a0 := hA.cell (i := 0) (by omega)
      have a1 := hA.cell (i := 1) (by omega)
      have a2 := hA.cell (i := 2) (by omega)
      have a3 := hA.cell (i := 3) (by omega)
      have a4 := hA.cell (i := 4) (by omega)
      have a5 := hA.cell (i := 5) (by omega)
      have a6 := hA.cell (i := 6) (by omega)
      have a7 := hA.cell (i := 7) (by omega)
      simp only [show (0:Nat) < 8 by omega, show (1:Nat) < 8 by omega, show (2:Nat) < 8 by omega, show (3:Nat) < 8 by omega, show (4:Nat) < 8 by omega, show (5:Nat) < 8 by omega, show (6:Nat) < 8 by omega, show (7:Nat) < 8 by omega, if_true] at a0 a1 a2 a3 a4 a5 a6 a7
      go_wp2_with (refine wpList_store_mid rfl 82 _ _ rfl w.heap.size 0 (ws8 (s.frame f)).toArray rfl rfl (there_of_row hB 0 8 (by omega)) (by kernel_rfl) (by kernel_rfl) ?_)
      have hC : (wr.setCells w.heap.size 0 (ws8 (s.frame f))).rowIs w.heap.size 82 8 (fun k => .int .u64 (s.frame f k)) := row_store' hB (ws8 (s.frame f)) (fun k => .int .u64 (s.frame f k)) (fun k hk => ws8_get _ _ hk)
      have tC : Touch Nil w (wr.setCells w.heap.size 0 (ws8 (s.frame f))) := tA.transNew ((Touch.refl (· = w.heap.size) wr).setCells rfl (ws8 (s.frame f)) 0) (fun i hi e => by omega)
      generalize wr.setCells w.heap.size 0 (ws8 (s.frame f)) = W3 at *
      have c0 := hC.cell (i := 0) (by omega)
      have c1 := hC.cell (i := 1) (by omega)
      have c2 := hC.cell (i := 2) (by omega)
      have c3 := hC.cell (i := 3) (by omega)
      have c4 := hC.cell (i := 4) (by omega)
      have c5 := hC.cell (i := 5) (by omega)
      have c6 := hC.cell (i := 6) (by omega)
      have c7 := hC.cell (i := 7) (by omega)
      refine bodyPost_ret (v := .agg (ws8 (s.frame f)).toArray) (by simp [results, Try.results80, go_sem, c0, c1, c2, c3, c4, c5, c6, c7, ws8]) rfl ⟨rfl, tC⟩
end Go.Proofs.Ytaofkedcdeocjaa
