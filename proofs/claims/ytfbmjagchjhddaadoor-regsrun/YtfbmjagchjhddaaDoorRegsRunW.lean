/-
  The law RegsRun, walked.
-/
import Derived.Test.YtfbmjagchjhddaaDoorRegH
import Derived.Test.YtfbmjagchjhddaaDoorInsnU
import Derived.Test.YtfbmjagchjhddaaDoorSlices
import Derived.Deep.LoopGhost
import Derived.Deep.RegionHeld3
import Derived.Deep.DeepCutAuto
import Derived.Deep.CutBlock
namespace Go.Proofs.YtfbmjagchjhddaaDoor
open Go.ChangeShapes Go.WideShapes Go.ChangeAt Go.RowKit

/-- A plain instruction that may be. -/
def PlainI (x : Ins) : Prop := okP x = true ∧ (x.op = 1 ∨ x.op = 2 ∨ x.op = 6)
theorem play_plain {k : Int} (a b n : Int) (h : k = 0 ∨ k = 1 ∨ k = 5) : PlainI (playP k a b n 0) := by
  have a0 := Int.emod_nonneg a (b := 8) (by omega)
  have a1 := Int.emod_lt_of_pos a (b := 8) (by omega)
  have b0 := Int.emod_nonneg b (b := 8) (by omega)
  have b1 := Int.emod_lt_of_pos b (b := 8) (by omega)
  have e : playP k a b n 0 = play0 k a b n := rfl
  rw [e]
  rcases h with rfl | rfl | rfl <;> simp [PlainI, play0, okP, fitP, shape] <;> omega
theorem put4c {w : World} {X : Nat} {v0 v1 v2 v3 : Value} {t : TypeId} (h : w.heap[X]? = some (.cells #[v0, v1, v2, v3] t (0, 0))) (x : Ins) :
    C4 ((((w.setCell ⟨X, 0, none⟩ (.int .i64 x.op)).setCell ⟨X, 1, none⟩ (.int .i64 x.a)).setCell ⟨X, 2, none⟩ (.int .i64 x.b)).setCell ⟨X, 3, none⟩ (.int .i64 x.n)) X x.op x.a x.b x.n := by
  have h4 := setb (setb (setb (setb h 0 (.int .i64 x.op)) 1 (.int .i64 x.a)) 2 (.int .i64 x.b)) 3 (.int .i64 x.n)
  exact C4.of h4
theorem lit5 (k : Int) (h0 : 0 ≤ k) (h5 : k < 5) : ∃ y : Int, (#[.int .i64 0, .int .i64 1, .int .i64 0, .int .i64 1, .int .i64 5] : Array Value)[k.toNat]? = some (.int .i64 y) ∧ (y = 0 ∨ y = 1 ∨ y = 5) := by
  rcases (by omega : k = 0 ∨ k = 1 ∨ k = 2 ∨ k = 3 ∨ k = 4) with rfl | rfl | rfl | rfl | rfl
  · exact ⟨0, rfl, by decide⟩
  · exact ⟨1, rfl, by decide⟩
  · exact ⟨0, rfl, by decide⟩
  · exact ⟨1, rfl, by decide⟩
  · exact ⟨5, rfl, by decide⟩

theorem plain_snoc {l : List Ins} {x : Ins} (h : Hid (∀ y ∈ l, PlainI y)) (hx : Hid (PlainI x)) : Hid (∀ y ∈ l ++ [x], PlainI y) := by
  intro y hy
  rcases List.mem_append.1 hy with hy | hy
  · exact h.out y hy
  · rw [List.mem_singleton.1 hy]; exact hx.out
theorem IsF.later {w w' : World} {B : Nat} {a : Option Addr} {l : List Ins} (h : IsF w B a l) (b : Below w.heap.size w w') : IsF w' B a l := by
  rcases h with h | ⟨g, hg, h1, h2⟩
  · exact Or.inl h
  · exact Or.inr ⟨g, hg, h1, h2.later b⟩
theorem IsF.fresh {w : World} {B : Nat} {a : Option Addr} {l : List Ins} (h : IsF w B a l) : IsF w w.heap.size a l := by
  rcases h with h | ⟨g, hg, h1, h2⟩
  · exact Or.inl h
  · exact Or.inr ⟨g, fun e => by have := h2.lt; omega, h1, h2⟩
theorem IsN.toF {w : World} {M B : Nat} {a : Option Addr} {l : List Ins} (h : IsN w M a l) (hB : B < M) : IsF w B a l := by
  rcases h with h | ⟨g, hg, h1, h2⟩
  · exact Or.inl h
  · exact Or.inr ⟨g, by omega, h1, h2⟩
theorem IsF.other {w : World} {B X : Nat} {a : Option Addr} {l : List Ins} (h : IsF w B a l) (h' : IsF w X a l) (i : Nat) (v : Value) : IsF (w.setCell ⟨X, i, none⟩ v) B a l := by
  rcases h with h | ⟨g, hg, h1, h2⟩
  · exact Or.inl h
  · rcases h' with h' | ⟨g', hg', h1', c, e, f, h2', h3⟩
    · exact Or.inl h'
    · have : g' = g := by rw [h1] at h1'; cases h1'; rfl
      subst this
      exact Or.inr ⟨g', hg, h1, c, e, f, (Below.heap_setCell _ _ _ _ hg').trans h2', h3⟩
theorem IsF.otherPut {w : World} {B X : Nat} {a : Option Addr} {l : List Ins} (h : IsF w B a l) (h' : IsF w X a l) (s : RS) (a' : Option Addr) (n c : Nat) : IsF (put10 w X s a' n c) B a l := by
  rcases h with h | ⟨g, hg, h1, h2⟩
  · exact Or.inl h
  · rcases h' with h' | ⟨g', hg', h1', c, e, f, h2', h3⟩
    · exact Or.inl h'
    · have : g' = g := by rw [h1] at h1'; cases h1'; rfl
      subst this
      exact Or.inr ⟨g', hg, h1, c, e, f, (put10_block hg').trans h2', h3⟩
/-- The registers behind a plain instruction, and the place. -/
def run1 (rr : Nat → Int) (x : Ins) : Nat → Int := if x.op = 1 then fun j => if j = x.a.toNat then x.n else rr j else if x.op = 2 then fun j => if j = x.a.toNat then addW (rr x.a.toNat) (rr x.b.toNat) else rr j else rr
def pc1 (rr : Nat → Int) (p : Int) (x : Ins) : Int := if x.op = 6 then (if rr x.a.toNat = 0 then p + 1 else x.n) else p + 1
theorem plain_step {l : List Ins} {p : Int} {x : Ins} (rr : Nat → Int) (hx : l[p.toNat]? = some x) (h0 : 0 ≤ p) (hp : p < l.length) (hpl : PlainI x) :
    nextP l p = some x ∧ plainP l ⟨rr, p⟩ = some ⟨run1 rr x, if (l.length : Int) ≤ pc1 rr p x then 0 else pc1 rr p x⟩ := by
  have hn : nextP l p = some x := by
    unfold nextP
    rw [if_neg (by omega), hx]
    simp [hpl.1]
  refine ⟨hn, ?_⟩
  obtain ⟨⟨a0, a8⟩, ⟨b0, b8⟩, _⟩ := ok_ab hpl.1
  unfold plainP
  rw [show (RS.mk rr p).pc = p from rfl, hn]
  simp only [Option.bind_some, plainX]
  have hra : RS.reg ⟨rr, p⟩ x.a = rr x.a.toNat := by unfold RS.reg; rw [if_pos ⟨a0, a8⟩]
  have hrb : RS.reg ⟨rr, p⟩ x.b = rr x.b.toNat := by unfold RS.reg; rw [if_pos ⟨b0, b8⟩]
  have hn' : ¬ ((l.length : Int) ≤ p) := by omega
  rcases hpl.2 with h | h | h
  · simp [h, run1, pc1, RS.set, RS.on, RS.go, a0, a8, hn']
  · simp [h, run1, pc1, RS.set, RS.on, RS.go, a0, a8, hn', hra, hrb]
  · by_cases hz : rr x.a.toNat = 0
    · simp [h, run1, pc1, RS.on, RS.go, hn', hra, hz]
    · simp [h, run1, pc1, RS.go, hra, hz]
theorem run1_pc {l : List Ins} {p : Int} {x : Ins} (rr : Nat → Int) (h0 : 0 ≤ p) (hp : p < l.length) (hpl : PlainI x) :
    0 ≤ (if (l.length : Int) ≤ pc1 rr p x then 0 else pc1 rr p x) ∧ (if (l.length : Int) ≤ pc1 rr p x then 0 else pc1 rr p x) < l.length := by
  obtain ⟨_, _, n0, _⟩ := ok_ab hpl.1
  have : 0 ≤ pc1 rr p x := by unfold pc1; split <;> (try split) <;> omega
  split <;> omega

set_option maxRecDepth 20000 in
set_option maxHeartbeats 8000000 in
theorem regsRun_walk (a0 : Option Addr) (len0 cap0 : Nat) (z0 : List Int) (a1 : Option Addr) (len1 cap1 : Nat) (z1 : List Int) (n : Int) (w : World) (w0 : Row .i64 w a0 len0 cap0 z0) (w1 : Row .u64 w a1 len1 cap1 z1) (hV : Sh w) :
    Calls Tryd.prog 4 #[.slice a0 len0 cap0, .slice a1 len1 cap1, .int .i64 n] w fun e w' => e = .returned (.bool true) ∧ Below w.heap.size w w' := by
  obtain ⟨mm0, q0⟩ := w0.plain
  obtain ⟨mm1, q1⟩ := w1.plain
  clear w0 w1
  go_enter Tryd.func4, Tryd.ntmps4
  go_upto_block 0 with fail
  have hB0 : SB (w.alloc (.cells zCells 45)) w.heap.size RS.zero none 0 0 := heap_alloc_new w _
  have hb0 : Below w.heap.size w (w.alloc (.cells zCells 45)) := (Below.refl _ w).alloc (Nat.le_refl _) _
  have hsz0 : (w.alloc (.cells zCells 45)).heap.size = w.heap.size + 1 := by simp
  have hown0 := World.ownsRow_nil (w.alloc (.cells zCells 45)) (w.heap.size + 1) 32 4
  generalize w.alloc (.cells zCells 45) = W at *
  go_cut [8] (fun _ wr => ∃ (aS : Option Addr) (cap : Nat) (l : List Ins), l.length ≤ 10 ∧ Hid (∀ x ∈ l, PlainI x) ∧ SB wr w.heap.size RS.zero aS l.length cap ∧ IsF wr w.heap.size aS l ∧ Below w.heap.size w wr)
  case first =>
    go_wp2_with fail
    obtain ⟨K', hK'⟩ : ∃ K : Nat, K = min (len0 / 4) 10 := ⟨_, rfl⟩
    go_loopg [8] K' (fun g i wr => ∃ (k I : Nat) (aS : Option Addr) (cap : Nat) (acc : List Ins), g + k = K' ∧ i = .int .i64 (I : Int) ∧ Hid (I = 4 * k) ∧ Hid (acc.length = k) ∧ Hid (∀ x ∈ acc, PlainI x) ∧ SB wr w.heap.size RS.zero aS acc.length cap ∧ wr.ownsRow (w.heap.size + 1) 32 4 (.slice aS acc.length cap) acc.length (flatI acc) ∧ Below w.heap.size w wr)
    case atStart => exact ⟨0, 0, none, 0, [], by omega, rfl, rfl, rfl, (fun x hx => by cases hx), hB0, hown0, hb0⟩
    case round =>
      obtain ⟨k, I, aS, cap, acc, hg, rfl, hI, hacc, hPl, hSB, hown, hB⟩ := hrel
      by_cases hk : k < K'
      · have hkk : I + 3 < len0 := by have := hI.out; omega
        have k1 : (I : Int) + 3 < (len0 : Int) := by omega
        have k2 : (I : Int) < 40 := by have := hI.out; omega
        rcases q0 with q0 | ⟨b0, o0, rfl, hb0', hc0⟩
        · omega
        obtain ⟨y0, hy0⟩ : ∃ y, y = z0.getD I 0 := ⟨_, rfl⟩
        obtain ⟨y1, hy1⟩ : ∃ y, y = z0.getD (I + 1) 0 := ⟨_, rfl⟩
        obtain ⟨y2, hy2⟩ : ∃ y, y = z0.getD (I + 2) 0 := ⟨_, rfl⟩
        obtain ⟨y3, hy3⟩ : ∃ y, y = z0.getD (I + 3) 0 := ⟨_, rfl⟩
        have HS : ∀ wx, Below w.heap.size w wx → wx.cell? ⟨b0, o0 + I, none⟩ = some (.int .i64 y0) ∧ wx.cell? ⟨b0, o0 + (I + 1), none⟩ = some (.int .i64 y1) ∧ wx.cell? ⟨b0, o0 + ((I : Int) + 2).toNat, none⟩ = some (.int .i64 y2) ∧ wx.cell? ⟨b0, o0 + ((I : Int) + 3).toNat, none⟩ = some (.int .i64 y3) := fun wx bx => by
          refine ⟨?_, ?_, ?_, ?_⟩
          · rw [hy0]; exact Plain.cell hc0 hb0' bx I (by omega)
          · rw [hy1]; exact Plain.cell hc0 hb0' bx (I + 1) (by omega)
          · rw [hy2, show ((I : Int) + 2).toNat = I + 2 by omega]; exact Plain.cell hc0 hb0' bx (I + 2) (by omega)
          · rw [hy3, show ((I : Int) + 3).toNat = I + 3 by omega]; exact Plain.cell hc0 hb0' bx (I + 3) (by omega)
        clear hy0 hy1 hy2 hy3
        have l0 : (I : Int) < (len0 : Int) := by omega
        have l1 : (I : Int) + 1 < (len0 : Int) := by omega
        have l2 : (I : Int) + 2 < (len0 : Int) := by omega
        have p1 : (0 : Int) ≤ (I : Int) + 1 := by omega
        have v1 : IntKind.i64.wrap ((I : Int) + 1) = (I : Int) + 1 := by rw [IntKind.wrap_i64]; omega
        have p2 : (0 : Int) ≤ (I : Int) + 2 := by omega
        have v2 : IntKind.i64.wrap ((I : Int) + 2) = (I : Int) + 2 := by rw [IntKind.wrap_i64]; omega
        have p3 : (0 : Int) ≤ (I : Int) + 3 := by omega
        have v3 : IntKind.i64.wrap ((I : Int) + 3) = (I : Int) + 3 := by rw [IntKind.wrap_i64]; omega
        have hd : Below w.heap.size w wr.drew := hB.drew
        have Y0 := Int.emod_nonneg y0 (b := 5) (by omega)
        have Y5 := Int.emod_lt_of_pos y0 (b := 5) (by omega)
        have hWn : ∀ wx, Calls Tryd.prog 14 #[.int .i64 y0, .int .i64 5] wx fun e w' => e = .returned (.int .i64 (y0 % 5)) ∧ wx = w' := fun wx => within_any y0 5 wx (by omega) (by omega)
        generalize y0 % 5 = K5 at *
        obtain ⟨y, hy, hyv⟩ := lit5 K5 Y0 Y5
        have hplx := play_plain y1 y2 y3 hyv
        have hpl : ∀ wx, Calls Tryd.prog 13 #[.int .i64 y, .int .i64 y1, .int .i64 y2, .int .i64 y3, .int .i64 0] wx fun e w2 => e = .returned (.agg #[.int .i64 (playP y y1 y2 y3 0).op, .int .i64 (playP y y1 y2 y3 0).a, .int .i64 (playP y y1 y2 y3 0).b, .int .i64 (playP y y1 y2 y3 0).n]) ∧ Below wx.heap.size wx w2 := fun wx => play_any y y1 y2 y3 0 wx
        generalize playP y y1 y2 y3 0 = x at *
        have hplx' : Hid (PlainI x) := hplx
        clear hplx hyv
        go_upto_region 5 with fail
        go_cut [9] (fun v wx => ∃ P, v = .pointer (some ⟨P, 0, none⟩) ∧ C4 wx P x.op x.a x.b x.n ∧ wr.heap.size ≤ P ∧ Below wr.heap.size wr wx)
        case first =>
            refine wp_region_held_drew (S := fun wx => wx.cell? ⟨b0, o0 + I, none⟩ = some (.int .i64 y0) ∧ wx.cell? ⟨b0, o0 + (I + 1), none⟩ = some (.int .i64 y1) ∧ wx.cell? ⟨b0, o0 + ((I : Int) + 2).toNat, none⟩ = some (.int .i64 y2) ∧ wx.cell? ⟨b0, o0 + ((I : Int) + 3).toNat, none⟩ = some (.int .i64 y3)) (by kernel_rfl) (HS _ hd) (fun hHeld => ?_)
            refine wpAnyH_take (i := 1) (oi := { dst := some 32, op := _, type := _, pos := _, after := _, guard := _ }) (v := ?_) rfl (by kernel_rfl) (by kernel_rfl) (by kernel_rfl) (fun _ _ _ h => h) (Or.inl ⟨by rfl, ?_⟩) (by assumption) ?_
            rotate_left
            · intro wz hSw; (try dsimp only at hSw); go_simp; try with_reducible rfl
            (try simp only [Act.put]); (try simp only [List.setIfInBounds_toArray]); (try simp only [List.set_cons_succ]); (try simp only [List.set_cons_zero])
            refine wpAnyH_take (i := 2) (oi := { dst := some 33, op := _, type := _, pos := _, after := _, guard := _ }) (v := ?_) rfl (by kernel_rfl) (by kernel_rfl) (by kernel_rfl) (fun _ _ _ h => h) (Or.inl ⟨by rfl, ?_⟩) (by assumption) ?_
            rotate_left
            · intro wz hSw; (try dsimp only at hSw); go_simp; try with_reducible rfl
            (try simp only [Act.put]); (try simp only [List.setIfInBounds_toArray]); (try simp only [List.set_cons_succ]); (try simp only [List.set_cons_zero])
            refine wpAnyH_take (i := 3) (oi := { dst := some 34, op := _, type := _, pos := _, after := _, guard := _ }) (v := ?_) rfl (by kernel_rfl) (by kernel_rfl) (by kernel_rfl) (fun _ _ _ h => h) (Or.inl ⟨by rfl, ?_⟩) (by assumption) ?_
            rotate_left
            · intro wz hSw; (try dsimp only at hSw); go_simp; try with_reducible rfl
            (try simp only [Act.put]); (try simp only [List.setIfInBounds_toArray]); (try simp only [List.set_cons_succ]); (try simp only [List.set_cons_zero])
            refine wpAnyH_take (i := 4) (oi := { dst := some 35, op := _, type := _, pos := _, after := _, guard := _ }) (v := ?_) rfl (by kernel_rfl) (by kernel_rfl) (by kernel_rfl) (fun _ _ _ h => h) (Or.inl ⟨by rfl, ?_⟩) (by assumption) ?_
            rotate_left
            · intro wz hSw; (try dsimp only at hSw); go_simp; try with_reducible rfl
            (try simp only [Act.put]); (try simp only [List.setIfInBounds_toArray]); (try simp only [List.set_cons_succ]); (try simp only [List.set_cons_zero])
            refine wpAnyH_take (i := 8) (oi := { dst := some 39, op := _, type := _, pos := _, after := _, guard := _ }) (v := ?_) rfl (by kernel_rfl) (by kernel_rfl) (by kernel_rfl) (fun _ _ _ h => h) (Or.inl ⟨by rfl, ?_⟩) (by assumption) ?_
            rotate_left
            · intro wz hSw; (try dsimp only at hSw); go_simp; try with_reducible rfl
            (try simp only [Act.put]); (try simp only [List.setIfInBounds_toArray]); (try simp only [List.set_cons_succ]); (try simp only [List.set_cons_zero])
            refine wpAnyH_take (i := 9) (oi := { dst := some 40, op := _, type := _, pos := _, after := _, guard := _ }) (v := ?_) rfl (by kernel_rfl) (by kernel_rfl) (by kernel_rfl) (fun _ _ _ h => h) (Or.inl ⟨by rfl, ?_⟩) (by assumption) ?_
            rotate_left
            · intro wz hSw; (try dsimp only at hSw); go_simp; try with_reducible rfl
            (try simp only [Act.put]); (try simp only [List.setIfInBounds_toArray]); (try simp only [List.set_cons_succ]); (try simp only [List.set_cons_zero])
            refine wpAnyH_take (i := 10) (oi := { dst := some 41, op := _, type := _, pos := _, after := _, guard := _ }) (v := ?_) rfl (by kernel_rfl) (by kernel_rfl) (by kernel_rfl) (fun _ _ _ h => h) (Or.inl ⟨by rfl, ?_⟩) (by assumption) ?_
            rotate_left
            · intro wz hSw; (try dsimp only at hSw); go_simp; try with_reducible rfl
            (try simp only [Act.put]); (try simp only [List.setIfInBounds_toArray]); (try simp only [List.set_cons_succ]); (try simp only [List.set_cons_zero])
            refine wpAnyH_take (i := 11) (oi := { dst := some 42, op := _, type := _, pos := _, after := _, guard := _ }) (v := ?_) rfl (by kernel_rfl) (by kernel_rfl) (by kernel_rfl) (fun _ _ _ h => h) (Or.inl ⟨by rfl, ?_⟩) (by assumption) ?_
            rotate_left
            · intro wz hSw; (try dsimp only at hSw); go_simp; try with_reducible rfl
            (try simp only [Act.put]); (try simp only [List.setIfInBounds_toArray]); (try simp only [List.set_cons_succ]); (try simp only [List.set_cons_zero])
            refine wpAnyH_take (i := 12) (oi := { dst := some 43, op := _, type := _, pos := _, after := _, guard := _ }) (v := ?_) rfl (by kernel_rfl) (by kernel_rfl) (by kernel_rfl) (fun _ _ _ h => h) (Or.inl ⟨by rfl, ?_⟩) (by assumption) ?_
            rotate_left
            · intro wz hSw; (try dsimp only at hSw); go_simp; try with_reducible rfl
            (try simp only [Act.put]); (try simp only [List.setIfInBounds_toArray]); (try simp only [List.set_cons_succ]); (try simp only [List.set_cons_zero])
            refine wpAnyH_take (i := 13) (oi := { dst := some 44, op := _, type := _, pos := _, after := _, guard := _ }) (v := ?_) rfl (by kernel_rfl) (by kernel_rfl) (by kernel_rfl) (fun _ _ _ h => h) (Or.inl ⟨by rfl, ?_⟩) (by assumption) ?_
            rotate_left
            · intro wz hSw; (try dsimp only at hSw); go_simp; try with_reducible rfl
            (try simp only [Act.put]); (try simp only [List.setIfInBounds_toArray]); (try simp only [List.set_cons_succ]); (try simp only [List.set_cons_zero])
            refine wpAnyH_take (i := 14) (oi := { dst := some 45, op := _, type := _, pos := _, after := _, guard := _ }) (v := ?_) rfl (by kernel_rfl) (by kernel_rfl) (by kernel_rfl) (fun _ _ _ h => h) (Or.inl ⟨by rfl, ?_⟩) (by assumption) ?_
            rotate_left
            · intro wz hSw; (try dsimp only at hSw); go_simp; try with_reducible rfl
            (try simp only [Act.put]); (try simp only [List.setIfInBounds_toArray]); (try simp only [List.set_cons_succ]); (try simp only [List.set_cons_zero])
            refine wpAnyH_take (i := 15) (oi := { dst := some 46, op := _, type := _, pos := _, after := _, guard := _ }) (v := ?_) rfl (by kernel_rfl) (by kernel_rfl) (by kernel_rfl) (fun _ _ _ h => h) (Or.inl ⟨by rfl, ?_⟩) (by assumption) ?_
            rotate_left
            · intro wz hSw; (try dsimp only at hSw); go_simp; try with_reducible rfl
            (try simp only [Act.put]); (try simp only [List.setIfInBounds_toArray]); (try simp only [List.set_cons_succ]); (try simp only [List.set_cons_zero])
            refine wpAnyH_take (i := 16) (oi := { dst := some 47, op := _, type := _, pos := _, after := _, guard := _ }) (v := ?_) rfl (by kernel_rfl) (by kernel_rfl) (by kernel_rfl) (fun _ _ _ h => h) (Or.inl ⟨by rfl, ?_⟩) (by assumption) ?_
            rotate_left
            · intro wz hSw; (try dsimp only at hSw); go_simp; try with_reducible rfl
            (try simp only [Act.put]); (try simp only [List.setIfInBounds_toArray]); (try simp only [List.set_cons_succ]); (try simp only [List.set_cons_zero])
            refine wpAnyH_take (i := 17) (oi := { dst := some 48, op := _, type := _, pos := _, after := _, guard := _ }) (v := ?_) rfl (by kernel_rfl) (by kernel_rfl) (by kernel_rfl) (fun _ _ _ h => h) (Or.inl ⟨by rfl, ?_⟩) (by assumption) ?_
            rotate_left
            · intro wz hSw; (try dsimp only at hSw); go_simp; try with_reducible rfl
            (try simp only [Act.put]); (try simp only [List.setIfInBounds_toArray]); (try simp only [List.set_cons_succ]); (try simp only [List.set_cons_zero])
            refine wpAnyH_take (i := 18) (oi := { dst := some 49, op := _, type := _, pos := _, after := _, guard := _ }) (v := ?_) rfl (by kernel_rfl) (by kernel_rfl) (by kernel_rfl) (fun _ _ _ h => h) (Or.inl ⟨by rfl, ?_⟩) (by assumption) ?_
            rotate_left
            · intro wz hSw; (try dsimp only at hSw); go_simp; try with_reducible rfl
            (try simp only [Act.put]); (try simp only [List.setIfInBounds_toArray]); (try simp only [List.set_cons_succ]); (try simp only [List.set_cons_zero])
            refine wpAnyH_take (i := 19) (oi := { dst := some 50, op := _, type := _, pos := _, after := _, guard := _ }) (v := ?_) rfl (by kernel_rfl) (by kernel_rfl) (by kernel_rfl) (fun _ _ _ h => h) (Or.inl ⟨by rfl, ?_⟩) (by assumption) ?_
            rotate_left
            · intro wz hSw; (try dsimp only at hSw); go_simp; try with_reducible rfl
            (try simp only [Act.put]); (try simp only [List.setIfInBounds_toArray]); (try simp only [List.set_cons_succ]); (try simp only [List.set_cons_zero])
            refine wpAnyH_take (i := 20) (oi := { dst := some 51, op := _, type := _, pos := _, after := _, guard := _ }) (v := ?_) rfl (by kernel_rfl) (by kernel_rfl) (by kernel_rfl) (fun _ _ _ h => h) (Or.inl ⟨by rfl, ?_⟩) (by assumption) ?_
            rotate_left
            · intro wz hSw; (try dsimp only at hSw); go_simp; try with_reducible rfl
            (try simp only [Act.put]); (try simp only [List.setIfInBounds_toArray]); (try simp only [List.set_cons_succ]); (try simp only [List.set_cons_zero])
            refine wpAnyH_take (i := 21) (oi := { dst := some 52, op := _, type := _, pos := _, after := _, guard := _ }) (v := ?_) rfl (by kernel_rfl) (by kernel_rfl) (by kernel_rfl) (fun _ _ _ h => h) (Or.inl ⟨by rfl, ?_⟩) (by assumption) ?_
            rotate_left
            · intro wz hSw; (try dsimp only at hSw); go_simp; try with_reducible rfl
            (try simp only [Act.put]); (try simp only [List.setIfInBounds_toArray]); (try simp only [List.set_cons_succ]); (try simp only [List.set_cons_zero])
            refine wpAnyH_take (i := 22) (oi := { dst := some 53, op := _, type := _, pos := _, after := _, guard := _ }) (v := ?_) rfl (by kernel_rfl) (by kernel_rfl) (by kernel_rfl) (fun _ _ _ h => h) (Or.inl ⟨by rfl, ?_⟩) (by assumption) ?_
            rotate_left
            · intro wz hSw; (try dsimp only at hSw); go_simp; try with_reducible rfl
            (try simp only [Act.put]); (try simp only [List.setIfInBounds_toArray]); (try simp only [List.set_cons_succ]); (try simp only [List.set_cons_zero])
            have hb : Below wr.heap.size wr wr.drew := (Below.refl _ wr).drew
            generalize wr.drew = W0 at *
            refine wpAnyH_ready (rs := [0, 5, 24]) (by kernel_rfl) (by simp) ?_
            refine AllReadyH.cons (o := { dst := some 31, op := _, type := _, pos := _, after := _, guard := _ }) rfl (fun K hK => ?_) (AllReadyH.cons (o := { dst := some 36, op := _, type := _, pos := _, after := _, guard := _ }) rfl (fun K hK => ?_) (AllReadyH.cons (o := { dst := some 9, op := _, type := _, pos := _, after := _, guard := _ }) rfl (fun K hK => ?_) AllReadyH.nil))
            · go_simp
              have hL := heap_alloc_new (W0) (.cells #[.int .i64 0, .int .i64 1, .int .i64 0, .int .i64 1, .int .i64 5] 3)
              have hb := hb.alloc hb.size (.cells #[.int .i64 0, .int .i64 1, .int .i64 0, .int .i64 1, .int .i64 5] 3)
              generalize (W0).alloc (.cells #[.int .i64 0, .int .i64 1, .int .i64 0, .int .i64 1, .int .i64 5] 3) = W1 at *
              generalize (W0).heap.size = G at *
              have cL := cells_at hL K5.toNat
              simp only [hy] at cL
              refine hK.out _ _ (HS _ (past hB hb)) (fun hHeld => ?_)
              clear hK K
              (try simp only [Act.put]); (try simp only [List.setIfInBounds_toArray]); (try simp only [List.set_cons_succ]); (try simp only [List.set_cons_zero])
              refine wpAnyH_ready (rs := [5, 24]) (by kernel_rfl) (by simp) ?_
              refine AllReadyH.cons (o := { dst := some 36, op := _, type := _, pos := _, after := _, guard := _ }) rfl (fun K hK => ?_) (AllReadyH.cons (o := { dst := some 9, op := _, type := _, pos := _, after := _, guard := _ }) rfl (fun K hK => ?_) AllReadyH.nil)
              · go_simp
                with_reducible refine (hWn _).mono ?_
                rintro e wq ⟨rfl, rfl⟩
                try dsimp only
                refine hK.out _ _ (HS _ (past hB hb)) (fun hHeld => ?_)
                clear hK K
                (try simp only [Act.put]); (try simp only [List.setIfInBounds_toArray]); (try simp only [List.set_cons_succ]); (try simp only [List.set_cons_zero])
                refine wpAnyH_take (i := 6) (oi := { dst := some 37, op := _, type := _, pos := _, after := _, guard := _ }) (v := ?_) rfl (by kernel_rfl) (by kernel_rfl) (by kernel_rfl) (fun _ _ _ h => h) (Or.inl ⟨by rfl, ?_⟩) (by assumption) ?_
                rotate_left
                · intro wz hSw; (try dsimp only at hSw); go_simp; try with_reducible rfl
                (try simp only [Act.put]); (try simp only [List.setIfInBounds_toArray]); (try simp only [List.set_cons_succ]); (try simp only [List.set_cons_zero])
                refine wpAnyH_ready (rs := [7, 24]) (by kernel_rfl) (by simp) ?_
                refine AllReadyH.cons (o := { dst := some 38, op := _, type := _, pos := _, after := _, guard := _ }) rfl (fun K hK => ?_) (AllReadyH.cons (o := { dst := some 9, op := _, type := _, pos := _, after := _, guard := _ }) rfl (fun K hK => ?_) AllReadyH.nil)
                · go_simp
                  refine hK.out _ _ (HS _ (past hB hb)) (fun hHeld => ?_)
                  clear hK K
                  (try simp only [Act.put]); (try simp only [List.setIfInBounds_toArray]); (try simp only [List.set_cons_succ]); (try simp only [List.set_cons_zero])
                  refine wpAnyH_ready (rs := [23, 24]) (by kernel_rfl) (by simp) ?_
                  refine AllReadyH.cons (o := { dst := some 54, op := _, type := _, pos := _, after := _, guard := _ }) rfl (fun K hK => ?_) (AllReadyH.cons (o := { dst := some 9, op := _, type := _, pos := _, after := _, guard := _ }) rfl (fun K hK => ?_) AllReadyH.nil)
                  · go_simp
                    with_reducible refine (hpl _).mono ?_
                    rintro e W4 ⟨rfl, b2⟩
                    try dsimp only
                    have hb := past hb b2
                    refine hK.out _ _ (HS _ (past hB hb)) (fun hHeld => ?_)
                    clear hK K
                    (try simp only [Act.put]); (try simp only [List.setIfInBounds_toArray]); (try simp only [List.set_cons_succ]); (try simp only [List.set_cons_zero])
                    refine wpAnyH_ready (rs := [24]) (by kernel_rfl) (by simp) ?_
                    refine AllReadyH.cons (o := { dst := some 9, op := _, type := _, pos := _, after := _, guard := _ }) rfl (fun K hK => ?_) AllReadyH.nil
                    · go_simp
                      have hX := heap_alloc_new (W4) (.cells #[.int .i64 0, .int .i64 0, .int .i64 0, .int .i64 0] 32)
                      have hP : wr.heap.size ≤ (W4).heap.size := hb.size
                      have hb := hb.alloc hb.size (.cells #[.int .i64 0, .int .i64 0, .int .i64 0, .int .i64 0] 32)
                      generalize (W4).alloc (.cells #[.int .i64 0, .int .i64 0, .int .i64 0, .int .i64 0] 32) = W5 at *
                      generalize (W4).heap.size = P at *
                      refine hK.out _ _ (HS _ (past hB hb)) (fun hHeld => ?_)
                      clear hK K
                      (try simp only [Act.put]); (try simp only [List.setIfInBounds_toArray]); (try simp only [List.set_cons_succ]); (try simp only [List.set_cons_zero])
                      refine wpAnyH_ready (rs := [25]) (by kernel_rfl) (by simp) ?_
                      refine AllReadyH.cons (o := { dst := none, op := _, type := _, pos := _, after := _, guard := _ }) rfl (fun K hK => ?_) AllReadyH.nil
                      · obtain ⟨x0, x1, x2, x3, xf⟩ := C4.of hX
                        have xz := cells_frozen hX
                        go_simp
                        have hC := put4c hX x
                        have hb := ((((hb.setCell (p := ⟨P, 0, none⟩) hP (.int .i64 x.op)).setCell (p := ⟨P, 1, none⟩) hP (.int .i64 x.a)).setCell (p := ⟨P, 2, none⟩) hP (.int .i64 x.b)).setCell (p := ⟨P, 3, none⟩) hP (.int .i64 x.n))
                        refine hK.out _ _ (HS _ (past hB hb)) (fun hHeld => ?_)
                        clear hK K
                        (try simp only [Act.put]); (try simp only [List.setIfInBounds_toArray]); (try simp only [List.set_cons_succ]); (try simp only [List.set_cons_zero])
                        refine wpAnyH_done (by kernel_rfl) ?_ _
                        go_wp2_with fail
                        go_meet
                        exact ⟨_, rfl, hC, hP, hb⟩
                  · go_simp
                    have hX := heap_alloc_new (W1) (.cells #[.int .i64 0, .int .i64 0, .int .i64 0, .int .i64 0] 32)
                    have hP : wr.heap.size ≤ (W1).heap.size := hb.size
                    have hb := hb.alloc hb.size (.cells #[.int .i64 0, .int .i64 0, .int .i64 0, .int .i64 0] 32)
                    generalize (W1).alloc (.cells #[.int .i64 0, .int .i64 0, .int .i64 0, .int .i64 0] 32) = W7 at *
                    generalize (W1).heap.size = P at *
                    refine hK.out _ _ (HS _ (past hB hb)) (fun hHeld => ?_)
                    clear hK K
                    (try simp only [Act.put]); (try simp only [List.setIfInBounds_toArray]); (try simp only [List.set_cons_succ]); (try simp only [List.set_cons_zero])
                    refine wpAnyH_ready (rs := [23]) (by kernel_rfl) (by simp) ?_
                    refine AllReadyH.cons (o := { dst := some 54, op := _, type := _, pos := _, after := _, guard := _ }) rfl (fun K hK => ?_) AllReadyH.nil
                    · go_simp
                      with_reducible refine (hpl _).mono ?_
                      rintro e W8 ⟨rfl, b2⟩
                      try dsimp only
                      have hX := (b2.block P (lt_of_block hX)).trans hX
                      have hb := past hb b2
                      refine hK.out _ _ (HS _ (past hB hb)) (fun hHeld => ?_)
                      clear hK K
                      (try simp only [Act.put]); (try simp only [List.setIfInBounds_toArray]); (try simp only [List.set_cons_succ]); (try simp only [List.set_cons_zero])
                      refine wpAnyH_ready (rs := [25]) (by kernel_rfl) (by simp) ?_
                      refine AllReadyH.cons (o := { dst := none, op := _, type := _, pos := _, after := _, guard := _ }) rfl (fun K hK => ?_) AllReadyH.nil
                      · obtain ⟨x0, x1, x2, x3, xf⟩ := C4.of hX
                        have xz := cells_frozen hX
                        go_simp
                        have hC := put4c hX x
                        have hb := ((((hb.setCell (p := ⟨P, 0, none⟩) hP (.int .i64 x.op)).setCell (p := ⟨P, 1, none⟩) hP (.int .i64 x.a)).setCell (p := ⟨P, 2, none⟩) hP (.int .i64 x.b)).setCell (p := ⟨P, 3, none⟩) hP (.int .i64 x.n))
                        refine hK.out _ _ (HS _ (past hB hb)) (fun hHeld => ?_)
                        clear hK K
                        (try simp only [Act.put]); (try simp only [List.setIfInBounds_toArray]); (try simp only [List.set_cons_succ]); (try simp only [List.set_cons_zero])
                        refine wpAnyH_done (by kernel_rfl) ?_ _
                        go_wp2_with fail
                        go_meet
                        exact ⟨_, rfl, hC, hP, hb⟩
                · go_simp
                  have hX := heap_alloc_new (W1) (.cells #[.int .i64 0, .int .i64 0, .int .i64 0, .int .i64 0] 32)
                  have hP : wr.heap.size ≤ (W1).heap.size := hb.size
                  have hL := (Below.heap_alloc (W1) (.cells #[.int .i64 0, .int .i64 0, .int .i64 0, .int .i64 0] 32) G (lt_of_block hL)).trans hL
                  have cL := cells_at hL K5.toNat
                  simp only [hy] at cL
                  have hb := hb.alloc hb.size (.cells #[.int .i64 0, .int .i64 0, .int .i64 0, .int .i64 0] 32)
                  generalize (W1).alloc (.cells #[.int .i64 0, .int .i64 0, .int .i64 0, .int .i64 0] 32) = W10 at *
                  generalize (W1).heap.size = P at *
                  refine hK.out _ _ (HS _ (past hB hb)) (fun hHeld => ?_)
                  clear hK K
                  (try simp only [Act.put]); (try simp only [List.setIfInBounds_toArray]); (try simp only [List.set_cons_succ]); (try simp only [List.set_cons_zero])
                  refine wpAnyH_ready (rs := [7]) (by kernel_rfl) (by simp) ?_
                  refine AllReadyH.cons (o := { dst := some 38, op := _, type := _, pos := _, after := _, guard := _ }) rfl (fun K hK => ?_) AllReadyH.nil
                  · go_simp
                    refine hK.out _ _ (HS _ (past hB hb)) (fun hHeld => ?_)
                    clear hK K
                    (try simp only [Act.put]); (try simp only [List.setIfInBounds_toArray]); (try simp only [List.set_cons_succ]); (try simp only [List.set_cons_zero])
                    refine wpAnyH_ready (rs := [23]) (by kernel_rfl) (by simp) ?_
                    refine AllReadyH.cons (o := { dst := some 54, op := _, type := _, pos := _, after := _, guard := _ }) rfl (fun K hK => ?_) AllReadyH.nil
                    · go_simp
                      with_reducible refine (hpl _).mono ?_
                      rintro e W12 ⟨rfl, b2⟩
                      try dsimp only
                      have hX := (b2.block P (lt_of_block hX)).trans hX
                      have hb := past hb b2
                      refine hK.out _ _ (HS _ (past hB hb)) (fun hHeld => ?_)
                      clear hK K
                      (try simp only [Act.put]); (try simp only [List.setIfInBounds_toArray]); (try simp only [List.set_cons_succ]); (try simp only [List.set_cons_zero])
                      refine wpAnyH_ready (rs := [25]) (by kernel_rfl) (by simp) ?_
                      refine AllReadyH.cons (o := { dst := none, op := _, type := _, pos := _, after := _, guard := _ }) rfl (fun K hK => ?_) AllReadyH.nil
                      · obtain ⟨x0, x1, x2, x3, xf⟩ := C4.of hX
                        have xz := cells_frozen hX
                        go_simp
                        have hC := put4c hX x
                        have hb := ((((hb.setCell (p := ⟨P, 0, none⟩) hP (.int .i64 x.op)).setCell (p := ⟨P, 1, none⟩) hP (.int .i64 x.a)).setCell (p := ⟨P, 2, none⟩) hP (.int .i64 x.b)).setCell (p := ⟨P, 3, none⟩) hP (.int .i64 x.n))
                        refine hK.out _ _ (HS _ (past hB hb)) (fun hHeld => ?_)
                        clear hK K
                        (try simp only [Act.put]); (try simp only [List.setIfInBounds_toArray]); (try simp only [List.set_cons_succ]); (try simp only [List.set_cons_zero])
                        refine wpAnyH_done (by kernel_rfl) ?_ _
                        go_wp2_with fail
                        go_meet
                        exact ⟨_, rfl, hC, hP, hb⟩
              · go_simp
                have hX := heap_alloc_new (W1) (.cells #[.int .i64 0, .int .i64 0, .int .i64 0, .int .i64 0] 32)
                have hP : wr.heap.size ≤ (W1).heap.size := hb.size
                have hL := (Below.heap_alloc (W1) (.cells #[.int .i64 0, .int .i64 0, .int .i64 0, .int .i64 0] 32) G (lt_of_block hL)).trans hL
                have cL := cells_at hL K5.toNat
                simp only [hy] at cL
                have hb := hb.alloc hb.size (.cells #[.int .i64 0, .int .i64 0, .int .i64 0, .int .i64 0] 32)
                generalize (W1).alloc (.cells #[.int .i64 0, .int .i64 0, .int .i64 0, .int .i64 0] 32) = W14 at *
                generalize (W1).heap.size = P at *
                refine hK.out _ _ (HS _ (past hB hb)) (fun hHeld => ?_)
                clear hK K
                (try simp only [Act.put]); (try simp only [List.setIfInBounds_toArray]); (try simp only [List.set_cons_succ]); (try simp only [List.set_cons_zero])
                refine wpAnyH_ready (rs := [5]) (by kernel_rfl) (by simp) ?_
                refine AllReadyH.cons (o := { dst := some 36, op := _, type := _, pos := _, after := _, guard := _ }) rfl (fun K hK => ?_) AllReadyH.nil
                · go_simp
                  with_reducible refine (hWn _).mono ?_
                  rintro e wq ⟨rfl, rfl⟩
                  try dsimp only
                  refine hK.out _ _ (HS _ (past hB hb)) (fun hHeld => ?_)
                  clear hK K
                  (try simp only [Act.put]); (try simp only [List.setIfInBounds_toArray]); (try simp only [List.set_cons_succ]); (try simp only [List.set_cons_zero])
                  refine wpAnyH_take (i := 6) (oi := { dst := some 37, op := _, type := _, pos := _, after := _, guard := _ }) (v := ?_) rfl (by kernel_rfl) (by kernel_rfl) (by kernel_rfl) (fun _ _ _ h => h) (Or.inl ⟨by rfl, ?_⟩) (by assumption) ?_
                  rotate_left
                  · intro wz hSw; (try dsimp only at hSw); go_simp; try with_reducible rfl
                  (try simp only [Act.put]); (try simp only [List.setIfInBounds_toArray]); (try simp only [List.set_cons_succ]); (try simp only [List.set_cons_zero])
                  refine wpAnyH_ready (rs := [7]) (by kernel_rfl) (by simp) ?_
                  refine AllReadyH.cons (o := { dst := some 38, op := _, type := _, pos := _, after := _, guard := _ }) rfl (fun K hK => ?_) AllReadyH.nil
                  · go_simp
                    refine hK.out _ _ (HS _ (past hB hb)) (fun hHeld => ?_)
                    clear hK K
                    (try simp only [Act.put]); (try simp only [List.setIfInBounds_toArray]); (try simp only [List.set_cons_succ]); (try simp only [List.set_cons_zero])
                    refine wpAnyH_ready (rs := [23]) (by kernel_rfl) (by simp) ?_
                    refine AllReadyH.cons (o := { dst := some 54, op := _, type := _, pos := _, after := _, guard := _ }) rfl (fun K hK => ?_) AllReadyH.nil
                    · go_simp
                      with_reducible refine (hpl _).mono ?_
                      rintro e W17 ⟨rfl, b2⟩
                      try dsimp only
                      have hX := (b2.block P (lt_of_block hX)).trans hX
                      have hb := past hb b2
                      refine hK.out _ _ (HS _ (past hB hb)) (fun hHeld => ?_)
                      clear hK K
                      (try simp only [Act.put]); (try simp only [List.setIfInBounds_toArray]); (try simp only [List.set_cons_succ]); (try simp only [List.set_cons_zero])
                      refine wpAnyH_ready (rs := [25]) (by kernel_rfl) (by simp) ?_
                      refine AllReadyH.cons (o := { dst := none, op := _, type := _, pos := _, after := _, guard := _ }) rfl (fun K hK => ?_) AllReadyH.nil
                      · obtain ⟨x0, x1, x2, x3, xf⟩ := C4.of hX
                        have xz := cells_frozen hX
                        go_simp
                        have hC := put4c hX x
                        have hb := ((((hb.setCell (p := ⟨P, 0, none⟩) hP (.int .i64 x.op)).setCell (p := ⟨P, 1, none⟩) hP (.int .i64 x.a)).setCell (p := ⟨P, 2, none⟩) hP (.int .i64 x.b)).setCell (p := ⟨P, 3, none⟩) hP (.int .i64 x.n))
                        refine hK.out _ _ (HS _ (past hB hb)) (fun hHeld => ?_)
                        clear hK K
                        (try simp only [Act.put]); (try simp only [List.setIfInBounds_toArray]); (try simp only [List.set_cons_succ]); (try simp only [List.set_cons_zero])
                        refine wpAnyH_done (by kernel_rfl) ?_ _
                        go_wp2_with fail
                        go_meet
                        exact ⟨_, rfl, hC, hP, hb⟩
            · go_simp
              with_reducible refine (hWn _).mono ?_
              rintro e wq ⟨rfl, rfl⟩
              try dsimp only
              refine hK.out _ _ (HS _ (past hB hb)) (fun hHeld => ?_)
              clear hK K
              (try simp only [Act.put]); (try simp only [List.setIfInBounds_toArray]); (try simp only [List.set_cons_succ]); (try simp only [List.set_cons_zero])
              refine wpAnyH_ready (rs := [0, 24]) (by kernel_rfl) (by simp) ?_
              refine AllReadyH.cons (o := { dst := some 31, op := _, type := _, pos := _, after := _, guard := _ }) rfl (fun K hK => ?_) (AllReadyH.cons (o := { dst := some 9, op := _, type := _, pos := _, after := _, guard := _ }) rfl (fun K hK => ?_) AllReadyH.nil)
              · go_simp
                have hL := heap_alloc_new (W0) (.cells #[.int .i64 0, .int .i64 1, .int .i64 0, .int .i64 1, .int .i64 5] 3)
                have hb := hb.alloc hb.size (.cells #[.int .i64 0, .int .i64 1, .int .i64 0, .int .i64 1, .int .i64 5] 3)
                generalize (W0).alloc (.cells #[.int .i64 0, .int .i64 1, .int .i64 0, .int .i64 1, .int .i64 5] 3) = W20 at *
                generalize (W0).heap.size = G at *
                have cL := cells_at hL K5.toNat
                simp only [hy] at cL
                refine hK.out _ _ (HS _ (past hB hb)) (fun hHeld => ?_)
                clear hK K
                (try simp only [Act.put]); (try simp only [List.setIfInBounds_toArray]); (try simp only [List.set_cons_succ]); (try simp only [List.set_cons_zero])
                refine wpAnyH_take (i := 6) (oi := { dst := some 37, op := _, type := _, pos := _, after := _, guard := _ }) (v := ?_) rfl (by kernel_rfl) (by kernel_rfl) (by kernel_rfl) (fun _ _ _ h => h) (Or.inl ⟨by rfl, ?_⟩) (by assumption) ?_
                rotate_left
                · intro wz hSw; (try dsimp only at hSw); go_simp; try with_reducible rfl
                (try simp only [Act.put]); (try simp only [List.setIfInBounds_toArray]); (try simp only [List.set_cons_succ]); (try simp only [List.set_cons_zero])
                refine wpAnyH_ready (rs := [7, 24]) (by kernel_rfl) (by simp) ?_
                refine AllReadyH.cons (o := { dst := some 38, op := _, type := _, pos := _, after := _, guard := _ }) rfl (fun K hK => ?_) (AllReadyH.cons (o := { dst := some 9, op := _, type := _, pos := _, after := _, guard := _ }) rfl (fun K hK => ?_) AllReadyH.nil)
                · go_simp
                  refine hK.out _ _ (HS _ (past hB hb)) (fun hHeld => ?_)
                  clear hK K
                  (try simp only [Act.put]); (try simp only [List.setIfInBounds_toArray]); (try simp only [List.set_cons_succ]); (try simp only [List.set_cons_zero])
                  refine wpAnyH_ready (rs := [23, 24]) (by kernel_rfl) (by simp) ?_
                  refine AllReadyH.cons (o := { dst := some 54, op := _, type := _, pos := _, after := _, guard := _ }) rfl (fun K hK => ?_) (AllReadyH.cons (o := { dst := some 9, op := _, type := _, pos := _, after := _, guard := _ }) rfl (fun K hK => ?_) AllReadyH.nil)
                  · go_simp
                    with_reducible refine (hpl _).mono ?_
                    rintro e W22 ⟨rfl, b2⟩
                    try dsimp only
                    have hb := past hb b2
                    refine hK.out _ _ (HS _ (past hB hb)) (fun hHeld => ?_)
                    clear hK K
                    (try simp only [Act.put]); (try simp only [List.setIfInBounds_toArray]); (try simp only [List.set_cons_succ]); (try simp only [List.set_cons_zero])
                    refine wpAnyH_ready (rs := [24]) (by kernel_rfl) (by simp) ?_
                    refine AllReadyH.cons (o := { dst := some 9, op := _, type := _, pos := _, after := _, guard := _ }) rfl (fun K hK => ?_) AllReadyH.nil
                    · go_simp
                      have hX := heap_alloc_new (W22) (.cells #[.int .i64 0, .int .i64 0, .int .i64 0, .int .i64 0] 32)
                      have hP : wr.heap.size ≤ (W22).heap.size := hb.size
                      have hb := hb.alloc hb.size (.cells #[.int .i64 0, .int .i64 0, .int .i64 0, .int .i64 0] 32)
                      generalize (W22).alloc (.cells #[.int .i64 0, .int .i64 0, .int .i64 0, .int .i64 0] 32) = W23 at *
                      generalize (W22).heap.size = P at *
                      refine hK.out _ _ (HS _ (past hB hb)) (fun hHeld => ?_)
                      clear hK K
                      (try simp only [Act.put]); (try simp only [List.setIfInBounds_toArray]); (try simp only [List.set_cons_succ]); (try simp only [List.set_cons_zero])
                      refine wpAnyH_ready (rs := [25]) (by kernel_rfl) (by simp) ?_
                      refine AllReadyH.cons (o := { dst := none, op := _, type := _, pos := _, after := _, guard := _ }) rfl (fun K hK => ?_) AllReadyH.nil
                      · obtain ⟨x0, x1, x2, x3, xf⟩ := C4.of hX
                        have xz := cells_frozen hX
                        go_simp
                        have hC := put4c hX x
                        have hb := ((((hb.setCell (p := ⟨P, 0, none⟩) hP (.int .i64 x.op)).setCell (p := ⟨P, 1, none⟩) hP (.int .i64 x.a)).setCell (p := ⟨P, 2, none⟩) hP (.int .i64 x.b)).setCell (p := ⟨P, 3, none⟩) hP (.int .i64 x.n))
                        refine hK.out _ _ (HS _ (past hB hb)) (fun hHeld => ?_)
                        clear hK K
                        (try simp only [Act.put]); (try simp only [List.setIfInBounds_toArray]); (try simp only [List.set_cons_succ]); (try simp only [List.set_cons_zero])
                        refine wpAnyH_done (by kernel_rfl) ?_ _
                        go_wp2_with fail
                        go_meet
                        exact ⟨_, rfl, hC, hP, hb⟩
                  · go_simp
                    have hX := heap_alloc_new (W20) (.cells #[.int .i64 0, .int .i64 0, .int .i64 0, .int .i64 0] 32)
                    have hP : wr.heap.size ≤ (W20).heap.size := hb.size
                    have hb := hb.alloc hb.size (.cells #[.int .i64 0, .int .i64 0, .int .i64 0, .int .i64 0] 32)
                    generalize (W20).alloc (.cells #[.int .i64 0, .int .i64 0, .int .i64 0, .int .i64 0] 32) = W25 at *
                    generalize (W20).heap.size = P at *
                    refine hK.out _ _ (HS _ (past hB hb)) (fun hHeld => ?_)
                    clear hK K
                    (try simp only [Act.put]); (try simp only [List.setIfInBounds_toArray]); (try simp only [List.set_cons_succ]); (try simp only [List.set_cons_zero])
                    refine wpAnyH_ready (rs := [23]) (by kernel_rfl) (by simp) ?_
                    refine AllReadyH.cons (o := { dst := some 54, op := _, type := _, pos := _, after := _, guard := _ }) rfl (fun K hK => ?_) AllReadyH.nil
                    · go_simp
                      with_reducible refine (hpl _).mono ?_
                      rintro e W26 ⟨rfl, b2⟩
                      try dsimp only
                      have hX := (b2.block P (lt_of_block hX)).trans hX
                      have hb := past hb b2
                      refine hK.out _ _ (HS _ (past hB hb)) (fun hHeld => ?_)
                      clear hK K
                      (try simp only [Act.put]); (try simp only [List.setIfInBounds_toArray]); (try simp only [List.set_cons_succ]); (try simp only [List.set_cons_zero])
                      refine wpAnyH_ready (rs := [25]) (by kernel_rfl) (by simp) ?_
                      refine AllReadyH.cons (o := { dst := none, op := _, type := _, pos := _, after := _, guard := _ }) rfl (fun K hK => ?_) AllReadyH.nil
                      · obtain ⟨x0, x1, x2, x3, xf⟩ := C4.of hX
                        have xz := cells_frozen hX
                        go_simp
                        have hC := put4c hX x
                        have hb := ((((hb.setCell (p := ⟨P, 0, none⟩) hP (.int .i64 x.op)).setCell (p := ⟨P, 1, none⟩) hP (.int .i64 x.a)).setCell (p := ⟨P, 2, none⟩) hP (.int .i64 x.b)).setCell (p := ⟨P, 3, none⟩) hP (.int .i64 x.n))
                        refine hK.out _ _ (HS _ (past hB hb)) (fun hHeld => ?_)
                        clear hK K
                        (try simp only [Act.put]); (try simp only [List.setIfInBounds_toArray]); (try simp only [List.set_cons_succ]); (try simp only [List.set_cons_zero])
                        refine wpAnyH_done (by kernel_rfl) ?_ _
                        go_wp2_with fail
                        go_meet
                        exact ⟨_, rfl, hC, hP, hb⟩
                · go_simp
                  have hX := heap_alloc_new (W20) (.cells #[.int .i64 0, .int .i64 0, .int .i64 0, .int .i64 0] 32)
                  have hP : wr.heap.size ≤ (W20).heap.size := hb.size
                  have hL := (Below.heap_alloc (W20) (.cells #[.int .i64 0, .int .i64 0, .int .i64 0, .int .i64 0] 32) G (lt_of_block hL)).trans hL
                  have cL := cells_at hL K5.toNat
                  simp only [hy] at cL
                  have hb := hb.alloc hb.size (.cells #[.int .i64 0, .int .i64 0, .int .i64 0, .int .i64 0] 32)
                  generalize (W20).alloc (.cells #[.int .i64 0, .int .i64 0, .int .i64 0, .int .i64 0] 32) = W28 at *
                  generalize (W20).heap.size = P at *
                  refine hK.out _ _ (HS _ (past hB hb)) (fun hHeld => ?_)
                  clear hK K
                  (try simp only [Act.put]); (try simp only [List.setIfInBounds_toArray]); (try simp only [List.set_cons_succ]); (try simp only [List.set_cons_zero])
                  refine wpAnyH_ready (rs := [7]) (by kernel_rfl) (by simp) ?_
                  refine AllReadyH.cons (o := { dst := some 38, op := _, type := _, pos := _, after := _, guard := _ }) rfl (fun K hK => ?_) AllReadyH.nil
                  · go_simp
                    refine hK.out _ _ (HS _ (past hB hb)) (fun hHeld => ?_)
                    clear hK K
                    (try simp only [Act.put]); (try simp only [List.setIfInBounds_toArray]); (try simp only [List.set_cons_succ]); (try simp only [List.set_cons_zero])
                    refine wpAnyH_ready (rs := [23]) (by kernel_rfl) (by simp) ?_
                    refine AllReadyH.cons (o := { dst := some 54, op := _, type := _, pos := _, after := _, guard := _ }) rfl (fun K hK => ?_) AllReadyH.nil
                    · go_simp
                      with_reducible refine (hpl _).mono ?_
                      rintro e W30 ⟨rfl, b2⟩
                      try dsimp only
                      have hX := (b2.block P (lt_of_block hX)).trans hX
                      have hb := past hb b2
                      refine hK.out _ _ (HS _ (past hB hb)) (fun hHeld => ?_)
                      clear hK K
                      (try simp only [Act.put]); (try simp only [List.setIfInBounds_toArray]); (try simp only [List.set_cons_succ]); (try simp only [List.set_cons_zero])
                      refine wpAnyH_ready (rs := [25]) (by kernel_rfl) (by simp) ?_
                      refine AllReadyH.cons (o := { dst := none, op := _, type := _, pos := _, after := _, guard := _ }) rfl (fun K hK => ?_) AllReadyH.nil
                      · obtain ⟨x0, x1, x2, x3, xf⟩ := C4.of hX
                        have xz := cells_frozen hX
                        go_simp
                        have hC := put4c hX x
                        have hb := ((((hb.setCell (p := ⟨P, 0, none⟩) hP (.int .i64 x.op)).setCell (p := ⟨P, 1, none⟩) hP (.int .i64 x.a)).setCell (p := ⟨P, 2, none⟩) hP (.int .i64 x.b)).setCell (p := ⟨P, 3, none⟩) hP (.int .i64 x.n))
                        refine hK.out _ _ (HS _ (past hB hb)) (fun hHeld => ?_)
                        clear hK K
                        (try simp only [Act.put]); (try simp only [List.setIfInBounds_toArray]); (try simp only [List.set_cons_succ]); (try simp only [List.set_cons_zero])
                        refine wpAnyH_done (by kernel_rfl) ?_ _
                        go_wp2_with fail
                        go_meet
                        exact ⟨_, rfl, hC, hP, hb⟩
              · go_simp
                have hX := heap_alloc_new (W0) (.cells #[.int .i64 0, .int .i64 0, .int .i64 0, .int .i64 0] 32)
                have hP : wr.heap.size ≤ (W0).heap.size := hb.size
                have hb := hb.alloc hb.size (.cells #[.int .i64 0, .int .i64 0, .int .i64 0, .int .i64 0] 32)
                generalize (W0).alloc (.cells #[.int .i64 0, .int .i64 0, .int .i64 0, .int .i64 0] 32) = W32 at *
                generalize (W0).heap.size = P at *
                refine hK.out _ _ (HS _ (past hB hb)) (fun hHeld => ?_)
                clear hK K
                (try simp only [Act.put]); (try simp only [List.setIfInBounds_toArray]); (try simp only [List.set_cons_succ]); (try simp only [List.set_cons_zero])
                refine wpAnyH_ready (rs := [0]) (by kernel_rfl) (by simp) ?_
                refine AllReadyH.cons (o := { dst := some 31, op := _, type := _, pos := _, after := _, guard := _ }) rfl (fun K hK => ?_) AllReadyH.nil
                · go_simp
                  have hL := heap_alloc_new (W32) (.cells #[.int .i64 0, .int .i64 1, .int .i64 0, .int .i64 1, .int .i64 5] 3)
                  have hb := hb.alloc hb.size (.cells #[.int .i64 0, .int .i64 1, .int .i64 0, .int .i64 1, .int .i64 5] 3)
                  have hX := (Below.heap_alloc (W32) (.cells #[.int .i64 0, .int .i64 1, .int .i64 0, .int .i64 1, .int .i64 5] 3) P (lt_of_block hX)).trans hX
                  generalize (W32).alloc (.cells #[.int .i64 0, .int .i64 1, .int .i64 0, .int .i64 1, .int .i64 5] 3) = W33 at *
                  generalize (W32).heap.size = G at *
                  have cL := cells_at hL K5.toNat
                  simp only [hy] at cL
                  refine hK.out _ _ (HS _ (past hB hb)) (fun hHeld => ?_)
                  clear hK K
                  (try simp only [Act.put]); (try simp only [List.setIfInBounds_toArray]); (try simp only [List.set_cons_succ]); (try simp only [List.set_cons_zero])
                  refine wpAnyH_take (i := 6) (oi := { dst := some 37, op := _, type := _, pos := _, after := _, guard := _ }) (v := ?_) rfl (by kernel_rfl) (by kernel_rfl) (by kernel_rfl) (fun _ _ _ h => h) (Or.inl ⟨by rfl, ?_⟩) (by assumption) ?_
                  rotate_left
                  · intro wz hSw; (try dsimp only at hSw); go_simp; try with_reducible rfl
                  (try simp only [Act.put]); (try simp only [List.setIfInBounds_toArray]); (try simp only [List.set_cons_succ]); (try simp only [List.set_cons_zero])
                  refine wpAnyH_ready (rs := [7]) (by kernel_rfl) (by simp) ?_
                  refine AllReadyH.cons (o := { dst := some 38, op := _, type := _, pos := _, after := _, guard := _ }) rfl (fun K hK => ?_) AllReadyH.nil
                  · go_simp
                    refine hK.out _ _ (HS _ (past hB hb)) (fun hHeld => ?_)
                    clear hK K
                    (try simp only [Act.put]); (try simp only [List.setIfInBounds_toArray]); (try simp only [List.set_cons_succ]); (try simp only [List.set_cons_zero])
                    refine wpAnyH_ready (rs := [23]) (by kernel_rfl) (by simp) ?_
                    refine AllReadyH.cons (o := { dst := some 54, op := _, type := _, pos := _, after := _, guard := _ }) rfl (fun K hK => ?_) AllReadyH.nil
                    · go_simp
                      with_reducible refine (hpl _).mono ?_
                      rintro e W35 ⟨rfl, b2⟩
                      try dsimp only
                      have hX := (b2.block P (lt_of_block hX)).trans hX
                      have hb := past hb b2
                      refine hK.out _ _ (HS _ (past hB hb)) (fun hHeld => ?_)
                      clear hK K
                      (try simp only [Act.put]); (try simp only [List.setIfInBounds_toArray]); (try simp only [List.set_cons_succ]); (try simp only [List.set_cons_zero])
                      refine wpAnyH_ready (rs := [25]) (by kernel_rfl) (by simp) ?_
                      refine AllReadyH.cons (o := { dst := none, op := _, type := _, pos := _, after := _, guard := _ }) rfl (fun K hK => ?_) AllReadyH.nil
                      · obtain ⟨x0, x1, x2, x3, xf⟩ := C4.of hX
                        have xz := cells_frozen hX
                        go_simp
                        have hC := put4c hX x
                        have hb := ((((hb.setCell (p := ⟨P, 0, none⟩) hP (.int .i64 x.op)).setCell (p := ⟨P, 1, none⟩) hP (.int .i64 x.a)).setCell (p := ⟨P, 2, none⟩) hP (.int .i64 x.b)).setCell (p := ⟨P, 3, none⟩) hP (.int .i64 x.n))
                        refine hK.out _ _ (HS _ (past hB hb)) (fun hHeld => ?_)
                        clear hK K
                        (try simp only [Act.put]); (try simp only [List.setIfInBounds_toArray]); (try simp only [List.set_cons_succ]); (try simp only [List.set_cons_zero])
                        refine wpAnyH_done (by kernel_rfl) ?_ _
                        go_wp2_with fail
                        go_meet
                        exact ⟨_, rfl, hC, hP, hb⟩
            · go_simp
              have hX := heap_alloc_new (W0) (.cells #[.int .i64 0, .int .i64 0, .int .i64 0, .int .i64 0] 32)
              have hP : wr.heap.size ≤ (W0).heap.size := hb.size
              have hb := hb.alloc hb.size (.cells #[.int .i64 0, .int .i64 0, .int .i64 0, .int .i64 0] 32)
              generalize (W0).alloc (.cells #[.int .i64 0, .int .i64 0, .int .i64 0, .int .i64 0] 32) = W37 at *
              generalize (W0).heap.size = P at *
              refine hK.out _ _ (HS _ (past hB hb)) (fun hHeld => ?_)
              clear hK K
              (try simp only [Act.put]); (try simp only [List.setIfInBounds_toArray]); (try simp only [List.set_cons_succ]); (try simp only [List.set_cons_zero])
              refine wpAnyH_ready (rs := [0, 5]) (by kernel_rfl) (by simp) ?_
              refine AllReadyH.cons (o := { dst := some 31, op := _, type := _, pos := _, after := _, guard := _ }) rfl (fun K hK => ?_) (AllReadyH.cons (o := { dst := some 36, op := _, type := _, pos := _, after := _, guard := _ }) rfl (fun K hK => ?_) AllReadyH.nil)
              · go_simp
                have hL := heap_alloc_new (W37) (.cells #[.int .i64 0, .int .i64 1, .int .i64 0, .int .i64 1, .int .i64 5] 3)
                have hb := hb.alloc hb.size (.cells #[.int .i64 0, .int .i64 1, .int .i64 0, .int .i64 1, .int .i64 5] 3)
                have hX := (Below.heap_alloc (W37) (.cells #[.int .i64 0, .int .i64 1, .int .i64 0, .int .i64 1, .int .i64 5] 3) P (lt_of_block hX)).trans hX
                generalize (W37).alloc (.cells #[.int .i64 0, .int .i64 1, .int .i64 0, .int .i64 1, .int .i64 5] 3) = W38 at *
                generalize (W37).heap.size = G at *
                have cL := cells_at hL K5.toNat
                simp only [hy] at cL
                refine hK.out _ _ (HS _ (past hB hb)) (fun hHeld => ?_)
                clear hK K
                (try simp only [Act.put]); (try simp only [List.setIfInBounds_toArray]); (try simp only [List.set_cons_succ]); (try simp only [List.set_cons_zero])
                refine wpAnyH_ready (rs := [5]) (by kernel_rfl) (by simp) ?_
                refine AllReadyH.cons (o := { dst := some 36, op := _, type := _, pos := _, after := _, guard := _ }) rfl (fun K hK => ?_) AllReadyH.nil
                · go_simp
                  with_reducible refine (hWn _).mono ?_
                  rintro e wq ⟨rfl, rfl⟩
                  try dsimp only
                  refine hK.out _ _ (HS _ (past hB hb)) (fun hHeld => ?_)
                  clear hK K
                  (try simp only [Act.put]); (try simp only [List.setIfInBounds_toArray]); (try simp only [List.set_cons_succ]); (try simp only [List.set_cons_zero])
                  refine wpAnyH_take (i := 6) (oi := { dst := some 37, op := _, type := _, pos := _, after := _, guard := _ }) (v := ?_) rfl (by kernel_rfl) (by kernel_rfl) (by kernel_rfl) (fun _ _ _ h => h) (Or.inl ⟨by rfl, ?_⟩) (by assumption) ?_
                  rotate_left
                  · intro wz hSw; (try dsimp only at hSw); go_simp; try with_reducible rfl
                  (try simp only [Act.put]); (try simp only [List.setIfInBounds_toArray]); (try simp only [List.set_cons_succ]); (try simp only [List.set_cons_zero])
                  refine wpAnyH_ready (rs := [7]) (by kernel_rfl) (by simp) ?_
                  refine AllReadyH.cons (o := { dst := some 38, op := _, type := _, pos := _, after := _, guard := _ }) rfl (fun K hK => ?_) AllReadyH.nil
                  · go_simp
                    refine hK.out _ _ (HS _ (past hB hb)) (fun hHeld => ?_)
                    clear hK K
                    (try simp only [Act.put]); (try simp only [List.setIfInBounds_toArray]); (try simp only [List.set_cons_succ]); (try simp only [List.set_cons_zero])
                    refine wpAnyH_ready (rs := [23]) (by kernel_rfl) (by simp) ?_
                    refine AllReadyH.cons (o := { dst := some 54, op := _, type := _, pos := _, after := _, guard := _ }) rfl (fun K hK => ?_) AllReadyH.nil
                    · go_simp
                      with_reducible refine (hpl _).mono ?_
                      rintro e W41 ⟨rfl, b2⟩
                      try dsimp only
                      have hX := (b2.block P (lt_of_block hX)).trans hX
                      have hb := past hb b2
                      refine hK.out _ _ (HS _ (past hB hb)) (fun hHeld => ?_)
                      clear hK K
                      (try simp only [Act.put]); (try simp only [List.setIfInBounds_toArray]); (try simp only [List.set_cons_succ]); (try simp only [List.set_cons_zero])
                      refine wpAnyH_ready (rs := [25]) (by kernel_rfl) (by simp) ?_
                      refine AllReadyH.cons (o := { dst := none, op := _, type := _, pos := _, after := _, guard := _ }) rfl (fun K hK => ?_) AllReadyH.nil
                      · obtain ⟨x0, x1, x2, x3, xf⟩ := C4.of hX
                        have xz := cells_frozen hX
                        go_simp
                        have hC := put4c hX x
                        have hb := ((((hb.setCell (p := ⟨P, 0, none⟩) hP (.int .i64 x.op)).setCell (p := ⟨P, 1, none⟩) hP (.int .i64 x.a)).setCell (p := ⟨P, 2, none⟩) hP (.int .i64 x.b)).setCell (p := ⟨P, 3, none⟩) hP (.int .i64 x.n))
                        refine hK.out _ _ (HS _ (past hB hb)) (fun hHeld => ?_)
                        clear hK K
                        (try simp only [Act.put]); (try simp only [List.setIfInBounds_toArray]); (try simp only [List.set_cons_succ]); (try simp only [List.set_cons_zero])
                        refine wpAnyH_done (by kernel_rfl) ?_ _
                        go_wp2_with fail
                        go_meet
                        exact ⟨_, rfl, hC, hP, hb⟩
              · go_simp
                with_reducible refine (hWn _).mono ?_
                rintro e wq ⟨rfl, rfl⟩
                try dsimp only
                refine hK.out _ _ (HS _ (past hB hb)) (fun hHeld => ?_)
                clear hK K
                (try simp only [Act.put]); (try simp only [List.setIfInBounds_toArray]); (try simp only [List.set_cons_succ]); (try simp only [List.set_cons_zero])
                refine wpAnyH_ready (rs := [0]) (by kernel_rfl) (by simp) ?_
                refine AllReadyH.cons (o := { dst := some 31, op := _, type := _, pos := _, after := _, guard := _ }) rfl (fun K hK => ?_) AllReadyH.nil
                · go_simp
                  have hL := heap_alloc_new (W37) (.cells #[.int .i64 0, .int .i64 1, .int .i64 0, .int .i64 1, .int .i64 5] 3)
                  have hb := hb.alloc hb.size (.cells #[.int .i64 0, .int .i64 1, .int .i64 0, .int .i64 1, .int .i64 5] 3)
                  have hX := (Below.heap_alloc (W37) (.cells #[.int .i64 0, .int .i64 1, .int .i64 0, .int .i64 1, .int .i64 5] 3) P (lt_of_block hX)).trans hX
                  generalize (W37).alloc (.cells #[.int .i64 0, .int .i64 1, .int .i64 0, .int .i64 1, .int .i64 5] 3) = W44 at *
                  generalize (W37).heap.size = G at *
                  have cL := cells_at hL K5.toNat
                  simp only [hy] at cL
                  refine hK.out _ _ (HS _ (past hB hb)) (fun hHeld => ?_)
                  clear hK K
                  (try simp only [Act.put]); (try simp only [List.setIfInBounds_toArray]); (try simp only [List.set_cons_succ]); (try simp only [List.set_cons_zero])
                  refine wpAnyH_take (i := 6) (oi := { dst := some 37, op := _, type := _, pos := _, after := _, guard := _ }) (v := ?_) rfl (by kernel_rfl) (by kernel_rfl) (by kernel_rfl) (fun _ _ _ h => h) (Or.inl ⟨by rfl, ?_⟩) (by assumption) ?_
                  rotate_left
                  · intro wz hSw; (try dsimp only at hSw); go_simp; try with_reducible rfl
                  (try simp only [Act.put]); (try simp only [List.setIfInBounds_toArray]); (try simp only [List.set_cons_succ]); (try simp only [List.set_cons_zero])
                  refine wpAnyH_ready (rs := [7]) (by kernel_rfl) (by simp) ?_
                  refine AllReadyH.cons (o := { dst := some 38, op := _, type := _, pos := _, after := _, guard := _ }) rfl (fun K hK => ?_) AllReadyH.nil
                  · go_simp
                    refine hK.out _ _ (HS _ (past hB hb)) (fun hHeld => ?_)
                    clear hK K
                    (try simp only [Act.put]); (try simp only [List.setIfInBounds_toArray]); (try simp only [List.set_cons_succ]); (try simp only [List.set_cons_zero])
                    refine wpAnyH_ready (rs := [23]) (by kernel_rfl) (by simp) ?_
                    refine AllReadyH.cons (o := { dst := some 54, op := _, type := _, pos := _, after := _, guard := _ }) rfl (fun K hK => ?_) AllReadyH.nil
                    · go_simp
                      with_reducible refine (hpl _).mono ?_
                      rintro e W46 ⟨rfl, b2⟩
                      try dsimp only
                      have hX := (b2.block P (lt_of_block hX)).trans hX
                      have hb := past hb b2
                      refine hK.out _ _ (HS _ (past hB hb)) (fun hHeld => ?_)
                      clear hK K
                      (try simp only [Act.put]); (try simp only [List.setIfInBounds_toArray]); (try simp only [List.set_cons_succ]); (try simp only [List.set_cons_zero])
                      refine wpAnyH_ready (rs := [25]) (by kernel_rfl) (by simp) ?_
                      refine AllReadyH.cons (o := { dst := none, op := _, type := _, pos := _, after := _, guard := _ }) rfl (fun K hK => ?_) AllReadyH.nil
                      · obtain ⟨x0, x1, x2, x3, xf⟩ := C4.of hX
                        have xz := cells_frozen hX
                        go_simp
                        have hC := put4c hX x
                        have hb := ((((hb.setCell (p := ⟨P, 0, none⟩) hP (.int .i64 x.op)).setCell (p := ⟨P, 1, none⟩) hP (.int .i64 x.a)).setCell (p := ⟨P, 2, none⟩) hP (.int .i64 x.b)).setCell (p := ⟨P, 3, none⟩) hP (.int .i64 x.n))
                        refine hK.out _ _ (HS _ (past hB hb)) (fun hHeld => ?_)
                        clear hK K
                        (try simp only [Act.put]); (try simp only [List.setIfInBounds_toArray]); (try simp only [List.set_cons_succ]); (try simp only [List.set_cons_zero])
                        refine wpAnyH_done (by kernel_rfl) ?_ _
                        go_wp2_with fail
                        go_meet
                        exact ⟨_, rfl, hC, hP, hb⟩
        case rest =>
          obtain ⟨P, rfl, hC, hP, hb⟩ := hcut
          have hlt := hSB.lt
          obtain ⟨x0, x1, x2, x3, xf⟩ := hC
          have c8 := (SCells.of (hSB.later hb)).c8
          obtain ⟨g', c', wN, hrun, hownN, bN⟩ := app_one (own_later hown hb) (by have := hb.size; omega) (by have := hacc.out; omega) x
          have hSN : SB wN w.heap.size RS.zero aS acc.length cap := (bN.block _ (by omega)).trans (hSB.later hb)
          have hBN : Below w.heap.size w wN := (past hB hb).trans (bN.mono (by omega))
          have d8 := (SCells.of hSN).c8
          have df := cells_frozen hSN 8
          go_wp2_with (refine Lib.wpList_append_run_sl _ rfl _ _ 24 rfl _ _ rfl rfl hrun ?_)
          go_roundg (K' - (k + 1))
          case measure => omega
          case rel => exact ⟨k + 1, I + 4, _, c', acc ++ [x], by omega, by go_num, by show _ = _; have := hI.out; omega, by show _ = _; have := hacc.out; simp; omega, plain_snoc hPl hplx', by rw [List.length_append]; exact hSN.setC _ _ _, own_set hownN (by show w.heap.size < _; omega) _, hBN.setCell (Nat.le_refl _) _⟩
      · have hx : ¬ ((I : Int) + 3 < (len0 : Int)) ∨ ((I : Int) + 3 < (len0 : Int)) ∧ ¬ ((I : Int) < 40) := by have := hI.out; omega
        have hI60 : (I : Int) ≤ 40 := by have := hI.out; omega
        have hfin : ∃ (aS' : Option Addr) (cap' : Nat) (l : List Ins), l.length ≤ 10 ∧ Hid (∀ x ∈ l, PlainI x) ∧ SB wr w.heap.size RS.zero aS' l.length cap' ∧ IsF wr w.heap.size aS' l ∧ Below w.heap.size w wr :=
          ⟨aS, cap, acc, by have := hacc.out; omega, hPl, hSB, IsF.own hown (by omega), hB⟩
        clear hSB hown hB hPl
        rcases hx with k1 | ⟨k1, k2⟩
        all_goals
          go_wp2_with fail
          go_meet
          exact hfin
  case rest =>
    obtain ⟨aS, cap, l, hl10, hPl, hSB, hIF, hB⟩ := hcut
    clear hB0 hb0 hsz0 hown0 q0
    by_cases hnil : l = []
    · subst hnil
      change SB wc w.heap.size RS.zero aS 0 cap at hSB
      have hN := next_some (c := cap) (n := 0) (o := none) (s := RS.zero) rfl rfl hIF.toL (by simp) (hV.later hB)
      obtain ⟨y0, y1, y2, y3, y4, y5, y6, y7, y8, y9⟩ := SCells.of hSB
      unfold stV nextV insV at hN
      go_upto_region 9 with (go_at_call 15; refine hN.mono ?_; rintro e w3 ⟨rfl, b3⟩)
      have hB3 := past hB (b3.alloc b3.size (.cells #[.int .i64 0, .int .i64 0, .int .i64 0, .int .i64 0] 32))
      generalize w3.alloc (.cells #[.int .i64 0, .int .i64 0, .int .i64 0, .int .i64 0] 32) = W3 at *
      go_wp2_with (go_at_call 16; refine (wakes8 _ (hV.later hB3)).mono ?_; rintro e w4 ⟨rfl, b4⟩)
      go_ret
      exact ⟨rfl, past hB3 b4⟩
    · have hpos : 0 < l.length := List.length_pos_iff.2 hnil
      have hpos' : (0 : Int) < (l.length : Int) := by omega
      have hne : ((l.length : Int) == 0) = false := by simp; omega
      have c8 := (SCells.of hSB).c8
      go_upto_block 2 with fail
      go_cut [12] (fun _ wr => ∃ rr : Nat → Int, SB wr w.heap.size ⟨rr, 0⟩ aS l.length cap ∧ IsF wr w.heap.size aS l ∧ Below w.heap.size w wr)
      case first =>
        obtain ⟨K, hK⟩ : ∃ K : Nat, K = min len1 8 := ⟨_, rfl⟩
        go_wp2_with fail
        go_loopg [12] K (fun g i wr => ∃ (k : Nat) (rr : Nat → Int), g + k = K ∧ i = .int .i64 k ∧ SB wr w.heap.size ⟨rr, 0⟩ aS l.length cap ∧ IsF wr w.heap.size aS l ∧ Below w.heap.size w wr)
        case atStart => exact ⟨0, fun _ => 0, by omega, rfl, hSB, hIF, hB⟩
        case round =>
          obtain ⟨k, rr, hg, rfl, hSB, hI, hB⟩ := hrel
          by_cases hk : k < K
          · have k1 : (k : Int) < (len1 : Int) := by omega
            have k2 : (k : Int) < 8 := by omega
            rcases q1 with q1 | ⟨b2, o2, rfl, hb2, hc2⟩
            · omega
            have cc := Plain.cell hc2 hb2 hB k (by omega)
            have cs := hSB.cell (k := k) (by omega)
            have cf := cells_frozen hSB k
            generalize z1.getD k 0 = y at *
            clear hc2
            go_wp2_with fail
            go_roundg (K - (k + 1))
            case measure => omega
            case rel => exact ⟨k + 1, _, by omega, by go_num, hSB.setR (by omega) _, hI.set _ _, hB.setCell (Nat.le_refl _) _⟩
          · have hx : ¬ ((k : Int) < (len1 : Int)) ∨ ((k : Int) < (len1 : Int)) ∧ ¬ ((k : Int) < 8) := by omega
            have hfin : ∃ rr : Nat → Int, SB wr w.heap.size ⟨rr, 0⟩ aS l.length cap ∧ IsF wr w.heap.size aS l ∧ Below w.heap.size w wr := ⟨rr, hSB, hI, hB⟩
            clear hSB hI hB
            rcases hx with k1 | ⟨k1, k2⟩
            all_goals
              go_wp2_with fail
              go_meet
              exact hfin
      case rest =>
        clear hSB hIF hB c8 q1
        obtain ⟨rr, hSB, hIF, hB⟩ := hcut
        obtain ⟨y0, y1, y2, y3, y4, y5, y6, y7, y8, y9⟩ := SCells.of hSB
        go_upto_block 4 with fail
        have bA := (Below.refl wc.heap.size wc).alloc (Nat.le_refl _) (.cells #[.int .u64 (rr 0), .int .u64 (rr 1), .int .u64 (rr 2), .int .u64 (rr 3), .int .u64 (rr 4), .int .u64 (rr 5), .int .u64 (rr 6), .int .u64 (rr 7)] 43)
        have hRB : RB (wc.alloc (.cells #[.int .u64 (rr 0), .int .u64 (rr 1), .int .u64 (rr 2), .int .u64 (rr 3), .int .u64 (rr 4), .int .u64 (rr 5), .int .u64 (rr 6), .int .u64 (rr 7)] 43)) wc.heap.size rr := heap_alloc_new wc _
        have hSB1 := hSB.later bA
        have hI1 := hIF.later bA
        have hI2 := hIF.fresh.later bA
        have hB1 := past hB bA
        have hBw : w.heap.size < wc.heap.size := hSB.lt
        clear hSB hIF hB bA y0 y1 y2 y3 y4 y5 y6 y7 y8 y9
        generalize wc.alloc (.cells #[.int .u64 (rr 0), .int .u64 (rr 1), .int .u64 (rr 2), .int .u64 (rr 3), .int .u64 (rr 4), .int .u64 (rr 5), .int .u64 (rr 6), .int .u64 (rr 7)] 43) = W1 at *
        generalize wc.heap.size = Bw at *
        have N0 := Int.emod_nonneg n (b := 30) (by omega)
        have N1 := Int.emod_lt_of_pos n (b := 30) (by omega)
        have hWn : ∀ wx, Calls Tryd.prog 14 #[.int .i64 n, .int .i64 30] wx fun e w' => e = .returned (.int .i64 (n % 30)) ∧ wx = w' := fun wx => within_any n 30 wx (by omega) (by omega)
        generalize hM : n % 30 = M at *
        obtain ⟨m, rfl⟩ : ∃ m : Nat, M = m := ⟨M.toNat, by omega⟩
        clear hM
        go_wp2_with fail
        go_loopg [14] m (fun g i wr => ∃ (k : Nat) (rr : Nat → Int) (p : Int) (aS : Option Addr) (cap : Nat), g + k = m ∧ i = .int .i64 k ∧ SB wr w.heap.size ⟨rr, p⟩ aS l.length cap ∧ RB wr Bw rr ∧ IsF wr w.heap.size aS l ∧ IsF wr Bw aS l ∧ 0 ≤ p ∧ p < (l.length : Int) ∧ Below w.heap.size w wr)
        case atStart => exact ⟨0, rr, 0, aS, cap, by omega, rfl, hSB1, hRB, hI1, hI2, Int.le_refl 0, hpos', hB1⟩
        case round =>
          clear hSB1 hRB hI1 hI2 hB1
          obtain ⟨k, rr, p, aS, cap, hg, rfl, hSB, hRB, hI1, hI2, p0, p1, hB⟩ := hrel
          by_cases hk : k < m
          · have k1 : (k : Int) < (m : Int) := by omega
            obtain ⟨x, hx⟩ : ∃ x, l[p.toNat]? = some x := ⟨_, List.getElem?_eq_getElem (by omega)⟩
            have hpx : PlainI x := hPl.out x (List.mem_of_getElem? hx)
            obtain ⟨hnx, hps⟩ := plain_step rr hx p0 p1 hpx
            obtain ⟨q0, q1⟩ := run1_pc rr p0 p1 hpx
            obtain ⟨⟨xa0, xa8⟩, ⟨xb0, xb8⟩, xn0, xn1⟩ := ok_ab hpx.1
            have hN := next_some (c := cap) (n := l.length) (o := some x) (s := ⟨rr, p⟩) rfl hnx hI1.toL (by omega) (hV.later hB)
            obtain ⟨y0, y1, y2, y3, y4, y5, y6, y7, y8, y9⟩ := SCells.of hSB
            unfold stV nextV insV at hN
            go_upto_region 19 with (first | (go_at_call 14; refine (hWn _).mono ?_; rintro e wq ⟨rfl, rfl⟩) | (go_at_call 15; refine hN.mono ?_; rintro e w3 ⟨rfl, b3⟩))
            have b3a := b3.alloc b3.size (.cells #[.int .i64 x.op, .int .i64 x.a, .int .i64 x.b, .int .i64 x.n] 32)
            have hX3 := C4.new w3 x.op x.a x.b x.n 32
            have hPx : wr.heap.size ≤ w3.heap.size := b3.size
            clear hN y0 y1 y2 y3 y4 y5 y6 y7 y8 y9 b3
            generalize w3.alloc (.cells #[.int .i64 x.op, .int .i64 x.a, .int .i64 x.b, .int .i64 x.n] 32) = W3 at *
            generalize w3.heap.size = Px at *
            have hB3 := past hB b3a
            have hSB3 := hSB.later b3a
            have hRB3 := hRB.later b3a
            have hI13 := hI1.later b3a
            have hI23 := hI2.later b3a
            have hRlt := hRB.lt
            clear hSB hRB hI1 hI2 hB
            obtain ⟨xo, hxo⟩ : ∃ o, Hid (x.op = o) := ⟨_, rfl⟩
            obtain ⟨r1, hr1⟩ : ∃ r, Hid (run1 rr x = r) := ⟨_, rfl⟩
            obtain ⟨c1, hc1⟩ : ∃ c, Hid (pc1 rr p x = c) := ⟨_, rfl⟩
            rw [hr1.out, hc1.out] at hps
            rw [hc1.out] at q0 q1
            obtain ⟨x0, x1, x2, x3, xf⟩ := id hX3
            have y9 := (SCells.of hSB3).c9
            have hxop := hpx.2
            go_upto_block 6 with fail
            go_cut [17, 120] (fun v _ wx => v = .int .i64 c1 ∧ RB wx Bw r1 ∧ SB wx w.heap.size ⟨rr, p⟩ aS l.length cap ∧ IsF wx w.heap.size aS l ∧ IsF wx Bw aS l ∧ Below w.heap.size w wx)
            case first =>
              have ca := hRB3.cell (k := x.a.toNat) (by omega)
              have cb := hRB3.cell (k := x.b.toNat) (by omega)
              have cz := cells_frozen hRB3 x.a.toNat
              have hne1 : w.heap.size ≠ Bw := by omega
              rcases hxop with ho | ho | ho
              · have e1 : r1 = fun j => if j = x.a.toNat then x.n else rr j := by rw [← hr1.out]; simp [run1, ho]
                have e2 : c1 = p + 1 := by rw [← hc1.out]; simp [pc1, ho]
                have hwn : IntKind.u64.wrap x.n = x.n := by rw [u64w]; omega
                rw [ho] at x0
                clear hr1 hc1
                go_wp2_with fail
                go_meet
                rw [e1, e2]
                exact ⟨rfl, hRB3.setR (by omega) _, (Below.heap_setCell _ _ _ _ hne1).trans hSB3, IsF.other hI13 hI23 _ _, hI23.set _ _, hB3.setCell (p := ⟨Bw, x.a.toNat, none⟩) (Nat.le_of_lt hBw) _⟩
              · have e1 : r1 = fun j => if j = x.a.toNat then addW (rr x.a.toNat) (rr x.b.toNat) else rr j := by rw [← hr1.out]; simp [run1, ho]
                have e2 : c1 = p + 1 := by rw [← hc1.out]; simp [pc1, ho]
                have hwn : IntKind.u64.wrap (rr x.a.toNat + rr x.b.toNat) = addW (rr x.a.toNat) (rr x.b.toNat) := by rw [u64w]; rfl
                rw [ho] at x0
                clear hr1 hc1
                go_upto_region 28 with fail
                go_region
                all_goals go_wp2
                all_goals go_meet
                all_goals rw [e1, e2]
                all_goals exact ⟨rfl, hRB3.setR (by omega) _, (Below.heap_setCell _ _ _ _ hne1).trans hSB3, IsF.other hI13 hI23 _ _, hI23.set _ _, (hB3.setCell (p := ⟨Bw, x.a.toNat, none⟩) (Nat.le_of_lt hBw) _).drew⟩
              · have e1 : r1 = rr := by rw [← hr1.out]; simp [run1, ho]
                by_cases hz : rr x.a.toNat = 0
                · have e2 : c1 = p + 1 := by rw [← hc1.out]; simp [pc1, ho, hz]
                  have hz' : (rr x.a.toNat != 0) = false := by simp [hz]
                  rw [ho] at x0
                  clear hr1 hc1 hz
                  go_wp2_with fail
                  go_meet
                  rw [e1, e2]
                  exact ⟨rfl, hRB3, hSB3, hI13, hI23, hB3⟩
                · have e2 : c1 = x.n := by rw [← hc1.out]; simp [pc1, ho, hz]
                  have hz' : (rr x.a.toNat != 0) = true := by simp [hz]
                  rw [ho] at x0
                  clear hr1 hc1 hz
                  go_wp2_with fail
                  go_meet
                  rw [e1, e2]
                  exact ⟨rfl, hRB3, hSB3, hI13, hI23, hB3⟩
            case rest =>
              clear hRB3 hSB3 hI13 hI23 hB3 hX3 x0 x1 x2 x3 xf y9 hxop
              obtain ⟨rfl, hRB3, hSB3, hI13, hI23, hB3⟩ := hcut
              have y8 := (SCells.of hSB3).c8
              obtain ⟨c2, hc2⟩ : ∃ c, Hid ((if (l.length : Int) ≤ c1 then 0 else c1) = c) := ⟨_, rfl⟩
              rw [hc2.out] at q0 q1 hps
              go_upto_if 152 with fail
              go_cut [17, 152] (fun v17 _ wx => v17 = .int .i64 c2 ∧ wx = wc)
              case first =>
                by_cases h0 : (l.length : Int) ≤ c1
                · rw [if_pos h0] at hc2
                  go_wp2_with fail
                  go_meet
                  exact ⟨by rw [← hc2.out], rfl⟩
                · rw [if_neg h0] at hc2
                  go_wp2_with fail
                  go_meet
                  exact ⟨by rw [← hc2.out], rfl⟩
              case rest =>
                obtain ⟨rfl, rfl⟩ := hcut
                clear y8
                have hP := plain_some (n := l.length) (c := cap) rfl hps hI13.toL (by omega) (by show _ ≤ p; omega) (hV.later hB3)
                obtain ⟨y0, y1, y2, y3, y4, y5, y6, y7, y8, y9⟩ := SCells.of hSB3
                unfold stV at hP
                go_upto_region 32 with (go_at_call 17; refine hP.mono ?_; rintro e w5 ⟨a', c5, rfl, hI5, b5⟩)
                have b5a := b5.alloc b5.size (.cells #[.int .u64 (r1 0), .int .u64 (r1 1), .int .u64 (r1 2), .int .u64 (r1 3), .int .u64 (r1 4), .int .u64 (r1 5), .int .u64 (r1 6), .int .u64 (r1 7), .slice a' l.length c5, .int .i64 c2] 45)
                have hSt : SB (w5.alloc (.cells #[.int .u64 (r1 0), .int .u64 (r1 1), .int .u64 (r1 2), .int .u64 (r1 3), .int .u64 (r1 4), .int .u64 (r1 5), .int .u64 (r1 6), .int .u64 (r1 7), .slice a' l.length c5, .int .i64 c2] 45)) w5.heap.size ⟨r1, c2⟩ a' l.length c5 := heap_alloc_new w5 _
                have hI5 := hI5.alloc (.cells #[.int .u64 (r1 0), .int .u64 (r1 1), .int .u64 (r1 2), .int .u64 (r1 3), .int .u64 (r1 4), .int .u64 (r1 5), .int .u64 (r1 6), .int .u64 (r1 7), .slice a' l.length c5, .int .i64 c2] 45)
                have hSB5 := hSB3.later b5a
                have hRB5 := hRB3.later b5a
                have hI15 := hI13.later b5a
                have hB5 := past hB3 b5a
                have hlt5 := hRB3.lt
                have hle5 := b5.size
                clear hP y0 y1 y2 y3 y4 y5 y6 y7 y8 y9
                generalize w5.alloc (.cells #[.int .u64 (r1 0), .int .u64 (r1 1), .int .u64 (r1 2), .int .u64 (r1 3), .int .u64 (r1 4), .int .u64 (r1 5), .int .u64 (r1 6), .int .u64 (r1 7), .slice a' l.length c5, .int .i64 c2] 45) = W5 at *
                generalize w5.heap.size = Pt at *
                have hSm := same_n (n := l.length) (c := c5) (d := cap) rfl hI5.toL hI15.toL (by omega)
                have hE := fun wx => eq8 (r1 0) (r1 1) (r1 2) (r1 3) (r1 4) (r1 5) (r1 6) (r1 7) wx
                obtain ⟨t0, t1, t2, t3, t4, t5, t6, t7, t8, t9⟩ := SCells.of hSt
                obtain ⟨u0, u1, u2, u3, u4, u5, u6, u7⟩ := hRB5.all
                have y8 := (SCells.of hSB5).c8
                go_upto_region 34 with (go_at_call 8; refine hSm.mono ?_; rintro e w6 ⟨rfl, b6⟩)
                clear t0 t1 t2 t3 t4 t5 t6 t7 t8 t9 u0 u1 u2 u3 u4 u5 u6 u7 y8 hE hSm
                have hSt6 := hSt.later b6
                have hSB6 := hSB5.later b6
                have hRB6 := hRB5.later b6
                have hB6 := past hB5 b6
                have hI6a := (hI5.toF (B := w.heap.size) (by omega)).later b6
                have hI6b := (hI5.toF (B := Bw) (by omega)).later b6
                obtain ⟨t0, t1, t2, t3, t4, t5, t6, t7, t8, t9⟩ := SCells.of hSt6
                obtain ⟨y0, y1, y2, y3, y4, y5, y6, y7, y8, y9⟩ := SCells.of hSB6
                have yf := cells_frozen hSB6
                go_wp2_with fail
                go_roundg (m - (k + 1))
                case measure => omega
                case rel => exact ⟨k + 1, r1, c2, a', c5, by omega, by go_num, hSB6.put ⟨r1, c2⟩ a' l.length c5, (put10_block (s := ⟨r1, c2⟩) (by omega)).trans hRB6, hI6a.put ⟨r1, c2⟩ a' l.length c5, IsF.otherPut hI6b hI6a ⟨r1, c2⟩ a' l.length c5, q0, q1, put10_below (s := ⟨r1, c2⟩) hB6 (Nat.le_refl _)⟩
          · have k1 : ¬ ((k : Int) < (m : Int)) := by omega
            go_wp2_with (first | (go_at_call 14; refine (hWn _).mono ?_; rintro e wq ⟨rfl, rfl⟩) | (go_at_call 16; refine (wakes8 _ (hV.later hB)).mono ?_; rintro e w4 ⟨rfl, b4⟩))
            go_ret
            exact ⟨rfl, past hB b4⟩
end Go.Proofs.YtfbmjagchjhddaaDoor
