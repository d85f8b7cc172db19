/-
  A process's tables: Tables.
-/
import Derived.Test.YtaofkedcdeocjaaSpH
import Derived.Test.YtaofkedcdeocjaaShelf
namespace Go.Proofs.Ytaofkedcdeocjaa
open Go.ChangeShapes Go.WideShapes Go.ChangeAt Go.RowKit

/-- The places where tables stand, up to upper table i, and j of its last ones. -/
def SS.row (S : SS) (i k : Nat) : List Int := S.up i :: (List.range k).map (fun j => S.la (i * 8 + j))
def SS.pre (S : SS) (i : Nat) : List Int := [S.kern, S.user] ++ (List.range i).flatMap (fun i => S.row i 8)
/-- All tables, once each, as they are met. -/
def SS.tabs (S : SS) : List Int := (S.pre 4).foldl addP []
theorem row_succ (S : SS) (i k : Nat) : S.row i (k + 1) = S.row i k ++ [S.la (i * 8 + k)] := by
  unfold SS.row; rw [List.range_succ]; simp
theorem pre_succ (S : SS) (i : Nat) : S.pre (i + 1) = S.pre i ++ S.row i 8 := by
  unfold SS.pre; rw [List.range_succ]; simp
theorem foldAdd_len (l : List Int) : ∀ acc : List Int, (l.foldl addP acc).length ≤ acc.length + l.length := by
  induction l with
  | nil => intro acc; simp
  | cons x l ih => intro acc; have := ih (addP acc x); have := addP_len acc x; simp only [List.foldl_cons, List.length_cons]; omega
theorem pre_len (S : SS) (i : Nat) : (S.pre i).length = 2 + 9 * i := by
  induction i with
  | zero => rfl
  | succ i ih => rw [pre_succ, List.length_append, ih]; simp [SS.row]; omega

def laRow (S : SS) (i : Nat) : List Value := (List.range 8).map fun j => .int .i64 (S.la (i * 8 + j))
theorem laRow_len (S : SS) (i : Nat) : (laRow S i).length = 8 := rfl
theorem SpAt.laRowR {w : World} {q b p : Nat} {S : SS} (h : SpAt w q b p S) {i : Nat} (hi : i < 4) : w.rangeAt q (9 + i * 8) (laRow S i) := fun j v hv => by
  have hj : j < 8 := (List.getElem?_eq_some_iff.1 hv).1
  have e : (laRow S i)[j]? = some (.int .i64 (S.la (i * 8 + j))) := by simp [laRow, hj]
  rw [e] at hv
  rw [Nat.add_assoc, h.laC (k := i * 8 + j) (by omega)]; exact hv
theorem up_index (S : SS) {k : Nat} (hk : k < 4) (wx : World) : (Instr.index 103 (.agg (upL S.tt).toArray) (.int .i64 (k : Int))).run Try.prog wx = .ok (.int .i64 (S.up k)) wx := by
  rcases (by omega : k = 0 ∨ k = 1 ∨ k = 2 ∨ k = 3) with rfl | rfl | rfl | rfl <;> kernel_rfl
theorem la_index (S : SS) (i : Nat) {k : Nat} (hk : k < 8) (wx : World) : (Instr.index 104 (.agg (laRow S i).toArray) (.int .i64 (k : Int))).run Try.prog wx = .ok (.int .i64 (S.la (i * 8 + k))) wx := by
  rcases (by omega : k = 0 ∨ k = 1 ∨ k = 2 ∨ k = 3 ∨ k = 4 ∨ k = 5 ∨ k = 6 ∨ k = 7) with rfl | rfl | rfl | rfl | rfl | rfl | rfl | rfl <;> kernel_rfl
/-- What has been met: of the roots, of whole upper tables, of some last ones. -/
def SS.tr (S : SS) (k : Nat) : List Int := ((S.pre 0).take k).foldl addP []
def SS.ta (S : SS) (k : Nat) : List Int := (S.pre k).foldl addP []
def SS.tb (S : SS) (k j : Nat) : List Int := (S.pre k ++ S.row k j).foldl addP []
theorem tr_two (S : SS) : S.tr 2 = S.ta 0 := rfl
theorem tr_len (S : SS) (k : Nat) : (S.tr k).length ≤ 2 := by
  have := foldAdd_len ((S.pre 0).take k) []
  have h2 : ((S.pre 0).take k).length ≤ 2 := by rw [List.length_take, pre_len]; omega
  unfold SS.tr; simp only [List.length_nil] at this; omega
theorem ta_len (S : SS) (k : Nat) : (S.ta k).length ≤ 2 + 9 * k := by
  have := foldAdd_len (S.pre k) []
  rw [pre_len] at this
  unfold SS.ta; simp only [List.length_nil] at this; omega
theorem tb_len (S : SS) (k j : Nat) : (S.tb k j).length ≤ 3 + 9 * k + j := by
  have := foldAdd_len (S.pre k ++ S.row k j) []
  rw [List.length_append, pre_len] at this
  have h2 : (S.row k j).length = 1 + j := by simp [SS.row]; omega
  unfold SS.tb; simp only [List.length_nil] at this; omega
theorem tb_zero (S : SS) (k : Nat) : addP (S.ta k) (S.up k) = S.tb k 0 := by unfold SS.ta SS.tb; rw [List.foldl_append]; rfl
theorem tb_succ (S : SS) (k j : Nat) : addP (S.tb k j) (S.la (k * 8 + j)) = S.tb k (j + 1) := by
  unfold SS.tb; rw [row_succ, ← List.append_assoc, List.foldl_append (l' := [S.la (k * 8 + j)])]; rfl
theorem tb_eight (S : SS) (k : Nat) : S.tb k 8 = S.ta (k + 1) := by unfold SS.ta SS.tb; rw [pre_succ]
theorem past' {n : Nat} {w w1 w2 : World} (a : Below n w w1) (b : Below n w1 w2) : Below n w w2 := a.trans b

/-- All tables, rising. -/
def SS.stab (S : SS) : List Int := S.tabs.mergeSort fun x y => decide (x ≤ y)
theorem stab_len (S : SS) : S.stab.length = S.tabs.length := List.length_mergeSort _
theorem tabs_ta (S : SS) : S.tabs = S.ta 4 := rfl
/-- Cells that hold a list of numbers. -/
def CL (w : World) (base : Nat) (a : Option Addr) (l : List Int) : Prop := l = [] ∨ ∃ g, a = some ⟨g, 0, none⟩ ∧ base ≤ g ∧ g < w.heap.size ∧ ∀ i, i < l.length → w.cell? ⟨g, i, none⟩ = some (.int .i64 (l.getD i 0))
open Go.Sort in
theorem sort_l {w : World} {base cap : Nat} {a : Option Addr} {l : List Int} (h : OL w base a cap l) (few : l.length ≤ 1000) :
    Calls Try.prog 61 #[.slice a l.length cap] w fun e w' => e = .returned (.tuple #[]) ∧ CL w' base a (l.mergeSort fun x y => decide (x ≤ y)) ∧ Below base w w' := by
  rcases h.cells with rfl | ⟨g, rfl, hb, hg, hc⟩
  · refine (Try.slices_Sort_int_none a cap w).mono ?_
    rintro e w' ⟨rfl, rfl⟩
    exact ⟨rfl, Or.inl (by simp), Below.refl _ _⟩
  · have hH : Holds (Value.int .i64) w g 0 l.toArray := fun j hj => by
      have hj' : j < l.length := by simpa using hj
      rw [Nat.zero_add]
      refine ⟨?_, (hc j hj').2⟩
      rw [(hc j hj').1]
      simp [List.getD, hj']
    refine (Try.slices_Sort_int g 0 cap l w hH hg (by omega)).mono ?_
    rintro e w' ⟨rfl, n, os, rfl⟩
    have hs : (l.mergeSort fun x y => decide (x ≤ y)).toArray.size = l.toArray.size := by simp
    have hH2 := holds_putRow (Value.int .i64) (Sort.ahead w n) g 0 l.toArray (l.mergeSort fun x y => decide (x ≤ y)).toArray hH hs
    have hblk : ∀ (W : World) (k : Nat), k < W.heap.size → (grow W os).heap[k]? = W.heap[k]? := fun W k hk => by
      unfold grow; simp only; rw [Array.getElem?_append_left hk]
    have hszw : (putRow (Value.int .i64) (Sort.ahead w n) g 0 (l.mergeSort fun x y => decide (x ≤ y)).toArray).heap.size = w.heap.size := by rw [size_putRow]; rfl
    refine ⟨rfl, Or.inr ⟨g, rfl, hb, ?_, fun i hi => ?_⟩, rfl, rfl, rfl, ?_, fun k hk => ?_⟩
    · rw [size_grow, hszw]; omega
    · have h1 := (hH2 i (by simpa using hi)).1
      rw [Nat.zero_add] at h1
      have h2 : (grow (putRow (Value.int .i64) (Sort.ahead w n) g 0 (l.mergeSort fun x y => decide (x ≤ y)).toArray) os).cell? ⟨g, i, none⟩ = (putRow (Value.int .i64) (Sort.ahead w n) g 0 (l.mergeSort fun x y => decide (x ≤ y)).toArray).cell? ⟨g, i, none⟩ := by
        unfold World.cell?
        rw [hblk _ g (by rw [hszw]; exact hg)]
      rw [h2, h1]
      simp [List.getD]
    · rw [size_grow, hszw]; omega
    · rw [hblk _ k (by rw [hszw]; omega)]
      unfold putRow mapBlock
      simp only
      rw [Array.getElem?_modify, if_neg (by omega)]; rfl

set_option maxRecDepth 20000 in
set_option maxHeartbeats 2000000 in
theorem tables_any {w : World} {q b p : Nat} {S : SS} (h : SpAt w q b p S) :
    Calls Try.prog 16 #[.pointer (some ⟨q, 0, none⟩)] w fun e w' => ∃ a cap, e = .returned (.slice a S.tabs.length cap) ∧ CL w' w.heap.size a S.stab ∧ Below w.heap.size w w' := by
  have hlt := h.lt
  have c3 := h.kernC
  have c4 := h.userC
  have c3d : w.drew.cell? ⟨q, 3, none⟩ = some (.int .i64 S.kern) := c3
  have c4d : w.drew.cell? ⟨q, 4, none⟩ = some (.int .i64 S.user) := c4
  have HS : ∀ wx, Below w.heap.size w wx → SpAt wx q b p S := fun wx bx => h.touch (S := Nil) (Touch.ofBelow bx) (fun h => h)
  have hi4 : (Try.prog.info? 103).map (·.size) = some (upL S.tt).length := by rw [upL_len]; kernel_rfl
  go_enter Try.func16, Try.ntmps16
  go_upto_region 2 with fail
  go_region
  go_upto_block 0 with fail
  have hb0 : Below w.heap.size w (w.alloc (.cells #[.int .i64 S.kern, .int .i64 S.user] 3)).drew := ((Below.refl _ w).alloc (Nat.le_refl _) _).drew
  have hk0 : (w.alloc (.cells #[.int .i64 S.kern, .int .i64 S.user] 3)).drew.heap[w.heap.size]? = some (.cells #[.int .i64 S.kern, .int .i64 S.user] 3 (0, 0)) := heap_alloc_new w _
  have hsz : (w.alloc (.cells #[.int .i64 S.kern, .int .i64 S.user] 3)).drew.heap.size = w.heap.size + 1 := by simp [World.drew]
  generalize (w.alloc (.cells #[.int .i64 S.kern, .int .i64 S.user] 3)).drew = W at *
  go_cut [3, 20] (fun v _ wx => ∃ a cap, v = .slice a (S.ta 0).length cap ∧ OL wx (w.heap.size + 1) a cap (S.ta 0) ∧ Below (w.heap.size + 1) W wx)
  case first =>
    go_wp2_with fail
    go_loopg [3, 20] 2 (fun g v i wr => ∃ (k : Nat) (a : Option Addr) (cap : Nat), g + k = 2 ∧ i = .int .i64 k ∧ v = .slice a (S.tr k).length cap ∧ OL wr (w.heap.size + 1) a cap (S.tr k) ∧ Below (w.heap.size + 1) W wr)
    case atStart => exact ⟨0, none, 0, by omega, rfl, rfl, World.ownsRow_nil _ _ _ _, Below.refl _ _⟩
    case round =>
      obtain ⟨k, a, cap, hg, rfl, rfl, hO, hB⟩ := hrel
      have hsz' := hB.size
      by_cases hk : k < 2
      · have k1 : (k : Int) < 2 := by omega
        have hkb : wr.heap[w.heap.size]? = some (.cells #[.int .i64 S.kern, .int .i64 S.user] 3 (0, 0)) := (hB.block w.heap.size (by omega)).trans hk0
        obtain ⟨x, hx1, hx2⟩ : ∃ x, wr.cell? ⟨w.heap.size, k, none⟩ = some (.int .i64 x) ∧ (S.pre 0).take (k + 1) = (S.pre 0).take k ++ [x] := by
          rcases (by omega : k = 0 ∨ k = 1) with rfl | rfl
          · exact ⟨S.kern, by simp [World.cell?, hkb], rfl⟩
          · exact ⟨S.user, by simp [World.cell?, hkb], rfl⟩
        have hl := tr_len S k
        have hA := add_any hO (by omega) (by omega) x
        have e : addP (S.tr k) x = S.tr (k + 1) := by unfold SS.tr; rw [hx2, List.foldl_append]; rfl
        rw [e] at hA
        clear hx2 e hl
        go_wp2_with (go_at_call 60; refine hA.mono ?_; rintro e w2 ⟨a2, c2, rfl, hO2, b2⟩)
        go_roundg (2 - (k + 1))
        case measure => omega
        case rel => exact ⟨k + 1, a2, c2, by omega, by go_num, rfl, hO2, hB.trans b2⟩
      · have k1 : ¬ ((k : Int) < 2) := by omega
        obtain rfl : k = 2 := by omega
        go_wp2_with fail
        go_meet
        rw [← tr_two]
        exact ⟨a, cap, rfl, hO, hB⟩
  case rest =>
    obtain ⟨a, cap, rfl, hO, hB⟩ := hcut
    have sp := HS _ (hb0.trans (hB.mono (by omega)))
    have c5 := sp.upR
    go_upto_block 2 with (refine wpList_load_mid rfl 103 _ rfl q 5 rfl (upL S.tt) _ c5 Try.underlying103 rfl hi4 ?_)
    go_wp2_with fail
    go_loopg [3, 6, 7, 9, 32] 4 (fun g v _ _ _ i wx => ∃ (k : Nat) (a : Option Addr) (cap : Nat), g + k = 4 ∧ i = .int .i64 k ∧ v = .slice a (S.ta k).length cap ∧ OL wx (w.heap.size + 1) a cap (S.ta k) ∧ Below (w.heap.size + 1) W wx)
    case atStart => exact ⟨0, a, cap, by omega, rfl, rfl, hO, hB⟩
    case round =>
      clear hO hB sp c5
      obtain ⟨k, a, cap, hg, rfl, rfl, hO, hB⟩ := hrel
      by_cases hk : k < 4
      · have k1 : (k : Int) < 4 := by omega
        have hix := up_index S hk
        have hsz' := hB.size
        have sp := HS _ (hb0.trans (hB.mono (by omega)))
        have c9 := sp.laRowR hk
        have hi8 : (Try.prog.info? 104).map (·.size) = some (laRow S k).length := by rw [laRow_len]; kernel_rfl
        have hl := ta_len S k
        have hA := add_any hO (by omega) (by omega) (S.up k)
        rw [tb_zero] at hA
        go_upto_region 11 with (go_at_call 60; refine hA.mono ?_; rintro e w2 ⟨a2, c2, rfl, hO2, b2⟩)
        have hB2 := hB.trans b2
        have sp2 := HS _ (hb0.trans (hB2.mono (by omega)))
        have c9 := sp2.laRowR hk
        clear hA hO b2 hB sp
        have k0 : (0 : Int) ≤ (k : Int) := by omega
        go_upto_block 5 with (refine wpList_load_mid rfl 104 _ rfl q (9 + k * 8) rfl (laRow S k) _ c9 Try.underlying104 rfl hi8 ?_)
        go_wp2_with fail
        go_loopg [3, 9, 45] 8 (fun g v _ i wr => ∃ (j : Nat) (a : Option Addr) (cap : Nat), g + j = 8 ∧ i = .int .i64 j ∧ v = .slice a (S.tb k j).length cap ∧ OL wr (w.heap.size + 1) a cap (S.tb k j) ∧ Below (w.heap.size + 1) W wr)
        case atStart => exact ⟨0, a2, c2, by omega, rfl, rfl, hO2, hB2⟩
        case round =>
          clear hO2 hB2 sp2 c9
          obtain ⟨j, a, cap, hgj, rfl, rfl, hO, hB⟩ := hrel
          have hsz' := hB.size
          by_cases hj : j < 8
          · have j1 : (j : Int) < 8 := by omega
            have hjx := la_index S k hj
            have hl := tb_len S k j
            have hA := add_any hO (by omega) (by omega) (S.la (k * 8 + j))
            rw [tb_succ] at hA
            clear hl
            go_wp2_with (go_at_call 60; refine hA.mono ?_; rintro e w2 ⟨a2, c2, rfl, hO2, b2⟩)
            go_roundg (8 - (j + 1))
            case measure => omega
            case rel => exact ⟨j + 1, a2, c2, by omega, by go_num, rfl, hO2, hB.trans b2⟩
          · have j1 : ¬ ((j : Int) < 8) := by omega
            obtain rfl : j = 8 := by omega
            go_wp2_with fail
            go_roundg (4 - (k + 1))
            case measure => omega
            case rel => exact ⟨k + 1, a, cap, by omega, by go_num, by rw [tb_eight], by rw [← tb_eight]; exact hO, hB⟩
      · have k1 : ¬ ((k : Int) < 4) := by omega
        obtain rfl : k = 4 := by omega
        have hl := ta_len S 4
        have hS := sort_l hO (by omega)
        go_wp2_with (go_at_call 61; refine hS.mono ?_; rintro e w2 ⟨rfl, hL2, b2⟩)
        go_ret
        have hBB := hb0.trans ((hB.trans b2).mono (by omega))
        refine ⟨a, cap, rfl, ?_, hBB⟩
        rcases hL2 with h0 | ⟨g, rfl, hg1, hg2, hc⟩
        · exact Or.inl h0
        · exact Or.inr ⟨g, rfl, by omega, hg2, hc⟩
end Go.Proofs.Ytaofkedcdeocjaa
