/-
  A process's tables: Tables.
-/
import Derived.Test.YtoododpeoffieaaSpBx
import Derived.Test.YtoododpeoffieaaShelf
import Derived.Test.YtoododpeoffieaaRefPx
import Derived.Test.YtoododpeoffieaaMemFx
import Derived.Lib.SlFresh
import Derived.Deep.RegionHeld3
namespace Go.Proofs.Ytoododpeoffieaa
open Go.ChangeShapes Go.WideShapes Go.ChangeAt Go.RowKit

/-- The places where tables stand, up to upper table i, and j of its last ones. -/
def SS.row (S : SS) (i k : Nat) : List Int := S.up i :: (List.range k).map (fun j => S.la (i * 8 + j))
def SS.pre (S : SS) (i : Nat) : List Int := [S.kern, S.user] ++ (List.range i).flatMap (fun i => S.row i 8)
/-- All tables, once each, as they are met. -/
def SS.tabs (S : SS) : List Int := (S.pre 4).foldl addP []
theorem row_succ (S : SS) (i k : Nat) : S.row i (k + 1) = S.row i k ++ [S.la (i * 8 + k)] := by
  unfold SS.row; rw [List.range_succ]; simp
theorem pre_succ (S : SS) (i : Nat) : S.pre (i + 1) = S.pre i ++ S.row i 8 := by
  unfold SS.pre; rw [List.range_succ]; simp
theorem foldAdd_len (l : List Int) : ∀ acc : List Int, (l.foldl addP acc).length ≤ acc.length + l.length := by
  induction l with
  | nil => intro acc; simp
  | cons x l ih => intro acc; have := ih (addP acc x); have := addP_len acc x; simp only [List.foldl_cons, List.length_cons]; omega
theorem pre_len (S : SS) (i : Nat) : (S.pre i).length = 2 + 9 * i := by
  induction i with
  | zero => rfl
  | succ i ih => rw [pre_succ, List.length_append, ih]; simp [SS.row]; omega

def laRow (S : SS) (i : Nat) : List Value := (List.range 8).map fun j => .int .i64 (S.la (i * 8 + j))
theorem laRow_len (S : SS) (i : Nat) : (laRow S i).length = 8 := rfl
theorem SpAt.laRowR {w : World} {q b p : Nat} {S : SS} (h : SpAt w q b p S) {i : Nat} (hi : i < 4) : w.rangeAt q (9 + i * 8) (laRow S i) := fun j v hv => by
  have hj : j < 8 := (List.getElem?_eq_some_iff.1 hv).1
  have e : (laRow S i)[j]? = some (.int .i64 (S.la (i * 8 + j))) := by simp [laRow, hj]
  rw [e] at hv
  rw [Nat.add_assoc, h.laC (k := i * 8 + j) (by omega)]; exact hv
theorem up_index (S : SS) {k : Nat} (hk : k < 4) (wx : World) : (Instr.index 92 (.agg (upL S.tt).toArray) (.int .i64 (k : Int))).run Try.prog wx = .ok (.int .i64 (S.up k)) wx := by
  rcases (by omega : k = 0 ∨ k = 1 ∨ k = 2 ∨ k = 3) with rfl | rfl | rfl | rfl <;> kernel_rfl
theorem la_index (S : SS) (i : Nat) {k : Nat} (hk : k < 8) (wx : World) : (Instr.index 93 (.agg (laRow S i).toArray) (.int .i64 (k : Int))).run Try.prog wx = .ok (.int .i64 (S.la (i * 8 + k))) wx := by
  rcases (by omega : k = 0 ∨ k = 1 ∨ k = 2 ∨ k = 3 ∨ k = 4 ∨ k = 5 ∨ k = 6 ∨ k = 7) with rfl | rfl | rfl | rfl | rfl | rfl | rfl | rfl <;> kernel_rfl
/-- What has been met: of the roots, of whole upper tables, of some last ones. -/
def SS.tr (S : SS) (k : Nat) : List Int := ((S.pre 0).take k).foldl addP []
def SS.ta (S : SS) (k : Nat) : List Int := (S.pre k).foldl addP []
def SS.tb (S : SS) (k j : Nat) : List Int := (S.pre k ++ S.row k j).foldl addP []
theorem tr_two (S : SS) : S.tr 2 = S.ta 0 := rfl
theorem tr_len (S : SS) (k : Nat) : (S.tr k).length ≤ 2 := by
  have := foldAdd_len ((S.pre 0).take k) []
  have h2 : ((S.pre 0).take k).length ≤ 2 := by rw [List.length_take, pre_len]; omega
  unfold SS.tr; simp only [List.length_nil] at this; omega
theorem ta_len (S : SS) (k : Nat) : (S.ta k).length ≤ 2 + 9 * k := by
  have := foldAdd_len (S.pre k) []
  rw [pre_len] at this
  unfold SS.ta; simp only [List.length_nil] at this; omega
theorem tb_len (S : SS) (k j : Nat) : (S.tb k j).length ≤ 3 + 9 * k + j := by
  have := foldAdd_len (S.pre k ++ S.row k j) []
  rw [List.length_append, pre_len] at this
  have h2 : (S.row k j).length = 1 + j := by simp [SS.row]; omega
  unfold SS.tb; simp only [List.length_nil] at this; omega
theorem tb_zero (S : SS) (k : Nat) : addP (S.ta k) (S.up k) = S.tb k 0 := by unfold SS.ta SS.tb; rw [List.foldl_append]; rfl
theorem tb_succ (S : SS) (k j : Nat) : addP (S.tb k j) (S.la (k * 8 + j)) = S.tb k (j + 1) := by
  unfold SS.tb; rw [row_succ, ← List.append_assoc, List.foldl_append (l' := [S.la (k * 8 + j)])]; rfl
theorem tb_eight (S : SS) (k : Nat) : S.tb k 8 = S.ta (k + 1) := by unfold SS.ta SS.tb; rw [pre_succ]
theorem past' {n : Nat} {w w1 w2 : World} (a : Below n w w1) (b : Below n w1 w2) : Below n w w2 := a.trans b

/-- All tables, rising. -/
def SS.stab (S : SS) : List Int := S.tabs.mergeSort fun x y => decide (x ≤ y)
theorem stab_len (S : SS) : S.stab.length = S.tabs.length := List.length_mergeSort _
theorem tabs_ta (S : SS) : S.tabs = S.ta 4 := rfl
/-- Cells that hold a list of numbers. -/
def CL (w : World) (base : Nat) (a : Option Addr) (l : List Int) : Prop := l = [] ∨ ∃ g, a = some ⟨g, 0, none⟩ ∧ base ≤ g ∧ g < w.heap.size ∧ ∀ i, i < l.length → w.cell? ⟨g, i, none⟩ = some (.int .i64 (l.getD i 0))
open Go.Sort in
theorem sort_l {w : World} {base cap : Nat} {a : Option Addr} {l : List Int} (h : OL w base a cap l) (few : l.length ≤ 1000) :
    Calls Try.prog 58 #[.slice a l.length cap] w fun e w' => e = .returned (.tuple #[]) ∧ CL w' base a (l.mergeSort fun x y => decide (x ≤ y)) ∧ Below base w w' := by
  rcases h.cells with rfl | ⟨g, rfl, hb, hg, hc⟩
  · refine (Try.slices_Sort_int_none a cap w).mono ?_
    rintro e w' ⟨rfl, rfl⟩
    exact ⟨rfl, Or.inl (by simp), Below.refl _ _⟩
  · have hH : Holds (Value.int .i64) w g 0 l.toArray := fun j hj => by
      have hj' : j < l.length := by simpa using hj
      rw [Nat.zero_add]
      refine ⟨?_, (hc j hj').2⟩
      rw [(hc j hj').1]
      simp [List.getD, hj']
    refine (Try.slices_Sort_int g 0 cap l w hH hg (by omega)).mono ?_
    rintro e w' ⟨rfl, n, os, rfl⟩
    have hs : (l.mergeSort fun x y => decide (x ≤ y)).toArray.size = l.toArray.size := by simp
    have hH2 := holds_putRow (Value.int .i64) (Sort.ahead w n) g 0 l.toArray (l.mergeSort fun x y => decide (x ≤ y)).toArray hH hs
    have hblk : ∀ (W : World) (k : Nat), k < W.heap.size → (grow W os).heap[k]? = W.heap[k]? := fun W k hk => by
      unfold grow; simp only; rw [Array.getElem?_append_left hk]
    have hszw : (putRow (Value.int .i64) (Sort.ahead w n) g 0 (l.mergeSort fun x y => decide (x ≤ y)).toArray).heap.size = w.heap.size := by rw [size_putRow]; rfl
    refine ⟨rfl, Or.inr ⟨g, rfl, hb, ?_, fun i hi => ?_⟩, rfl, rfl, rfl, ?_, fun k hk => ?_⟩
    · rw [size_grow, hszw]; omega
    · have h1 := (hH2 i (by simpa using hi)).1
      rw [Nat.zero_add] at h1
      have h2 : (grow (putRow (Value.int .i64) (Sort.ahead w n) g 0 (l.mergeSort fun x y => decide (x ≤ y)).toArray) os).cell? ⟨g, i, none⟩ = (putRow (Value.int .i64) (Sort.ahead w n) g 0 (l.mergeSort fun x y => decide (x ≤ y)).toArray).cell? ⟨g, i, none⟩ := by
        unfold World.cell?
        rw [hblk _ g (by rw [hszw]; exact hg)]
      rw [h2, h1]
      simp [List.getD]
    · rw [size_grow, hszw]; omega
    · rw [hblk _ k (by rw [hszw]; omega)]
      unfold putRow mapBlock
      simp only
      rw [Array.getElem?_modify, if_neg (by omega)]; rfl

set_option maxRecDepth 20000 in
set_option maxHeartbeats 2000000 in
theorem tables_any {w : World} {q b p : Nat} {S : SS} (h : SpAt w q b p S) :
    Calls Try.prog 23 #[.pointer (some ⟨q, 0, none⟩)] w fun e w' => ∃ a cap, e = .returned (.slice a S.tabs.length cap) ∧ CL w' w.heap.size a S.stab ∧ Below w.heap.size w w' := by
  have hlt := h.lt
  have c3 := h.kernC
  have c4 := h.userC
  have c3d : w.drew.cell? ⟨q, 3, none⟩ = some (.int .i64 S.kern) := c3
  have c4d : w.drew.cell? ⟨q, 4, none⟩ = some (.int .i64 S.user) := c4
  have HS : ∀ wx, Below w.heap.size w wx → SpAt wx q b p S := fun wx bx => h.touch (S := Nil) (Touch.ofBelow bx) (fun h => h)
  have hi4 : (Try.prog.info? 92).map (·.size) = some (upL S.tt).length := by rw [upL_len]; kernel_rfl
  go_enter Try.func23, Try.ntmps23
  go_upto_region 2 with fail
  go_region
  go_upto_block 0 with fail
  have hb0 : Below w.heap.size w (w.alloc (.cells #[.int .i64 S.kern, .int .i64 S.user] 3)).drew := ((Below.refl _ w).alloc (Nat.le_refl _) _).drew
  have hk0 : (w.alloc (.cells #[.int .i64 S.kern, .int .i64 S.user] 3)).drew.heap[w.heap.size]? = some (.cells #[.int .i64 S.kern, .int .i64 S.user] 3 (0, 0)) := heap_alloc_new w _
  have hsz : (w.alloc (.cells #[.int .i64 S.kern, .int .i64 S.user] 3)).drew.heap.size = w.heap.size + 1 := by simp [World.drew]
  generalize (w.alloc (.cells #[.int .i64 S.kern, .int .i64 S.user] 3)).drew = W at *
  go_cut [3, 20] (fun v _ wx => ∃ a cap, v = .slice a (S.ta 0).length cap ∧ OL wx (w.heap.size + 1) a cap (S.ta 0) ∧ Below (w.heap.size + 1) W wx)
  case first =>
    go_wp2_with fail
    go_loopg [3, 20] 2 (fun g v i wr => ∃ (k : Nat) (a : Option Addr) (cap : Nat), g + k = 2 ∧ i = .int .i64 k ∧ v = .slice a (S.tr k).length cap ∧ OL wr (w.heap.size + 1) a cap (S.tr k) ∧ Below (w.heap.size + 1) W wr)
    case atStart => exact ⟨0, none, 0, by omega, rfl, rfl, World.ownsRow_nil _ _ _ _, Below.refl _ _⟩
    case round =>
      obtain ⟨k, a, cap, hg, rfl, rfl, hO, hB⟩ := hrel
      have hsz' := hB.size
      by_cases hk : k < 2
      · have k1 : (k : Int) < 2 := by omega
        have hkb : wr.heap[w.heap.size]? = some (.cells #[.int .i64 S.kern, .int .i64 S.user] 3 (0, 0)) := (hB.block w.heap.size (by omega)).trans hk0
        obtain ⟨x, hx1, hx2⟩ : ∃ x, wr.cell? ⟨w.heap.size, k, none⟩ = some (.int .i64 x) ∧ (S.pre 0).take (k + 1) = (S.pre 0).take k ++ [x] := by
          rcases (by omega : k = 0 ∨ k = 1) with rfl | rfl
          · exact ⟨S.kern, by simp [World.cell?, hkb], rfl⟩
          · exact ⟨S.user, by simp [World.cell?, hkb], rfl⟩
        have hl := tr_len S k
        have hA := add_any hO (by omega) (by omega) x
        have e : addP (S.tr k) x = S.tr (k + 1) := by unfold SS.tr; rw [hx2, List.foldl_append]; rfl
        rw [e] at hA
        clear hx2 e hl
        go_wp2_with (go_at_call 57; refine hA.mono ?_; rintro e w2 ⟨a2, c2, rfl, hO2, b2⟩)
        go_roundg (2 - (k + 1))
        case measure => omega
        case rel => exact ⟨k + 1, a2, c2, by omega, by go_num, rfl, hO2, hB.trans b2⟩
      · have k1 : ¬ ((k : Int) < 2) := by omega
        obtain rfl : k = 2 := by omega
        go_wp2_with fail
        go_meet
        rw [← tr_two]
        exact ⟨a, cap, rfl, hO, hB⟩
  case rest =>
    obtain ⟨a, cap, rfl, hO, hB⟩ := hcut
    have sp := HS _ (hb0.trans (hB.mono (by omega)))
    have c5 := sp.upR
    go_upto_block 2 with (refine wpList_load_mid rfl 92 _ rfl q 5 rfl (upL S.tt) _ c5 Try.underlying92 rfl hi4 ?_)
    go_wp2_with fail
    go_loopg [3, 6, 7, 9, 32] 4 (fun g v _ _ _ i wx => ∃ (k : Nat) (a : Option Addr) (cap : Nat), g + k = 4 ∧ i = .int .i64 k ∧ v = .slice a (S.ta k).length cap ∧ OL wx (w.heap.size + 1) a cap (S.ta k) ∧ Below (w.heap.size + 1) W wx)
    case atStart => exact ⟨0, a, cap, by omega, rfl, rfl, hO, hB⟩
    case round =>
      clear hO hB sp c5
      obtain ⟨k, a, cap, hg, rfl, rfl, hO, hB⟩ := hrel
      by_cases hk : k < 4
      · have k1 : (k : Int) < 4 := by omega
        have hix := up_index S hk
        have hsz' := hB.size
        have sp := HS _ (hb0.trans (hB.mono (by omega)))
        have c9 := sp.laRowR hk
        have hi8 : (Try.prog.info? 93).map (·.size) = some (laRow S k).length := by rw [laRow_len]; kernel_rfl
        have hl := ta_len S k
        have hA := add_any hO (by omega) (by omega) (S.up k)
        rw [tb_zero] at hA
        go_upto_region 11 with (go_at_call 57; refine hA.mono ?_; rintro e w2 ⟨a2, c2, rfl, hO2, b2⟩)
        have hB2 := hB.trans b2
        have sp2 := HS _ (hb0.trans (hB2.mono (by omega)))
        have c9 := sp2.laRowR hk
        clear hA hO b2 hB sp
        have k0 : (0 : Int) ≤ (k : Int) := by omega
        go_upto_block 5 with (refine wpList_load_mid rfl 93 _ rfl q (9 + k * 8) rfl (laRow S k) _ c9 Try.underlying93 rfl hi8 ?_)
        go_wp2_with fail
        go_loopg [3, 9, 45] 8 (fun g v _ i wr => ∃ (j : Nat) (a : Option Addr) (cap : Nat), g + j = 8 ∧ i = .int .i64 j ∧ v = .slice a (S.tb k j).length cap ∧ OL wr (w.heap.size + 1) a cap (S.tb k j) ∧ Below (w.heap.size + 1) W wr)
        case atStart => exact ⟨0, a2, c2, by omega, rfl, rfl, hO2, hB2⟩
        case round =>
          clear hO2 hB2 sp2 c9
          obtain ⟨j, a, cap, hgj, rfl, rfl, hO, hB⟩ := hrel
          have hsz' := hB.size
          by_cases hj : j < 8
          · have j1 : (j : Int) < 8 := by omega
            have hjx := la_index S k hj
            have hl := tb_len S k j
            have hA := add_any hO (by omega) (by omega) (S.la (k * 8 + j))
            rw [tb_succ] at hA
            clear hl
            go_wp2_with (go_at_call 57; refine hA.mono ?_; rintro e w2 ⟨a2, c2, rfl, hO2, b2⟩)
            go_roundg (8 - (j + 1))
            case measure => omega
            case rel => exact ⟨j + 1, a2, c2, by omega, by go_num, rfl, hO2, hB.trans b2⟩
          · have j1 : ¬ ((j : Int) < 8) := by omega
            obtain rfl : j = 8 := by omega
            go_wp2_with fail
            go_roundg (4 - (k + 1))
            case measure => omega
            case rel => exact ⟨k + 1, a, cap, by omega, by go_num, by rw [tb_eight], by rw [← tb_eight]; exact hO, hB⟩
      · have k1 : ¬ ((k : Int) < 4) := by omega
        obtain rfl : k = 4 := by omega
        have hl := ta_len S 4
        have hS := sort_l hO (by omega)
        go_wp2_with (go_at_call 58; refine hS.mono ?_; rintro e w2 ⟨rfl, hL2, b2⟩)
        go_ret
        have hBB := hb0.trans ((hB.trans b2).mono (by omega))
        refine ⟨a, cap, rfl, ?_, hBB⟩
        rcases hL2 with h0 | ⟨g, rfl, hg1, hg2, hc⟩
        · exact Or.inl h0
        · exact Or.inr ⟨g, rfl, by omega, hg2, hc⟩
end Go.Proofs.Ytoododpeoffieaa
/-
  A space of a memory of its own (law 9's One); the document's example.
-/
namespace Go.Proofs.Ytoododpeoffieaa
open Go.ChangeShapes Go.WideShapes Go.ChangeAt Go.RowKit

theorem many_of {n : Nat} (h : n ≤ 64) : MS.many (n : Int) = n := by unfold MS.many; omega
/-- A memory of n frames, booted. -/
def MS.up (n : Nat) (kpti : Bool) : MS := (MS.fresh n).boot kpti
theorem fresh_n (n : Nat) : (MS.fresh n).n = n := rfl

set_option maxRecDepth 20000 in
set_option maxHeartbeats 2000000 in
theorem one_any (n : Nat) (h24 : 24 ≤ n) (h64 : n ≤ 64) (P : Int) (hP : 1 ≤ P ∧ P ≤ 2) (kpti inv : Bool) (hl : (if kpti = true then 2 else 1) ≤ (MS.up n kpti).left) (w : World) :
    Calls Try.prog 31 #[cfV n P kpti inv] w fun e w' => ∃ q p b c, e = .returned (.tuple #[.pointer (some ⟨q, 0, none⟩), .pointer (some ⟨b, 0, none⟩), .bool true]) ∧ w.heap.size ≤ q ∧ w.heap.size ≤ p ∧ w.heap.size ≤ b ∧ w.heap.size ≤ c ∧ YAt w' q p b c (YS.new 0 kpti (fun _ => 0) (MS.up n kpti)) ∧ Touch Nil w w' := by
  unfold cfV
  go_enter Try.func31, Try.ntmps31
  go_upto_region 1 with fail
  have hg : (w.alloc (.cells #[.int .i64 n, .int .i64 P, .bool kpti, .bool inv] 24)).heap[w.heap.size]? = some (.cells #[.int .i64 n, .int .i64 P, .bool kpti, .bool inv] 24 (0, 0)) := heap_alloc_new w _
  have t0 := (Touch.refl Nil w).alloc (.cells #[.int .i64 n, .int .i64 P, .bool kpti, .bool inv] 24)
  have hs0 : w.heap.size < (w.alloc (.cells #[.int .i64 n, .int .i64 P, .bool kpti, .bool inv] 24)).heap.size := by simp
  generalize w.alloc (.cells #[.int .i64 n, .int .i64 P, .bool kpti, .bool inv] 24) = W at *
  have HG : ∀ (B : Nat) wx, w.heap.size < B → Touch (fun x => B ≤ x) W wx → wx.cell? ⟨w.heap.size, 0, none⟩ = some (.int .i64 n) ∧ wx.cell? ⟨w.heap.size, 1, none⟩ = some (.int .i64 P) ∧ wx.cell? ⟨w.heap.size, 2, none⟩ = some (.bool kpti) ∧ wx.cell? ⟨w.heap.size, 3, none⟩ = some (.bool inv) := fun B wx hB tx => by
    have := (tx.block w.heap.size hs0 (by omega)).trans hg
    simp [World.cell?, this]
  have hM := new_any (n : Int) W
  rw [many_of h64] at hM
  obtain ⟨a0, a1, a2, a3⟩ := HG (w.heap.size + 1) W (by omega) (Touch.refl _ W)
  go_wp2_with fail
  refine hM.mono ?_
  rintro e w1 ⟨rfl, m1, t1, hs1⟩
  clear hM a0 a1 a2 a3
  obtain ⟨c, hc⟩ : ∃ c, Hid (W.heap.size = c) := ⟨_, rfl⟩
  rw [hc.out] at m1 hs1 hs0
  rw [hc.out]
  have T1 : Touch (fun x => c ≤ x) W w1 := t1.mono (fun _ _ h => h.elim)
  have hB := boot_yes m1 P kpti inv (by rw [fresh_n]; exact h24) hP
  rw [fresh_n] at hB
  unfold cfV at hB
  obtain ⟨a0, a1, a2, a3⟩ := HG c w1 (by omega) T1
  go_upto_region 4 with fail
  go_upto_region 5 with (go_at_call 8; refine hB.mono ?_; rintro e w2 ⟨rfl, m2, t2⟩)
  clear a0 a1 a2 a3 hB
  have t2a := t2.alloc (.cells #[.int .i64 3, .int .i64 13] 33)
  have m2a := m2.touch ((Touch.refl Nil w2).alloc (.cells #[.int .i64 3, .int .i64 13] 33)) (fun h => h) (fun h => h)
  have hf : (w2.alloc (.cells #[.int .i64 3, .int .i64 13] 33)).heap[w2.heap.size]? = some (.cells #[.int .i64 3, .int .i64 13] 33 (0, 0)) := heap_alloc_new w2 _
  have hcF : c + 2 ≤ w2.heap.size := by have := t2.size; omega
  generalize w2.alloc (.cells #[.int .i64 3, .int .i64 13] 33) = W2 at *
  generalize w2.heap.size = Fx at *
  have T2 : Touch (fun x => c ≤ x) W W2 := T1.trans (t2a.mono (fun x _ e => by omega))
  go_upto_region 6 with (go_at_call 11; refine (pnew_any (c + 1)).mono ?_; rintro e w3 ⟨rfl, p3, t3, hs3⟩)
  have m3 := m2a.touch t3 (fun h => h) (fun h => h)
  have T3 : Touch (fun x => c ≤ x) W w3 := T2.trans (t3.mono (fun _ _ h => h.elim))
  have hf3 := (t3.block Fx (lt_of_block' hf) (fun h => h)).trans hf
  have hFl : Fx < W2.heap.size := lt_of_block' hf
  obtain ⟨p, hp⟩ : ∃ p, Hid (W2.heap.size = p) := ⟨_, rfl⟩
  rw [hp.out] at p3 hs3 hFl
  rw [hp.out]
  obtain ⟨a0, a1, a2, a3⟩ := HG c w3 (by omega) T3
  have f0 : w3.cell? ⟨Fx, 0, none⟩ = some (.int .i64 3) := by simp [World.cell?, hf3]
  have f1 : w3.cell? ⟨Fx, 1, none⟩ = some (.int .i64 13) := by simp [World.cell?, hf3]
  have hN := new_yes (s := (MS.fresh n).boot kpti) p3 m3 n P kpti inv 0 hl
  unfold cfV at hN
  go_upto_region 8 with fail
  go_wp2_with (go_at_call 12; refine hN.mono ?_; rintro e w4 ⟨q, rfl, hq, h4, t4⟩)
  refine bodyPost_ret (v := .tuple #[.pointer (some ⟨q, 0, none⟩), .pointer (some ⟨c + 1, 0, none⟩), .bool true]) (by simp [results, Try.results31, go_sem]) rfl ⟨q, p, c + 1, c, rfl, by omega, by omega, by omega, by omega, h4, ?_⟩
  have T4 : Touch (fun x => c ≤ x) W w4 := T3.trans (t4.mono (fun x _ e => by omega))
  exact t0.transNew T4 (fun i hi e => by omega)

theorem new_S (own : Int) (kpti : Bool) (R : Nat → Int) (s : MS) : (YS.new own kpti R s).S = ⟨own, s.least, if kpti = true then ((s.mark s.least 1 own).least : Int) else s.least, fun _ => 0, fun _ => 0⟩ := rfl
theorem new_need {own : Int} {kpti : Bool} {R : Nat → Int} {s : MS} (hk : s.least ≠ 0) {page : Int} (h0 : 0 ≤ page) (h1 : page < 256) : (YS.new own kpti R s).S.need [page] = 2 := by
  have hp : (YS.new own kpti R s).S.hasP page = true := (hasP_iff _ _).2 ⟨by rw [new_S]; show ((s.least : Nat) : Int) ≠ 0; omega, h0, h1⟩
  rw [need_is hp, new_S]; rfl

theorem up40_left : (MS.up 40 true).left = 25 := by decide +kernel
theorem up40_least : (MS.up 40 true).least = 15 := by decide +kernel

set_option maxRecDepth 20000 in
set_option maxHeartbeats 1000000 in
theorem wakes9 (w : World) : Calls Try.prog 9 #[] w fun e w' => e = .returned (.bool true) ∧ Touch Nil w w' := by
  have hO := one_any 40 (by omega) (by omega) 1 (by decide) true false (by rw [up40_left]; decide) w
  unfold cfV at hO
  go_enter Try.func9, Try.ntmps9
  go_upto_region 2 with (go_at_call 31; refine hO.mono ?_; rintro e w1 ⟨q, p, b, c, rfl, _, _, _, _, h1, t1⟩)
  have hN := need_one h1.sp 0
  rw [new_need (by rw [up40_least]; decide) (by decide) (by decide)] at hN
  go_wp2_with (go_at_call 16; refine hN.mono ?_; rintro e w2 ⟨rfl, t2⟩)
  go_ret
  exact ⟨rfl, t1.trans t2⟩
end Go.Proofs.Ytoododpeoffieaa
/-
  A process's tables: plain facts on what is set; New where frames are too few.
-/
namespace Go.Proofs.Ytoododpeoffieaa
open Go.ChangeShapes Go.WideShapes Go.ChangeAt Go.RowKit

theorem mark_left2 {s : MS} {f : Nat} {c : Int} (hc : c = 1 ∨ c = 2) (hL : Least s f) (o : Int) : (s.mark (f : Int) c o).left + 1 = s.left := by
  have hm : s.mayM (f : Int) c = true := by
    unfold MS.mayM
    rw [(s.hasF_iff _).2 ⟨by omega, by have := hL.hi; omega⟩]
    rcases hc with rfl | rfl <;> rfl
  unfold MS.left MS.mark
  rw [if_pos hm]
  have := cnt_set (v := c) hL.lo hL.free (by rcases hc with rfl | rfl <;> decide) (s.n - 15)
  rw [if_pos (by have := hL.lo; have := hL.hi; omega)] at this
  simpa using this
theorem rd_write {s : MS} {a : Int} (h : s.hasW a = true) (x : Int) : (s.write a x).rd a = x := by
  unfold MS.rd
  have : (s.write a x).hasW a = true := by unfold MS.hasW at h ⊢; rw [MS.write_n]; exact h
  rw [if_pos this]; unfold MS.write; rw [if_pos h]; simp
theorem rd_other {s : MS} {a b : Int} (hb : 0 ≤ b) (ha : 0 ≤ a) (h : a ≠ b) (x : Int) : (s.write b x).rd a = s.rd a := by
  unfold MS.rd
  have e : (s.write b x).hasW a = s.hasW a := by unfold MS.hasW; rw [MS.write_n]
  rw [e]; unfold MS.write
  split
  · split
    · dsimp only; rw [if_neg (by omega)]
    · rfl
  · rfl
theorem hasW_n {s s' : MS} (h : s'.n = s.n) (a : Int) : s'.hasW a = s.hasW a := by unfold MS.hasW; rw [h]
theorem up1_up {y : YS} {i : Nat} (hl : y.S.up i = 0 → 1 ≤ y.s.left) (hn : y.s.n ≤ 64) : (y.up1 i).S.up i ≠ 0 := by
  unfold YS.up1
  split
  · rename_i h0
    have := least_lt (hl h0) hn
    simp only [SS.setUp, if_true]
    omega
  · assumption
theorem la1_up (y : YS) (i j k : Nat) : (y.la1 i j).S.up k = y.S.up k := by unfold YS.la1; split <;> rfl
theorem la1_la {y : YS} {i j : Nat} (hl : y.S.la (i * 8 + j) = 0 → 1 ≤ y.s.left) (hn : y.s.n ≤ 64) : (y.la1 i j).S.la (i * 8 + j) ≠ 0 := by
  unfold YS.la1
  split
  · rename_i h0
    have := least_lt (hl h0) hn
    simp only [SS.setLa, if_true]
    omega
  · assumption
theorem up1_kern (y : YS) (i : Nat) : (y.up1 i).S.kern = y.S.kern := by unfold YS.up1; split <;> rfl
theorem la1_kern (y : YS) (i j : Nat) : (y.la1 i j).S.kern = y.S.kern := by unfold YS.la1; split <;> rfl
theorem la1_n (y : YS) (i j : Nat) : (y.la1 i j).s.n = y.s.n := by
  unfold YS.la1; split
  · rw [MS.write_n, MS.mark_n]
  · rfl
theorem up1_left {y : YS} {i : Nat} (hl : y.S.up i = 0 → 1 ≤ y.s.left) : (y.up1 i).s.left + (if y.S.up i = 0 then 1 else 0) = y.s.left := by
  unfold YS.up1
  split
  · rename_i h0
    rw [roots_left]; exact mark_left (least_left (hl h0)) _
  · rfl
theorem la1_left {y : YS} {i j : Nat} (hl : y.S.la (i * 8 + j) = 0 → 1 ≤ y.s.left) : (y.la1 i j).s.left + (if y.S.la (i * 8 + j) = 0 then 1 else 0) = y.s.left := by
  unfold YS.la1
  split
  · rename_i h0
    rw [write_left]; exact mark_left (least_left (hl h0)) _
  · rfl
/-- Behind a set: the tables are there; as many frames are left as were not taken. -/
theorem set_facts {y : YS} {page : Int} (hm : y.may page = true) (hn : y.s.n ≤ 64) (x : Int) :
    (y.set page x).S.up (page / 64).toNat ≠ 0 ∧ (y.set page x).S.la ((page / 64).toNat * 8 + (page / 8 % 8).toNat) ≠ 0 ∧ (y.set page x).S.kern = y.S.kern ∧ (y.set page x).s.n = y.s.n ∧ (y.set page x).s.left + y.S.need [page] = y.s.left := by
  have h1 := may_up hm
  have h2 := may_la hm
  have hp : y.S.hasP page = true := by simp only [YS.may, Bool.and_eq_true] at hm; exact hm.1
  unfold YS.set
  dsimp only
  have l1 := up1_left h1
  have l2 := la1_left h2
  rw [up1_la] at l2
  refine ⟨by rw [la1_up]; exact up1_up h1 hn, la1_la h2 (by rw [up1_n]; exact hn), by rw [la1_kern, up1_kern], by rw [MS.write_n, la1_n, up1_n], ?_⟩
  rw [write_left, need_is hp]
  omega
theorem set_ok {y : YS} {page : Int} (ok : y.S.ok) (hm : y.may page = true) (hn : y.s.n ≤ 64) (x : Int) : (y.set page x).S.ok :=
  la1_ok (up1_ok ok (may_up hm) hn) (may_la hm) (by rw [up1_n]; exact hn)
theorem need_zero {S : SS} {page : Int} (h1 : S.up (page / 64).toNat ≠ 0) (h2 : S.la ((page / 64).toNat * 8 + (page / 8 % 8).toNat) ≠ 0) : S.need [page] = 0 := by
  cases hp : S.hasP page
  · unfold SS.need; simp [needS, hp]
  · rw [need_is hp, if_neg h1, if_neg h2]
/-- A set where the tables are there. -/
theorem set_there {y : YS} {page : Int} (h1 : y.S.up (page / 64).toNat ≠ 0) (h2 : y.S.la ((page / 64).toNat * 8 + (page / 8 % 8).toNat) ≠ 0) (x : Int) : y.set page x = ⟨y.S, y.R, y.s.write (y.S.pl page) x⟩ := by
  unfold YS.set
  have e1 : y.up1 (page / 64).toNat = y := by unfold YS.up1; rw [if_neg h1]
  have e2 : y.la1 (page / 64).toNat (page / 8 % 8).toNat = y := by unfold YS.la1; rw [if_neg h2]
  rw [e1, e2]
theorem set_s (y : YS) (page x : Int) : (y.set page x).s = ((y.up1 (page / 64).toNat).la1 (page / 64).toNat (page / 8 % 8).toNat).s.write ((y.set page x).S.pl page) x := rfl
/-- The last table of a page that was set just now is one of the memory's, if it was not there. -/
theorem set_new {y : YS} {page : Int} (hm : y.may page = true) (h0 : y.S.la ((page / 64).toNat * 8 + (page / 8 % 8).toNat) = 0) (x : Int) :
    15 ≤ (y.set page x).S.la ((page / 64).toNat * 8 + (page / 8 % 8).toNat) ∧ (y.set page x).S.la ((page / 64).toNat * 8 + (page / 8 % 8).toNat) < y.s.n := by
  have h2 := may_la hm
  have e0 : (y.up1 (page / 64).toNat).S.la ((page / 64).toNat * 8 + (page / 8 % 8).toNat) = 0 := by rw [up1_la]; exact h0
  have hL := least_left (h2 e0)
  unfold YS.set
  dsimp only
  unfold YS.la1
  rw [if_pos e0]
  simp only [SS.setLa, if_true]
  have a := hL.lo; have b := hL.hi
  rw [up1_n] at b
  omega
theorem xor_one (pg : Int) (h0 : 0 ≤ pg) (h1 : pg < 256) : ∃ p' : Int, bits .xor .i64 pg 1 = p' ∧ 0 ≤ p' ∧ p' < 256 ∧ p' / 64 = pg / 64 ∧ p' / 8 % 8 = pg / 8 % 8 ∧ p' % 8 ≠ pg % 8 := by
  obtain ⟨n, rfl⟩ := Int.eq_ofNat_of_zero_le h0
  have hn : n < 256 := by omega
  have hall : ∀ n < 256, bits .xor .i64 ((n : Nat) : Int) 1 = (if (n : Int) % 2 = 0 then (n : Int) + 1 else (n : Int) - 1) := by decide +kernel
  refine ⟨_, hall n hn, ?_⟩
  split <;> omega

set_option maxHeartbeats 1000000 in
theorem new_no {w : World} {p b c : Nat} {R : Nat → Int} {s : MS} (po : PoolAt w p b R) (me : MemAt w b c s) (F P : Int) (kpti inv : Bool) (own : Int) (fx : Array Value) (h2 : fx = #[.int .i64 3, .int .i64 13]) (hl : s.left < (if kpti = true then 2 else 1)) :
    Calls Try.prog 12 #[cfV F P kpti inv, .agg fx, .pointer (some ⟨b, 0, none⟩), .pointer (some ⟨p, 0, none⟩), .int .i64 own] w fun e w' => e = .returned (.tuple #[.pointer none, .bool false]) ∧ Touch Nil w w' := by
  subst h2
  unfold cfV
  have t0 := ((Touch.refl Nil w).alloc (.cells #[.int .i64 F, .int .i64 P, .bool kpti, .bool inv] 24)).alloc (.cells #[.int .i64 3, .int .i64 13] 33)
  have po0 := po.touch t0 (fun h => h)
  have me0 := me.touch t0 (fun h => h) (fun h => h)
  cases kpti with
  | true =>
    simp only [if_true] at hl
    have l1 : (s.left : Int) < 2 := by omega
    go_enter Try.func12, Try.ntmps12
    go_wp2_with (go_at_call 38; refine (pleft_any po0 me0).mono ?_; rintro e wq ⟨rfl, rfl⟩)
    go_ret2
    exact ⟨rfl, t0⟩
  | false =>
    simp only [if_false, Bool.false_eq_true] at hl
    have l1 : (s.left : Int) < 1 := by omega
    go_enter Try.func12, Try.ntmps12
    go_wp2_with (go_at_call 38; refine (pleft_any po0 me0).mono ?_; rintro e wq ⟨rfl, rfl⟩)
    go_ret2
    exact ⟨rfl, t0⟩
end Go.Proofs.Ytoododpeoffieaa
/-
  A process's tables: what stays true whatever is set (plain).
-/
namespace Go.Proofs.Ytoododpeoffieaa
open Go.ChangeShapes Go.WideShapes Go.ChangeAt Go.RowKit

/-- A frame that is a table of somebody's. -/
def MS.had (s : MS) (f : Int) : Prop := 15 ≤ f ∧ f < s.n ∧ s.C f.toNat ≠ 0
/-- What stays true of a space and its memory. -/
structure YInv (y : YS) : Prop where
  n64 : y.s.n ≤ 64
  kern : y.s.had y.S.kern
  user : y.s.had y.S.user
  up : ∀ i, y.S.up i = 0 ∨ y.s.had (y.S.up i)
  la : ∀ k, y.S.la k = 0 ∨ y.s.had (y.S.la k)
  upNe : ∀ i i', y.S.up i ≠ 0 → y.S.up i = y.S.up i' → i = i'
  laNe : ∀ k k', y.S.la k ≠ 0 → y.S.la k = y.S.la k' → k = k'
  upla : ∀ i k, y.S.up i ≠ 0 → y.S.up i ≠ y.S.la k
  upR : ∀ i, y.S.up i ≠ y.S.kern ∧ y.S.up i ≠ y.S.user
  laR : ∀ k, y.S.la k ≠ y.S.kern ∧ y.S.la k ≠ y.S.user
  laUp : ∀ k, y.S.la k ≠ 0 → y.S.up (k / 8) ≠ 0
  free0 : ∀ f : Nat, 15 ≤ f → f < y.s.n → y.s.C f = 0 → ∀ o : Nat, o < 8 → y.s.W (f * 8 + o) = 0

theorem YInv.ok {y : YS} (h : YInv y) : y.S.ok := by
  have hn := h.n64
  refine ⟨?_, ?_, fun i => ?_, fun k => ?_⟩
  · obtain ⟨a, b, _⟩ := h.kern; omega
  · obtain ⟨a, b, _⟩ := h.user; omega
  · rcases h.up i with e | ⟨a, b, _⟩ <;> omega
  · rcases h.la k with e | ⟨a, b, _⟩ <;> omega

theorem write_C (s : MS) (a x : Int) : (s.write a x).C = s.C := by unfold MS.write; split <;> rfl
theorem had_write {s : MS} {f : Int} (h : s.had f) (a x : Int) : (s.write a x).had f := by
  unfold MS.had at *; rw [MS.write_n, write_C]; exact h
theorem write_free {s : MS} {g o : Int} {x : Int} (hg : s.had g) (ho : 0 ≤ o ∧ o < 8) (h0 : ∀ f : Nat, 15 ≤ f → f < s.n → s.C f = 0 → ∀ o : Nat, o < 8 → s.W (f * 8 + o) = 0) :
    ∀ f : Nat, 15 ≤ f → f < (s.write (g * 8 + o) x).n → (s.write (g * 8 + o) x).C f = 0 → ∀ m : Nat, m < 8 → (s.write (g * 8 + o) x).W (f * 8 + m) = 0 := by
  intro f h15 hn hc m hm
  rw [MS.write_n] at hn
  rw [write_C] at hc
  have hw := h0 f h15 hn hc m hm
  unfold MS.write
  split
  · dsimp only
    split
    · rename_i e
      exfalso
      obtain ⟨a, b, c⟩ := hg
      have : f = g.toNat := by omega
      subst this; exact c hc
    · exact hw
  · exact hw
theorem rd_frame {s : MS} {g o f m : Int} (hne : g ≠ f) (hg : 0 ≤ g) (hf : 0 ≤ f) (ho : 0 ≤ o ∧ o < 8) (hm : 0 ≤ m ∧ m < 8) (x : Int) : (s.write (g * 8 + o) x).rd (f * 8 + m) = s.rd (f * 8 + m) :=
  rd_other (by omega) (by omega) (by omega) x
theorem mark_rd (s : MS) (f c o a : Int) : (s.mark f c o).rd a = s.rd a := by
  unfold MS.rd
  have : (s.mark f c o).hasW a = s.hasW a := hasW_n (MS.mark_n s f c o) a
  rw [this]
  have e : (s.mark f c o).W = s.W := by unfold MS.mark; split <;> rfl
  rw [e]
theorem mark_had {s : MS} {g : Int} (h : s.had g) {f c : Int} (o : Int) (hc : c ≠ 0) : (s.mark f c o).had g := by
  unfold MS.had at *
  rw [MS.mark_n]
  refine ⟨h.1, h.2.1, ?_⟩
  unfold MS.mark
  split
  · dsimp only; split
    · exact hc
    · exact h.2.2
  · exact h.2.2
theorem mark_new {s : MS} {f : Nat} (hL : Least s f) (o : Int) : (s.mark (f : Int) 1 o).had (f : Int) := by
  have hm : s.mayM (f : Int) 1 = true := by
    unfold MS.mayM
    rw [(s.hasF_iff _).2 ⟨by omega, by have := hL.hi; omega⟩]; rfl
  refine ⟨by have := hL.lo; omega, by rw [MS.mark_n]; have := hL.hi; omega, ?_⟩
  unfold MS.mark; rw [if_pos hm]; simp
theorem mark_free {s : MS} {f c o : Int} (hc : c ≠ 0) (h0 : ∀ f : Nat, 15 ≤ f → f < s.n → s.C f = 0 → ∀ o : Nat, o < 8 → s.W (f * 8 + o) = 0) :
    ∀ g : Nat, 15 ≤ g → g < (s.mark f c o).n → (s.mark f c o).C g = 0 → ∀ m : Nat, m < 8 → (s.mark f c o).W (g * 8 + m) = 0 := by
  intro g h15 hn hC m hm
  rw [MS.mark_n] at hn
  unfold MS.mark at hC ⊢
  split at hC
  · rename_i hmay
    rw [if_pos hmay]
    dsimp only at hC ⊢
    split at hC
    · exact absurd hC hc
    · exact h0 g h15 hn hC m hm
  · rename_i hmay
    rw [if_neg hmay]; exact h0 g h15 hn hC m hm
/-- The least free frame is none that is had. -/
theorem least_ne {s : MS} {f : Nat} (hL : Least s f) {g : Int} (h : g = 0 ∨ s.had g) : (f : Int) ≠ g := by
  intro e
  subst e
  rcases h with h | ⟨_, _, h⟩
  · have := hL.lo; omega
  · exact h hL.free

theorem YInv.up1 {y : YS} (h : YInv y) (i : Nat) (hi : i < 8) (hl : y.S.up i = 0 → 1 ≤ y.s.left) : YInv (y.up1 i) := by
  unfold YS.up1
  split
  · rename_i h0
    have hL := least_left (hl h0)
    have hn := mark_new hL y.S.own
    generalize y.s.least = f at *
    have neK := least_ne hL (Or.inr h.kern)
    have neU := least_ne hL (Or.inr h.user)
    have hadM : ∀ g, y.s.had g → ((y.s.mark (f : Int) 1 y.S.own).roots y.S i f).had g := fun g hg => had_write (had_write (mark_had (c := 1) hg y.S.own (by decide)) _ _) _ _
    have hadF : ((y.s.mark (f : Int) 1 y.S.own).roots y.S i f).had (f : Int) := had_write (had_write hn _ _) _ _
    refine ⟨by rw [roots_n, MS.mark_n]; exact h.n64, hadM _ h.kern, hadM _ h.user, fun k => ?_, fun k => ?_, fun k k' hk e => ?_, h.laNe, fun k k' hk => ?_, fun k => ?_, h.laR, fun k hk => ?_, ?_⟩
    · simp only [SS.setUp]
      by_cases e : k = i
      · rw [if_pos e]; exact Or.inr hadF
      · rw [if_neg e]
        rcases h.up k with h' | h'
        · exact Or.inl h'
        · exact Or.inr (hadM _ h')
    · rcases h.la k with h' | h'
      · exact Or.inl h'
      · exact Or.inr (hadM _ h')
    · simp only [SS.setUp] at hk e
      by_cases e1 : k = i <;> by_cases e2 : k' = i
      · omega
      · rw [if_pos e1, if_neg e2] at e
        exact absurd e (least_ne hL (h.up k'))
      · rw [if_neg e1, if_pos e2] at e
        exact absurd e.symm (least_ne hL (h.up k))
      · rw [if_neg e1] at hk; rw [if_neg e1, if_neg e2] at e
        exact h.upNe k k' hk e
    · simp only [SS.setUp] at hk ⊢
      by_cases e1 : k = i
      · rw [if_pos e1]; exact least_ne hL (h.la k')
      · rw [if_neg e1] at hk ⊢; exact h.upla k k' hk
    · simp only [SS.setUp]
      by_cases e1 : k = i
      · rw [if_pos e1]; exact ⟨neK, neU⟩
      · rw [if_neg e1]; exact h.upR k
    · simp only [SS.setUp]
      by_cases e1 : k / 8 = i
      · rw [if_pos e1]; have := hL.lo; omega
      · rw [if_neg e1]; exact h.laUp k hk
    · exact write_free (o := (i : Int)) (had_write (mark_had (f := (f : Int)) (c := 1) h.user y.S.own (by decide)) _ _) ⟨by omega, by omega⟩ (write_free (o := (i : Int)) (mark_had (f := (f : Int)) (c := 1) h.kern y.S.own (by decide)) ⟨by omega, by omega⟩ (mark_free (c := 1) (by decide) h.free0))
  · exact h

theorem YInv.la1 {y : YS} (h : YInv y) (i j : Nat) (hj : j < 8) (hu : y.S.up i ≠ 0) (hl : y.S.la (i * 8 + j) = 0 → 1 ≤ y.s.left) : YInv (y.la1 i j) := by
  unfold YS.la1
  split
  · rename_i h0
    have hL := least_left (hl h0)
    have hn := mark_new hL y.S.own
    generalize y.s.least = f at *
    have neK := least_ne hL (Or.inr h.kern)
    have neU := least_ne hL (Or.inr h.user)
    have hUp := (h.up i).resolve_left hu
    have hadM : ∀ g, y.s.had g → ((y.s.mark (f : Int) 1 y.S.own).write (y.S.up i * 8 + j) (opn f)).had g := fun g hg => had_write (mark_had (c := 1) hg y.S.own (by decide)) _ _
    have hadF : ((y.s.mark (f : Int) 1 y.S.own).write (y.S.up i * 8 + j) (opn f)).had (f : Int) := had_write hn _ _
    refine ⟨by rw [MS.write_n, MS.mark_n]; exact h.n64, hadM _ h.kern, hadM _ h.user, fun k => ?_, fun k => ?_, h.upNe, fun k k' hk e => ?_, fun k k' hk => ?_, h.upR, fun k => ?_, fun k hk => ?_, ?_⟩
    · rcases h.up k with h' | h'
      · exact Or.inl h'
      · exact Or.inr (hadM _ h')
    · simp only [SS.setLa]
      by_cases e : k = i * 8 + j
      · rw [if_pos e]; exact Or.inr hadF
      · rw [if_neg e]
        rcases h.la k with h' | h'
        · exact Or.inl h'
        · exact Or.inr (hadM _ h')
    · simp only [SS.setLa] at hk e
      by_cases e1 : k = i * 8 + j <;> by_cases e2 : k' = i * 8 + j
      · omega
      · rw [if_pos e1, if_neg e2] at e
        exact absurd e (least_ne hL (h.la k'))
      · rw [if_neg e1, if_pos e2] at e
        exact absurd e.symm (least_ne hL (h.la k))
      · rw [if_neg e1] at hk; rw [if_neg e1, if_neg e2] at e
        exact h.laNe k k' hk e
    · simp only [SS.setLa]
      by_cases e1 : k' = i * 8 + j
      · rw [if_pos e1]; exact fun e => least_ne hL (h.up k) e.symm
      · rw [if_neg e1]; exact h.upla k k' hk
    · simp only [SS.setLa]
      by_cases e1 : k = i * 8 + j
      · rw [if_pos e1]; exact ⟨neK, neU⟩
      · rw [if_neg e1]; exact h.laR k
    · simp only [SS.setLa] at hk
      by_cases e1 : k = i * 8 + j
      · rw [show k / 8 = i by omega]; exact hu
      · rw [if_neg e1] at hk; exact h.laUp k hk
    · exact write_free (o := (j : Int)) (mark_had (f := (f : Int)) (c := 1) hUp y.S.own (by decide)) ⟨by omega, by omega⟩ (mark_free (c := 1) (by decide) h.free0)
  · exact h

theorem YInv.put {y : YS} (h : YInv y) {f m : Int} (hf : y.s.had f) (hm : 0 ≤ m ∧ m < 8) (x : Int) : YInv ⟨y.S, y.R, y.s.write (f * 8 + m) x⟩ :=
  ⟨by show (y.s.write _ _).n ≤ 64; rw [MS.write_n]; exact h.n64, had_write h.kern _ _, had_write h.user _ _, fun i => (h.up i).imp id (fun h => had_write h _ _), fun k => (h.la k).imp id (fun h => had_write h _ _), h.upNe, h.laNe, h.upla, h.upR, h.laR, h.laUp, write_free hf hm h.free0⟩
/-- A page's place among the last tables. -/
def pk (page : Int) : Nat := (page / 64).toNat * 8 + (page / 8 % 8).toNat
theorem pk_div (page : Int) : pk page / 8 = (page / 64).toNat := by unfold pk; omega
theorem pl_pk (S : SS) (page : Int) : S.pl page = S.la (pk page) * 8 + page % 8 := rfl
theorem YInv.need0 {y : YS} (h : YInv y) (page : Int) : (y.S.la (pk page) ≠ 0 → y.S.need [page] = 0) ∧ (y.S.hasP page = true → y.S.la (pk page) = 0 → y.S.need [page] ≠ 0) := by
  constructor
  · intro hl
    have := h.laUp _ hl
    rw [pk_div] at this
    exact need_zero this hl
  · intro hp hl
    have hl' : y.S.la ((page / 64).toNat * 8 + (page / 8 % 8).toNat) = 0 := hl
    rw [need_is hp, if_pos hl']; omega
theorem up1_rd {y : YS} (h : YInv y) (i : Nat) (hi : i < 8) {g m : Int} (hg : 0 ≤ g) (hm : 0 ≤ m ∧ m < 8) (hk : g ≠ y.S.kern) (hu : g ≠ y.S.user) : (y.up1 i).s.rd (g * 8 + m) = y.s.rd (g * 8 + m) := by
  unfold YS.up1
  split
  · have k0 := h.kern.1
    have u0 := h.user.1
    show (MS.roots _ _ _ _).rd _ = _
    unfold MS.roots
    rw [rd_frame (Ne.symm hu) (by omega) hg ⟨by omega, by omega⟩ hm, rd_frame (Ne.symm hk) (by omega) hg ⟨by omega, by omega⟩ hm, mark_rd]
  · rfl
theorem la1_rd {y : YS} (h : YInv y) (i j : Nat) (hj : j < 8) {g m : Int} (hg : 0 ≤ g) (hm : 0 ≤ m ∧ m < 8) (hu : g ≠ y.S.up i) : (y.la1 i j).s.rd (g * 8 + m) = y.s.rd (g * 8 + m) := by
  unfold YS.la1
  split
  · have u0 : 0 ≤ y.S.up i := by rcases h.up i with e | e; omega; have := e.1; omega
    show ((MS.mark _ _ _ _).write _ _).rd _ = _
    rw [rd_frame (Ne.symm hu) u0 hg ⟨by omega, by omega⟩ hm, mark_rd]
  · rfl
/-- Behind a set all stays true; the page has its entry; others are as they were. -/
theorem YInv.set {y : YS} (h : YInv y) {page : Int} (hm : y.may page = true) (x : Int) :
    YInv (y.set page x) ∧ getP (y.set page x).S (y.set page x).s page = x ∧ (∀ P, P ≠ page → 0 ≤ P → P < 256 → getP (y.set page x).S (y.set page x).s P = getP y.S y.s P) ∧
      (∀ k, (y.set page x).S.la k ≠ 0 ↔ y.S.la k ≠ 0 ∨ k = pk page) ∧ (∀ i, (y.set page x).S.up i ≠ 0 ↔ y.S.up i ≠ 0 ∨ i = (page / 64).toNat) := by
  have hp : y.S.hasP page = true := by simp only [YS.may, Bool.and_eq_true] at hm; exact hm.1
  obtain ⟨hk0, p0, p1⟩ := (hasP_iff _ _).1 hp
  have hu := may_up hm
  have hl := may_la hm
  have i8 : (page / 64).toNat < 8 := by omega
  have j8 : (page / 8 % 8).toNat < 8 := by omega
  have h1 := h.up1 _ i8 hu
  have hup1 := up1_up hu h.n64
  have h2 := h1.la1 _ _ j8 hup1 hl
  have hla2 := la1_la hl (by rw [up1_n]; exact h.n64)
  have m0 : 0 ≤ page % 8 ∧ page % 8 < 8 := by omega
  have hset : y.set page x = ⟨((y.up1 (page / 64).toNat).la1 (page / 64).toNat (page / 8 % 8).toNat).S, ((y.up1 (page / 64).toNat).la1 (page / 64).toNat (page / 8 % 8).toNat).R, ((y.up1 (page / 64).toNat).la1 (page / 64).toNat (page / 8 % 8).toNat).s.write (((y.up1 (page / 64).toNat).la1 (page / 64).toNat (page / 8 % 8).toNat).S.la (pk page) * 8 + page % 8) x⟩ := rfl
  have laK : ∀ k, ((y.up1 (page / 64).toNat).la1 (page / 64).toNat (page / 8 % 8).toNat).S.la k = if k = pk page ∧ y.S.la k = 0 then (((y.up1 (page / 64).toNat).s.least : Nat) : Int) else y.S.la k := fun k => by
    unfold YS.la1
    split
    · rename_i e0
      show (SS.setLa _ _ _).la k = _
      simp only [SS.setLa]
      by_cases e : k = pk page
      · have e' : k = (page / 64).toNat * 8 + (page / 8 % 8).toNat := e
        rw [if_pos e']
        rw [up1_la] at e0
        rw [if_pos ⟨e, by rw [e]; exact e0⟩]
      · have e' : ¬ k = (page / 64).toNat * 8 + (page / 8 % 8).toNat := e
        rw [if_neg e', if_neg (fun h => e h.1), up1_la]
    · rename_i e0
      rw [up1_la] at e0 ⊢
      rw [if_neg]
      rintro ⟨e1, e2⟩
      exact e0 (by rw [← e2, e1]; rfl)
  have kern2 : ((y.up1 (page / 64).toNat).la1 (page / 64).toNat (page / 8 % 8).toNat).S.kern = y.S.kern := by rw [la1_kern, up1_kern]
  have hadP := (h2.la (pk page)).resolve_left hla2
  have user1 : (y.up1 (page / 64).toNat).S.user = y.S.user := by unfold YS.up1; split <;> rfl
  have hI : YInv (y.set page x) := by rw [hset]; exact h2.put hadP m0 x
  have hasZ : ∀ P : Int, 0 ≤ P → P < 256 → (y.set page x).S.hasP P = true := fun P q0 q1 => (hasP_iff _ _).2 ⟨by rw [hset]; show ((y.up1 _).la1 _ _).S.kern ≠ 0; rw [kern2]; exact hk0, q0, q1⟩
  have hasY : ∀ P : Int, 0 ≤ P → P < 256 → y.S.hasP P = true := fun P q0 q1 => (hasP_iff _ _).2 ⟨hk0, q0, q1⟩
  have e1 := h1
  generalize hz1 : y.up1 (page / 64).toNat = z1 at *
  generalize hz : z1.la1 (page / 64).toNat (page / 8 % 8).toNat = z at *
  have setS : (y.set page x).S = z.S := by rw [hset]
  have sets : (y.set page x).s = z.s.write (z.S.la (pk page) * 8 + page % 8) x := by rw [hset]
  refine ⟨hI, ?_, fun P hP q0 q1 => ?_, fun k => ?_, fun i => ?_⟩
  · have hn := (hI.need0 page).1 (by rw [setS]; exact hla2)
    unfold getP
    rw [if_pos ⟨hasZ page p0 p1, hn⟩, sets, setS, pl_pk]
    obtain ⟨a, b, _⟩ := hadP
    exact rd_write ((z.s.hasW_iff _).2 ⟨by omega, by omega⟩) x
  · have mP : 0 ≤ P % 8 ∧ P % 8 < 8 := by omega
    have hpkm : pk P = pk page → P % 8 ≠ page % 8 := fun e => by unfold pk at e; omega
    obtain ⟨fa, fb, fc⟩ := hadP
    by_cases hla : y.S.la (pk P) = 0
    · have g0 : getP y.S y.s P = 0 := by unfold getP; rw [if_neg (fun hh => (h.need0 P).2 (hasY P q0 q1) hla hh.2)]
      rw [g0]
      by_cases e : pk P = pk page
      · have hz0 : z1.S.la (pk page) = 0 := by rw [← hz1, up1_la, ← e]; exact hla
        have hLe := least_left (hl hz0)
        have hzl : z.S.la (pk page) = (z1.s.least : Int) := by rw [laK, if_pos ⟨rfl, by rw [← e]; exact hla⟩]
        have hn := (hI.need0 P).1 (by rw [setS, e]; exact hla2)
        unfold getP
        rw [if_pos ⟨hasZ P q0 q1, hn⟩, sets, setS, pl_pk, e]
        rw [rd_other (by omega) (by omega) (by have := hpkm e; omega), hzl, ← hz]
        rw [la1_rd h1 _ _ j8 (by omega) mP (least_ne hLe (h1.up _))]
        unfold MS.rd
        split
        · have := h1.free0 _ hLe.lo hLe.hi hLe.free (P % 8).toNat (by omega)
          rw [show ((z1.s.least : Int) * 8 + P % 8).toNat = z1.s.least * 8 + (P % 8).toNat by omega]; exact this
        · rfl
      · have hzP : z.S.la (pk P) = 0 := by rw [laK, if_neg (fun hh => e hh.1)]; exact hla
        unfold getP
        rw [if_neg (fun hh => (hI.need0 P).2 (hasZ P q0 q1) (by rw [setS]; exact hzP) hh.2)]
    · have hzP : z.S.la (pk P) = y.S.la (pk P) := by rw [laK, if_neg (fun hh => hla hh.2)]
      have hg := (h.la (pk P)).resolve_left hla
      have hn := (hI.need0 P).1 (by rw [setS, hzP]; exact hla)
      unfold getP
      rw [if_pos ⟨hasZ P q0 q1, hn⟩, if_pos ⟨hasY P q0 q1, (h.need0 P).1 hla⟩, sets, setS, pl_pk, pl_pk, hzP]
      obtain ⟨ga, gb, gc⟩ := hg
      have hne : y.S.la (pk P) * 8 + P % 8 ≠ z.S.la (pk page) * 8 + page % 8 := by
        by_cases e : pk P = pk page
        · have := hpkm e
          rw [← hzP, e]; omega
        · have : z.S.la (pk P) ≠ z.S.la (pk page) := fun hh => e (h2.laNe _ _ (by rw [hzP]; exact hla) hh)
          rw [hzP] at this
          omega
      rw [rd_other (by omega) (by omega) hne, ← hz]
      have l1 : z1.S.la (pk P) = y.S.la (pk P) := by rw [← hz1, up1_la]
      rw [la1_rd h1 _ _ j8 (by omega) mP (fun hh => h1.upla _ (pk P) hup1 (by rw [l1]; exact hh.symm)), ← hz1]
      exact up1_rd h _ i8 (by omega) mP (h.laR _).1 (h.laR _).2
  · rw [setS, laK]
    by_cases e : k = pk page
    · constructor
      · intro _; exact Or.inr e
      · intro _
        rw [← laK, e]; exact hla2
    · rw [if_neg (fun hh => e hh.1)]
      constructor
      · exact Or.inl
      · rintro (hh | hh)
        · exact hh
        · exact absurd hh e
  · have hzu : z.S.up i = z1.S.up i := by rw [← hz, la1_up]
    rw [setS, hzu]
    by_cases e : i = (page / 64).toNat
    · constructor
      · intro _; exact Or.inr e
      · intro _; rw [e]; exact hup1
    · have : z1.S.up i = y.S.up i := by
        rw [← hz1]; unfold YS.up1
        split
        · show (SS.setUp _ _ _).up i = _
          simp only [SS.setUp]; rw [if_neg e]
        · rfl
      rw [this]
      constructor
      · exact Or.inl
      · rintro (hh | hh)
        · exact hh
        · exact absurd hh e
end Go.Proofs.Ytoododpeoffieaa
/-
  A process's tables: how many there are (plain).
-/
namespace Go.Proofs.Ytoododpeoffieaa
open Go.ChangeShapes Go.WideShapes Go.ChangeAt Go.RowKit

theorem addP_new {l : List Int} {x : Int} (h0 : x ≠ 0) (hx : x ∉ l) : addP l x = l ++ [x] := by unfold addP; rw [if_neg (by simp [h0, hx])]
theorem addP_zero (l : List Int) : addP l 0 = l := by unfold addP; rw [if_pos (Or.inl rfl)]
/-- A list with one more, f. -/
def More (f : Int) (a a' : List Int) : Prop := (∀ x, x ≠ f → (x ∈ a ↔ x ∈ a')) ∧ a'.length = a.length + 1
theorem More.add {f : Int} {a a' : List Int} (h : More f a a') {x : Int} (hx : x ≠ f) : More f (addP a x) (addP a' x) := by
  unfold addP
  by_cases h0 : x = 0 ∨ x ∈ a
  · have h0' : x = 0 ∨ x ∈ a' := h0.imp id (h.1 x hx).1
    rw [if_pos h0, if_pos h0']; exact h
  · have h0' : ¬ (x = 0 ∨ x ∈ a') := fun hh => h0 (hh.imp id (h.1 x hx).2)
    rw [if_neg h0, if_neg h0']
    refine ⟨fun z hz => ?_, by simp [h.2]⟩
    rw [List.mem_append, List.mem_append, h.1 z hz]
theorem More.fold {f : Int} : ∀ (l : List Int) {a a' : List Int}, More f a a' → (∀ x ∈ l, x ≠ f) → More f (l.foldl addP a) (l.foldl addP a')
  | [], _, _, h, _ => h
  | x :: l, _, _, h, hl => More.fold l (h.add (hl x (List.mem_cons_self ..))) (fun y hy => hl y (List.mem_cons_of_mem _ hy))
theorem fold_mem : ∀ (l acc : List Int) {x : Int}, x ∈ l.foldl addP acc → x ∈ acc ∨ x ∈ l
  | [], _, _, h => Or.inl h
  | y :: l, acc, x, h => by
    rcases fold_mem l (addP acc y) h with h | h
    · unfold addP at h
      split at h
      · exact Or.inl h
      · rcases List.mem_append.1 h with h | h
        · exact Or.inl h
        · rw [List.mem_singleton] at h; subst h; exact Or.inr (List.mem_cons_self ..)
    · exact Or.inr (List.mem_cons_of_mem _ h)
/-- A place that had none has a new one: one more. -/
theorem fold_set {l : List Int} {n : Nat} {f : Int} (hn : n < l.length) (h0 : l[n]? = some 0) (hf : f ≠ 0) (hno : ∀ x ∈ l, x ≠ f) : ((l.set n f).foldl addP []).length = (l.foldl addP []).length + 1 := by
  obtain ⟨_, h0'⟩ := List.getElem?_eq_some_iff.1 h0
  have e1 : l = l.take n ++ 0 :: l.drop (n + 1) := by
    rw [← h0', ← List.drop_eq_getElem_cons hn, List.take_append_drop]
  have e2 : l.set n f = l.take n ++ f :: l.drop (n + 1) := by rw [List.set_eq_take_append_cons_drop, if_pos hn]
  have hA : f ∉ (l.take n).foldl addP [] := fun h => by
    rcases fold_mem _ _ h with h | h
    · cases h
    · exact hno f (List.mem_of_mem_take h) rfl
  have s1 : l.foldl addP [] = (l.drop (n + 1)).foldl addP ((l.take n).foldl addP []) := by
    conv => lhs; rw [e1]
    rw [List.foldl_append, List.foldl_cons]
    rw [addP_zero]
  have s2 : (l.set n f).foldl addP [] = (l.drop (n + 1)).foldl addP ((l.take n).foldl addP [] ++ [f]) := by
    rw [e2, List.foldl_append, List.foldl_cons]
    rw [addP_new hf hA]
  rw [s1, s2]
  refine (More.fold (l.drop (n + 1)) (a := (l.take n).foldl addP []) (a' := (l.take n).foldl addP [] ++ [f]) ⟨fun x hx => ?_, by simp⟩ (fun x hx => hno x (List.mem_of_mem_drop hx))).2
  rw [List.mem_append, List.mem_singleton]
  exact ⟨Or.inl, fun h => h.resolve_right hx⟩

theorem pre_setUp (S : SS) (f : Int) {i : Nat} (hi : i < 4) : (S.setUp i f).pre 4 = (S.pre 4).set (2 + 9 * i) f ∧ (S.pre 4)[2 + 9 * i]? = some (S.up i) := by
  rcases (by omega : i = 0 ∨ i = 1 ∨ i = 2 ∨ i = 3) with rfl | rfl | rfl | rfl <;> exact ⟨by kernel_rfl, by kernel_rfl⟩
theorem pre_setLa (S : SS) (f : Int) {k : Nat} (hk : k < 32) : (S.setLa k f).pre 4 = (S.pre 4).set (3 + 9 * (k / 8) + k % 8) f ∧ (S.pre 4)[3 + 9 * (k / 8) + k % 8]? = some (S.la k) := by
  rcases (by omega : k = 0 ∨ k = 1 ∨ k = 2 ∨ k = 3 ∨ k = 4 ∨ k = 5 ∨ k = 6 ∨ k = 7 ∨ k = 8 ∨ k = 9 ∨ k = 10 ∨ k = 11 ∨ k = 12 ∨ k = 13 ∨ k = 14 ∨ k = 15 ∨ k = 16 ∨ k = 17 ∨ k = 18 ∨ k = 19 ∨ k = 20 ∨ k = 21 ∨ k = 22 ∨ k = 23 ∨ k = 24 ∨ k = 25 ∨ k = 26 ∨ k = 27 ∨ k = 28 ∨ k = 29 ∨ k = 30 ∨ k = 31) with rfl | rfl | rfl | rfl | rfl | rfl | rfl | rfl | rfl | rfl | rfl | rfl | rfl | rfl | rfl | rfl | rfl | rfl | rfl | rfl | rfl | rfl | rfl | rfl | rfl | rfl | rfl | rfl | rfl | rfl | rfl | rfl <;> exact ⟨by kernel_rfl, by kernel_rfl⟩
theorem YInv.pre0 {y : YS} (h : YInv y) : ∀ x ∈ y.S.pre 4, x = 0 ∨ y.s.had x := by
  intro x hx
  unfold SS.pre at hx
  rcases List.mem_append.1 hx with hx | hx
  · simp at hx
    rcases hx with rfl | rfl
    · exact Or.inr h.kern
    · exact Or.inr h.user
  · obtain ⟨i, _, hx⟩ := List.mem_flatMap.1 hx
    unfold SS.row at hx
    rcases List.mem_cons.1 hx with rfl | hx
    · exact h.up i
    · obtain ⟨j, _, rfl⟩ := List.mem_map.1 hx
      exact h.la _
theorem tabs_setUp {y : YS} (h : YInv y) {f i : Nat} (hL : Least y.s f) (hi : i < 4) (h0 : y.S.up i = 0) : (y.S.setUp i f).tabs.length = y.S.tabs.length + 1 := by
  obtain ⟨e1, e2⟩ := pre_setUp y.S f hi
  rw [h0] at e2
  unfold SS.tabs
  rw [e1]
  exact fold_set (by rw [pre_len]; omega) e2 (by have := hL.lo; omega) (fun x hx => (least_ne hL (h.pre0 x hx)).symm)
theorem tabs_setLa {y : YS} (h : YInv y) {f k : Nat} (hL : Least y.s f) (hk : k < 32) (h0 : y.S.la k = 0) : (y.S.setLa k f).tabs.length = y.S.tabs.length + 1 := by
  obtain ⟨e1, e2⟩ := pre_setLa y.S f hk
  rw [h0] at e2
  unfold SS.tabs
  rw [e1]
  exact fold_set (by rw [pre_len]; omega) e2 (by have := hL.lo; omega) (fun x hx => (least_ne hL (h.pre0 x hx)).symm)
/-- A set takes as many tables as it needs. -/
theorem tabs_set {y : YS} (h : YInv y) {page : Int} (hm : y.may page = true) (x : Int) : (y.set page x).S.tabs.length = y.S.tabs.length + y.S.need [page] := by
  have hp : y.S.hasP page = true := by simp only [YS.may, Bool.and_eq_true] at hm; exact hm.1
  obtain ⟨_, p0, p1⟩ := (hasP_iff _ _).1 hp
  have hu := may_up hm
  have hl := may_la hm
  have i4 : (page / 64).toNat < 4 := by omega
  have j8 : (page / 8 % 8).toNat < 8 := by omega
  have h1 := h.up1 _ (by omega : (page / 64).toNat < 8) hu
  rw [need_is hp]
  have eU : (y.up1 (page / 64).toNat).S.tabs.length = y.S.tabs.length + (if y.S.up (page / 64).toNat = 0 then 1 else 0) := by
    by_cases h0 : y.S.up (page / 64).toNat = 0
    · rw [if_pos h0]
      have := tabs_setUp h (least_left (hu h0)) i4 h0
      unfold YS.up1; rw [if_pos h0]; exact this
    · rw [if_neg h0]; unfold YS.up1; rw [if_neg h0]; rfl
  have eL : ((y.up1 (page / 64).toNat).la1 (page / 64).toNat (page / 8 % 8).toNat).S.tabs.length = (y.up1 (page / 64).toNat).S.tabs.length + (if y.S.la ((page / 64).toNat * 8 + (page / 8 % 8).toNat) = 0 then 1 else 0) := by
    rw [← up1_la y (page / 64).toNat]
    by_cases h0 : (y.up1 (page / 64).toNat).S.la ((page / 64).toNat * 8 + (page / 8 % 8).toNat) = 0
    · rw [if_pos h0]
      have := tabs_setLa h1 (least_left (hl h0)) (by omega) h0
      unfold YS.la1; rw [if_pos h0]; exact this
    · rw [if_neg h0]; unfold YS.la1; rw [if_neg h0]; rfl
  show ((y.up1 (page / 64).toNat).la1 (page / 64).toNat (page / 8 % 8).toNat).S.tabs.length = _
  rw [eL, eU]; omega
end Go.Proofs.Ytoododpeoffieaa
/-
  A process's tables: Drop.
-/
namespace Go.Proofs.Ytoododpeoffieaa
open Go.ChangeShapes Go.WideShapes Go.ChangeAt Go.RowKit

/-- A frame given back. -/
def giveP (a : (Nat → Int) × MS) (f : Int) : (Nat → Int) × MS := (rgive a.1 f, a.2.given a.1 f)
def giveL (R : Nat → Int) (s : MS) (l : List Int) : (Nat → Int) × MS := l.foldl giveP (R, s)
theorem giveL_snoc (R : Nat → Int) (s : MS) (l : List Int) (x : Int) : giveL R s (l ++ [x]) = giveP (giveL R s l) x := by unfold giveL; rw [List.foldl_append]; rfl
theorem rgive_le {R : Nat → Int} (h : ∀ j, R j ≤ 1000000) (f : Int) : ∀ j, rgive R f j ≤ 1000000 := by
  intro j
  unfold rgive
  split
  · unfold rset
    split
    · unfold rf; split
      · have := h f.toNat; omega
      · omega
    · exact h j
  · exact h j
theorem giveL_le {R : Nat → Int} (h : ∀ j, R j ≤ 1000000) (s : MS) (l : List Int) : ∀ j, (giveL R s l).1 j ≤ 1000000 := by
  have : ∀ (l : List Int) (a : (Nat → Int) × MS), (∀ j, a.1 j ≤ 1000000) → ∀ j, (l.foldl giveP a).1 j ≤ 1000000 := by
    intro l
    induction l with
    | nil => intro a ha; exact ha
    | cons x l ih => intro a ha; exact ih _ (rgive_le ha x)
  exact this l (R, s) h
theorem rf_le' {R : Nat → Int} (h : ∀ j, R j ≤ 1000000) (f : Int) : rf R f < 9223372036854775807 := by
  unfold rf; split
  · have := h f.toNat; omega
  · omega

set_option maxRecDepth 20000 in
set_option maxHeartbeats 2000000 in
theorem drop_any {w : World} {q p b c : Nat} {S : SS} {R : Nat → Int} {s : MS} (h : Sys w q p b c S R s) (hR : ∀ j, R j ≤ 1000000) :
    Calls Try.prog 14 #[.pointer (some ⟨q, 0, none⟩)] w fun e w' => e = .returned (.tuple #[]) ∧ Sys w' q p b c ⟨S.own, 0, 0, fun _ => 0, fun _ => 0⟩ (giveL R s S.stab).1 (giveL R s S.stab).2 ∧ Touch (fun x => x = q ∨ x = p ∨ x = c) w w' := by
  have hTb := tables_any h.sp
  have hsl := stab_len S
  go_enter Try.func14, Try.ntmps14
  go_upto_block 0 with (go_at_call 23; refine hTb.mono ?_; rintro e w1 ⟨a1, c1, rfl, hC, b1⟩)
  clear hTb
  have t1 : Touch Nil w w1 := Touch.ofBelow b1
  have h1 := h.nil t1
  have hpw : p < w.heap.size := h.po.row.lt
  have hcw : c < w.heap.size := h.me.row.lt
  have hqw : q < w.heap.size := h.sp.lt
  obtain ⟨L, hL⟩ : ∃ L, Hid (S.stab = L) := ⟨_, rfl⟩
  rw [hL.out] at hC hsl
  rw [← hsl]
  have hLl : L.length ≤ 100 := by rw [hsl]; have := ta_len S 4; rw [tabs_ta]; omega
  clear b1 hsl
  go_cut [7] (fun _ wx => Sys wx q p b c S (giveL R s L).1 (giveL R s L).2 ∧ Touch (fun x => x = p ∨ x = c) w1 wx)
  case first =>
    go_wp2_with fail
    go_loopg [7] L.length (fun g i wr => ∃ k : Nat, g + k = L.length ∧ i = .int .i64 k ∧ Sys wr q p b c S (giveL R s (L.take k)).1 (giveL R s (L.take k)).2 ∧ Touch (fun x => x = p ∨ x = c) w1 wr)
    case atStart => exact ⟨0, by omega, rfl, h1, Touch.refl _ _⟩
    case round =>
      obtain ⟨k, hg, rfl, hk, tk⟩ := hrel
      by_cases hlt : k < L.length
      · have k1 : (k : Int) < (L.length : Int) := by omega
        rcases hC with hC | ⟨g, rfl, hgb, hgl, hcs⟩
        · subst hC; simp at hlt
        have cc : wr.cell? ⟨g, k, none⟩ = some (.int .i64 (L.getD k 0)) := by
          have := hcs k hlt
          unfold World.cell? at this ⊢
          rw [tk.block g hgl (by omega)]; exact this
        have hts := take_snocI hlt
        have hle := giveL_le hR s (L.take k)
        have hG := pgive_any hk.po hk.me (L.getD k 0) (rf_le' hle _)
        have e : giveP (giveL R s (L.take k)) (L.getD k 0) = giveL R s (L.take (k + 1)) := by rw [hts, giveL_snoc]
        have e1 : Hid (rgive (giveL R s (L.take k)).1 (L.getD k 0) = (giveL R s (L.take (k + 1))).1) := by show _ = _; rw [← e]; rfl
        have e2 : Hid ((giveL R s (L.take k)).2.given (giveL R s (L.take k)).1 (L.getD k 0) = (giveL R s (L.take (k + 1))).2) := by show _ = _; rw [← e]; rfl
        rw [e1.out, e2.out] at hG
        obtain ⟨fr, hfr⟩ : ∃ fr, Hid (L.getD k 0 = fr) := ⟨_, rfl⟩
        rw [hfr.out] at cc hG
        have cp := hk.sp.poolC
        clear hts e hcs
        go_wp2_with (go_at_call 48; refine hG.mono ?_; rintro e w2 ⟨rfl, p2, m2, t2⟩)
        go_roundg (L.length - (k + 1))
        case measure => omega
        case rel => exact ⟨k + 1, by omega, by go_num, ⟨hk.sp.touch t2 (by rintro (e | e); exact hk.qp e; exact hk.qc e), p2, m2⟩, tk.trans t2⟩
      · have k1 : ¬ ((k : Int) < (L.length : Int)) := by omega
        obtain rfl : k = L.length := by omega
        rw [List.take_length] at hk
        go_wp2_with fail
        go_meet
        exact ⟨hk, tk⟩
  case rest =>
    obtain ⟨h2, t2⟩ := hcut
    have T2 : Touch (fun x => x = q ∨ x = p ∨ x = c) w wc := (t1.mono (fun _ _ h => h.elim)).trans (t2.mono (fun x _ e => Or.inr e))
    clear h1 t1 t2 hC
    have c3 := h2.sp.kernC
    have z3 := h2.sp.frozen 3
    have c4 := h2.sp.userC
    have z4 := h2.sp.frozen 4
    go_upto_region 6 with fail
    have h3 := (h2.kern 0).user 0
    have t3 := T2.trans ((((h2.kernT 0).trans ((h2.kern 0).userT 0))).mono (fun x _ e => Or.inl e))
    clear c3 z3 c4 z4 h2 T2
    generalize (wc.setCell ⟨q, 3, none⟩ (.int .i64 0)).setCell ⟨q, 4, none⟩ (.int .i64 0) = W3 at *
    have hi4 : (Try.prog.info? 92).map (·.size) = some (upL ⟨fun _ => 0, fun _ => 0⟩).toArray.size := by show _ = some 4; kernel_rfl
    have hi32 : (Try.prog.info? 94).map (·.size) = some (laL ⟨fun _ => 0, fun _ => 0⟩).toArray.size := by show _ = some 32; kernel_rfl
    go_upto_region 7 with (refine wpList_store_mid rfl 92 _ _ rfl q 5 (upL ⟨fun _ => 0, fun _ => 0⟩).toArray rfl (by kernel_rfl) (there_of_row h3.sp.row 5 4 (by omega)) hi4 (up_one _) ?_)
    have ts4 : Touch (· = q) W3 (W3.setCells q 5 (upL ⟨fun _ => 0, fun _ => 0⟩)) := (Touch.refl (· = q) W3).setCells rfl _ _
    have sp4 : SpAt (W3.setCells q 5 (upL ⟨fun _ => 0, fun _ => 0⟩)) q b p ⟨S.own, 0, 0, fun _ => 0, S.la⟩ := by
      refine ⟨(rowIs_setCells (upL ⟨fun _ => 0, fun _ => 0⟩) 5 W3 _ h3.sp.row).congr fun i hi => ?_⟩
      by_cases e : 5 ≤ i
      · rw [if_pos e]
        have a0 : i ≠ 0 := by omega
        have a1 : i ≠ 1 := by omega
        have a2 : i ≠ 2 := by omega
        have a3 : i ≠ 3 := by omega
        have a4 : i ≠ 4 := by omega
        by_cases e2 : i < 9
        · rw [upL_at _ (by omega)]
          simp only [SS.cell, a0, a1, a2, a3, a4, e2, if_false, if_true]; rfl
        · rw [List.getElem?_eq_none (by rw [upL_len]; omega)]
          simp only [SS.cell, a0, a1, a2, a3, a4, e2, if_false]; rfl
      · rw [if_neg e]
        unfold SS.cell
        repeat (split <;> try rfl)
        all_goals omega
    have h4 : Sys (W3.setCells q 5 (upL ⟨fun _ => 0, fun _ => 0⟩)) q p b c ⟨S.own, 0, 0, fun _ => 0, S.la⟩ (giveL R s L).1 (giveL R s L).2 := ⟨sp4, h3.po.touch ts4 (fun e => h3.qp e.symm), h3.me.touch ts4 (fun e => h3.qb e.symm) (fun e => h3.qc e.symm)⟩
    have t4 := t3.trans (ts4.mono (fun x _ e => Or.inl e))
    clear sp4 ts4
    generalize W3.setCells q 5 (upL ⟨fun _ => 0, fun _ => 0⟩) = W4 at *
    go_wp2_with (refine wpList_store_mid rfl 94 _ _ rfl q 9 (laL ⟨fun _ => 0, fun _ => 0⟩).toArray rfl (by kernel_rfl) (there_of_row h4.sp.row 9 32 (by omega)) hi32 (la_one _) ?_)
    go_end0
    have ts5 : Touch (· = q) W4 (W4.setCells q 9 (laL ⟨fun _ => 0, fun _ => 0⟩)) := (Touch.refl (· = q) W4).setCells rfl _ _
    have sp5 : SpAt (W4.setCells q 9 (laL ⟨fun _ => 0, fun _ => 0⟩)) q b p ⟨S.own, 0, 0, fun _ => 0, fun _ => 0⟩ := by
      refine ⟨(rowIs_setCells (laL ⟨fun _ => 0, fun _ => 0⟩) 9 W4 _ h4.sp.row).congr fun i hi => ?_⟩
      by_cases e : 9 ≤ i
      · rw [if_pos e]
        have a0 : i ≠ 0 := by omega
        have a1 : i ≠ 1 := by omega
        have a2 : i ≠ 2 := by omega
        have a3 : i ≠ 3 := by omega
        have a4 : i ≠ 4 := by omega
        have e2 : ¬ i < 9 := by omega
        rw [laL_at _ (by omega)]
        simp only [SS.cell, a0, a1, a2, a3, a4, e2, if_false]; rfl
      · rw [if_neg e]
        unfold SS.cell
        repeat (split <;> try rfl)
        all_goals omega
    rw [hL.out]
    exact ⟨rfl, ⟨sp5, h4.po.touch ts5 (fun e => h4.qp e.symm), h4.me.touch ts5 (fun e => h4.qb e.symm) (fun e => h4.qc e.symm)⟩, t4.trans (ts5.mono (fun x _ e => Or.inl e))⟩
end Go.Proofs.Ytoododpeoffieaa
/-
  Two spaces over one pool, plain: a set in one leaves the other as it was.
-/
namespace Go.Proofs.Ytoododpeoffieaa
open Go.ChangeShapes Go.WideShapes Go.ChangeAt Go.RowKit

/-- A frame of a space's. -/
def SS.its (S : SS) (f : Int) : Prop := f ≠ 0 ∧ (f = S.kern ∨ f = S.user ∨ (∃ i, f = S.up i) ∨ ∃ k, f = S.la k)
theorem YInv.itsHad {y : YS} (h : YInv y) {f : Int} (hf : y.S.its f) : y.s.had f := by
  obtain ⟨h0, rfl | rfl | ⟨i, rfl⟩ | ⟨k, rfl⟩⟩ := hf
  · exact h.kern
  · exact h.user
  · exact (h.up i).resolve_left h0
  · exact (h.la k).resolve_left h0

/-- What a set does to a memory and a pool: what was had stays, new tables were free. -/
structure Grow (y z : YS) : Prop where
  n : z.s.n = y.s.n
  had : ∀ g, y.s.had g → z.s.had g
  rd : ∀ g m : Int, y.s.had g → ¬ y.S.its g → 0 ≤ m → m < 8 → z.s.rd (g * 8 + m) = y.s.rd (g * 8 + m)
  its : ∀ f, z.S.its f → y.S.its f ∨ ¬ y.s.had f
  r : ∀ f, y.s.had f → z.R f.toNat = y.R f.toNat
  r1 : ∀ f, z.S.its f → ¬ y.s.had f → z.R f.toNat = 1
  bd : (∀ j, y.R j ≤ 1) → ∀ j, z.R j ≤ 1
theorem Grow.refl (y : YS) (h : YInv y) : Grow y y := ⟨rfl, fun _ h => h, fun _ _ _ _ _ _ => rfl, fun _ h => Or.inl h, fun _ _ => rfl, fun _ hf hn => absurd (h.itsHad hf) hn, fun h => h⟩
theorem Grow.trans {x y z : YS} (a : Grow x y) (b : Grow y z) : Grow x z := by
  refine ⟨b.n.trans a.n, fun g h => b.had g (a.had g h), fun g m h hn m0 m1 => ?_, fun f hf => ?_, fun f hf => (b.r f (a.had f hf)).trans (a.r f hf), fun f hf hn => ?_, fun h => b.bd (a.bd h)⟩
  · rw [b.rd g m (a.had g h) (fun hi => ?_) m0 m1, a.rd g m h hn m0 m1]
    rcases a.its g hi with h1 | h1
    · exact hn h1
    · exact h1 h
  · rcases b.its f hf with h1 | h1
    · exact a.its f h1
    · exact Or.inr (fun h => h1 (a.had f h))
  · by_cases hh : y.s.had f
    · rw [b.r f hh]
      refine a.r1 f ?_ hn
      rcases b.its f hf with h1 | h1
      · exact h1
      · exact absurd hh h1
    · exact b.r1 f hf hh
theorem rset_of (R : Nat → Int) (f : Nat) (x : Int) (g : Int) (h : g.toNat ≠ f) : rset R (f : Int) x g.toNat = R g.toNat := by unfold rset; rw [if_neg (by omega)]
theorem rset_bd {R : Nat → Int} (h : ∀ j, R j ≤ 1) (f : Int) : ∀ j, rset R f 1 j ≤ 1 := fun j => by
  unfold rset; split
  · exact Int.le_refl _
  · exact h j
theorem least_nohad {s : MS} {f : Nat} (hL : Least s f) : ¬ s.had (f : Int) := fun h => h.2.2 hL.free
theorem had_ne {s : MS} {f : Nat} (hL : Least s f) {g : Int} (h : s.had g) : g.toNat ≠ f := fun e => by
  have := h.1
  exact least_ne hL (Or.inr h) (by omega)

theorem grow_up1 {y : YS} (h : YInv y) (i : Nat) (hi : i < 8) (hl : y.S.up i = 0 → 1 ≤ y.s.left) : Grow y (y.up1 i) := by
  have hrd := fun g m (hg : y.s.had g) (hn : ¬ y.S.its g) (m0 : 0 ≤ m) (m1 : m < 8) => up1_rd (m := m) h i hi (g := g) (by have := hg.1; omega) ⟨m0, m1⟩ (fun e => hn ⟨by have := hg.1; omega, Or.inl e⟩) (fun e => hn ⟨by have := hg.1; omega, Or.inr (Or.inl e)⟩)
  by_cases h0 : y.S.up i = 0
  · have hL := least_left (hl h0)
    have hup : y.up1 i = ⟨y.S.setUp i y.s.least, rset y.R y.s.least 1, (y.s.mark y.s.least 1 y.S.own).roots y.S i y.s.least⟩ := by unfold YS.up1; rw [if_pos h0]
    rw [hup] at hrd ⊢
    generalize y.s.least = f at *
    refine ⟨by show (MS.roots _ _ _ _).n = _; rw [roots_n, MS.mark_n], fun g hg => had_write (had_write (mark_had hg _ (by decide)) _ _) _ _, hrd, fun g hg => ?_, fun g hg => rset_of _ _ _ _ (had_ne hL hg), fun g hg hn => ?_, fun hb => rset_bd hb _⟩
    · obtain ⟨g0, e | e | ⟨j, e⟩ | ⟨k, e⟩⟩ := hg
      · exact Or.inl ⟨g0, Or.inl e⟩
      · exact Or.inl ⟨g0, Or.inr (Or.inl e)⟩
      · simp only [SS.setUp] at e
        split at e
        · rw [e]; exact Or.inr (least_nohad hL)
        · exact Or.inl ⟨g0, Or.inr (Or.inr (Or.inl ⟨j, e⟩))⟩
      · exact Or.inl ⟨g0, Or.inr (Or.inr (Or.inr ⟨k, e⟩))⟩
    · have e : g = (f : Int) := by
        obtain ⟨g0, e | e | ⟨j, e⟩ | ⟨k, e⟩⟩ := hg
        · exact absurd h.kern (e ▸ hn)
        · exact absurd h.user (e ▸ hn)
        · simp only [SS.setUp] at e
          split at e
          · exact e
          · exact absurd ((h.up j).resolve_left (e ▸ g0)) (e ▸ hn)
        · exact absurd ((h.la k).resolve_left (e ▸ g0)) (e ▸ hn)
      subst e
      show rset _ _ _ _ = _
      unfold rset; rw [if_pos rfl]
  · have hup : y.up1 i = y := by unfold YS.up1; rw [if_neg h0]
    rw [hup]; exact Grow.refl y h
theorem grow_la1 {y : YS} (h : YInv y) (i j : Nat) (hj : j < 8) (hl : y.S.la (i * 8 + j) = 0 → 1 ≤ y.s.left) : Grow y (y.la1 i j) := by
  have hrd := fun g m (hg : y.s.had g) (hn : ¬ y.S.its g) (m0 : 0 ≤ m) (m1 : m < 8) => la1_rd (m := m) h i j hj (g := g) (by have := hg.1; omega) ⟨m0, m1⟩ (fun e => hn ⟨by have := hg.1; omega, Or.inr (Or.inr (Or.inl ⟨i, e⟩))⟩)
  by_cases h0 : y.S.la (i * 8 + j) = 0
  · have hL := least_left (hl h0)
    have hup : y.la1 i j = ⟨y.S.setLa (i * 8 + j) y.s.least, rset y.R y.s.least 1, (y.s.mark y.s.least 1 y.S.own).write (y.S.up i * 8 + j) (opn y.s.least)⟩ := by unfold YS.la1; rw [if_pos h0]
    rw [hup] at hrd ⊢
    generalize y.s.least = f at *
    refine ⟨by show (MS.write _ _ _).n = _; rw [MS.write_n, MS.mark_n], fun g hg => had_write (mark_had hg _ (by decide)) _ _, hrd, fun g hg => ?_, fun g hg => rset_of _ _ _ _ (had_ne hL hg), fun g hg hn => ?_, fun hb => rset_bd hb _⟩
    · obtain ⟨g0, e | e | ⟨k, e⟩ | ⟨k, e⟩⟩ := hg
      · exact Or.inl ⟨g0, Or.inl e⟩
      · exact Or.inl ⟨g0, Or.inr (Or.inl e)⟩
      · exact Or.inl ⟨g0, Or.inr (Or.inr (Or.inl ⟨k, e⟩))⟩
      · simp only [SS.setLa] at e
        split at e
        · rw [e]; exact Or.inr (least_nohad hL)
        · exact Or.inl ⟨g0, Or.inr (Or.inr (Or.inr ⟨k, e⟩))⟩
    · have e : g = (f : Int) := by
        obtain ⟨g0, e | e | ⟨k, e⟩ | ⟨k, e⟩⟩ := hg
        · exact absurd h.kern (e ▸ hn)
        · exact absurd h.user (e ▸ hn)
        · exact absurd ((h.up k).resolve_left (e ▸ g0)) (e ▸ hn)
        · simp only [SS.setLa] at e
          split at e
          · exact e
          · exact absurd ((h.la k).resolve_left (e ▸ g0)) (e ▸ hn)
      subst e
      show rset _ _ _ _ = _
      unfold rset; rw [if_pos rfl]
  · have hup : y.la1 i j = y := by unfold YS.la1; rw [if_neg h0]
    rw [hup]; exact Grow.refl y h
theorem grow_put {y : YS} (h : YInv y) {f m : Int} (hf : y.S.its f) (hm : 0 ≤ m ∧ m < 8) (x : Int) : Grow y ⟨y.S, y.R, y.s.write (f * 8 + m) x⟩ := by
  have hH := h.itsHad hf
  refine ⟨by show (MS.write _ _ _).n = _; rw [MS.write_n], fun g hg => had_write hg _ _, fun g k hg hn k0 k1 => ?_, fun _ h => Or.inl h, fun _ _ => rfl, fun _ hg hn => absurd (h.itsHad hg) hn, fun h => h⟩
  exact rd_frame (fun e => hn (by rw [← e]; exact hf)) (by have := hH.1; omega) (by have := hg.1; omega) hm ⟨k0, k1⟩ x
theorem grow_set {y : YS} (h : YInv y) {page : Int} (hm : y.may page = true) (x : Int) : Grow y (y.set page x) := by
  have hp : y.S.hasP page = true := by simp only [YS.may, Bool.and_eq_true] at hm; exact hm.1
  obtain ⟨hk0, p0, p1⟩ := (hasP_iff _ _).1 hp
  have hu := may_up hm
  have hl := may_la hm
  have i8 : (page / 64).toNat < 8 := by omega
  have j8 : (page / 8 % 8).toNat < 8 := by omega
  have h1 := h.up1 _ i8 hu
  have hup1 := up1_up hu h.n64
  have h2 := h1.la1 _ _ j8 hup1 hl
  have hla2 := la1_la hl (by rw [up1_n]; exact h.n64)
  have g1 := grow_up1 h _ i8 hu
  have g2 := grow_la1 h1 _ _ j8 hl
  have g3 := grow_put h2 (f := ((y.up1 (page / 64).toNat).la1 (page / 64).toNat (page / 8 % 8).toNat).S.la (pk page)) (m := page % 8) ⟨hla2, Or.inr (Or.inr (Or.inr ⟨_, rfl⟩))⟩ (by omega) x
  exact (g1.trans g2).trans g3

/-- Two spaces, one pool, one memory. -/
structure Two (A B : SS) (R : Nat → Int) (s : MS) : Prop where
  a : YInv ⟨A, R, s⟩
  b : YInv ⟨B, R, s⟩
  ap : ∀ f, A.its f → ¬ B.its f
  r : ∀ f, A.its f ∨ B.its f → R f.toNat = 1
  bd : ∀ j, R j ≤ 1
theorem Two.symm {A B : SS} {R : Nat → Int} {s : MS} (h : Two A B R s) : Two B A R s := ⟨h.b, h.a, fun f x y => h.ap f y x, fun f x => h.r f x.symm, h.bd⟩
/-- A space that is not touched: what stays true of it. -/
theorem other_inv {y z : YS} (hz : YInv z) {B : SS} (g : Grow y z) (hb : YInv ⟨B, y.R, y.s⟩) : YInv ⟨B, z.R, z.s⟩ :=
  ⟨hz.n64, g.had _ hb.kern, g.had _ hb.user, fun i => (hb.up i).imp id (g.had _), fun k => (hb.la k).imp id (g.had _), hb.upNe, hb.laNe, hb.upla, hb.upR, hb.laR, hb.laUp, hz.free0⟩
theorem getP_other {B : SS} {R : Nat → Int} {s t : MS} (hb : YInv ⟨B, R, s⟩) (hrd : ∀ g m : Int, B.its g → 0 ≤ m → m < 8 → t.rd (g * 8 + m) = s.rd (g * 8 + m)) (P : Int) : getP B t P = getP B s P := by
  unfold getP
  by_cases h : B.hasP P = true ∧ B.need [P] = 0
  · rw [if_pos h, if_pos h, pl_pk]
    have hl : B.la (pk P) ≠ 0 := fun e => (hb.need0 P).2 h.1 e h.2
    exact hrd _ _ ⟨hl, Or.inr (Or.inr (Or.inr ⟨_, rfl⟩))⟩ (by omega) (by omega)
  · rw [if_neg h, if_neg h]
/-- A set in the first one. -/
theorem Two.set {A B : SS} {R : Nat → Int} {s : MS} (h : Two A B R s) {page : Int} (p0 : 0 ≤ page) (p1 : page < 256) (x : Int) (hl : 2 ≤ s.left) :
    (⟨A, R, s⟩ : YS).may page = true ∧ Two ((⟨A, R, s⟩ : YS).set page x).S B ((⟨A, R, s⟩ : YS).set page x).R ((⟨A, R, s⟩ : YS).set page x).s ∧
      getP ((⟨A, R, s⟩ : YS).set page x).S ((⟨A, R, s⟩ : YS).set page x).s page = x ∧ (∀ P, P ≠ page → 0 ≤ P → P < 256 → getP ((⟨A, R, s⟩ : YS).set page x).S ((⟨A, R, s⟩ : YS).set page x).s P = getP A s P) ∧
      (∀ P, getP B ((⟨A, R, s⟩ : YS).set page x).s P = getP B s P) ∧
      ((⟨A, R, s⟩ : YS).set page x).s.left + ((⟨A, R, s⟩ : YS).set page x).S.tabs.length = s.left + A.tabs.length ∧ s.left ≤ ((⟨A, R, s⟩ : YS).set page x).s.left + 2 := by
  have hp : A.hasP page = true := (hasP_iff _ _).2 ⟨by have : 15 ≤ A.kern := h.a.kern.1; omega, p0, p1⟩
  have hle := need_le A page
  have hm : (⟨A, R, s⟩ : YS).may page = true := by unfold YS.may; rw [hp]; simp; omega
  obtain ⟨h2, hg, ho, _, _⟩ := h.a.set hm x
  obtain ⟨_, _, _, _, hlf⟩ := set_facts hm h.a.n64 x
  have hT := tabs_set h.a hm x
  have gr := grow_set h.a hm x
  generalize (⟨A, R, s⟩ : YS).set page x = z at *
  have hlf : z.s.left + A.need [page] = s.left := hlf
  have hT : z.S.tabs.length = A.tabs.length + A.need [page] := hT
  refine ⟨hm, ⟨h2, other_inv h2 gr h.b, fun f hA hB => ?_, fun f hf => ?_, gr.bd h.bd⟩, hg, ho, fun P => getP_other h.b (fun g m hi m0 m1 => gr.rd g m (h.b.itsHad hi) (fun e => h.ap g e hi) m0 m1) P, by omega, by omega⟩
  · rcases gr.its f hA with e | e
    · exact h.ap f e hB
    · exact e (h.b.itsHad hB)
  · by_cases hh : s.had f
    · rw [gr.r f hh]
      refine h.r f ?_
      rcases hf with hf | hf
      · rcases gr.its f hf with e | e
        · exact Or.inl e
        · exact absurd hh e
      · exact Or.inr hf
    · rcases hf with hf | hf
      · exact gr.r1 f hf hh
      · exact absurd (h.b.itsHad hf) hh

/-- What is told as a table is one. -/
theorem pre_its {S : SS} {x : Int} (h0 : x ≠ 0) (hx : x ∈ S.pre 4) : S.its x := by
  refine ⟨h0, ?_⟩
  unfold SS.pre at hx
  rcases List.mem_append.1 hx with hx | hx
  · simp at hx
    rcases hx with rfl | rfl
    · exact Or.inl rfl
    · exact Or.inr (Or.inl rfl)
  · obtain ⟨i, _, hx⟩ := List.mem_flatMap.1 hx
    unfold SS.row at hx
    rcases List.mem_cons.1 hx with rfl | hx
    · exact Or.inr (Or.inr (Or.inl ⟨_, rfl⟩))
    · obtain ⟨j, _, rfl⟩ := List.mem_map.1 hx
      exact Or.inr (Or.inr (Or.inr ⟨_, rfl⟩))
theorem fold_nz : ∀ (l acc : List Int), (∀ x ∈ acc, x ≠ 0) → acc.Nodup → (∀ x ∈ l.foldl addP acc, x ≠ 0) ∧ (l.foldl addP acc).Nodup
  | [], _, h, hn => ⟨h, hn⟩
  | y :: l, acc, h, hn => by
    refine fold_nz l (addP acc y) ?_ ?_
    · intro x hx
      unfold addP at hx
      split at hx
      · exact h x hx
      · rename_i hh
        rcases List.mem_append.1 hx with hx | hx
        · exact h x hx
        · rw [List.mem_singleton] at hx; subst hx; exact fun e => hh (Or.inl e)
    · unfold addP
      split
      · exact hn
      · rename_i hh
        refine List.nodup_append.2 ⟨hn, by simp, fun a ha b hb => ?_⟩
        rw [List.mem_singleton] at hb; subst hb
        exact fun e => hh (Or.inr (e ▸ ha))
theorem tabs_its {S : SS} {x : Int} (hx : x ∈ S.stab) : S.its x := by
  have hx : x ∈ S.tabs := (List.mergeSort_perm _ _).mem_iff.1 hx
  have h0 := (fold_nz (S.pre 4) [] (by simp) List.nodup_nil).1 x hx
  rcases fold_mem _ _ hx with h | h
  · cases h
  · exact pre_its h0 h
theorem stab_nodup (S : SS) : S.stab.Nodup := (List.mergeSort_perm _ _).nodup_iff.2 (fold_nz (S.pre 4) [] (by simp) List.nodup_nil).2
theorem Two.stab_ne {A B : SS} {R : Nat → Int} {s : MS} (h : Two A B R s) (i j : Nat) (hi : i < A.stab.length) (hj : j < B.stab.length) : (A.stab.getD i 0 == B.stab.getD j 0) = false := by
  have h1 : A.stab.getD i 0 ∈ A.stab := by rw [List.getD_eq_getElem?_getD, List.getElem?_eq_getElem hi]; exact List.getElem_mem _
  have h2 : B.stab.getD j 0 ∈ B.stab := by rw [List.getD_eq_getElem?_getD, List.getElem?_eq_getElem hj]; exact List.getElem_mem _
  rw [beq_eq_false_iff_ne]
  intro e
  exact h.ap _ (tabs_its h1) (by rw [e]; exact tabs_its h2)
end Go.Proofs.Ytoododpeoffieaa
/-
  A process's tables: the first space of a memory of 64 frames (plain).
-/
namespace Go.Proofs.Ytoododpeoffieaa
open Go.ChangeShapes Go.WideShapes Go.ChangeAt Go.RowKit

/-- The memory of 64 frames, booted, and its first space. -/
abbrev y64 (k : Bool) : YS := YS.new 0 k (fun _ => 0) (MS.up 64 k)
theorem y64_S (k : Bool) : (y64 k).S = ⟨0, 15, if k = true then 16 else 15, fun _ => 0, fun _ => 0⟩ := by cases k <;> kernel_rfl
theorem y64_left (k : Bool) : (y64 k).s.left = (if k = true then 47 else 48) := by cases k <;> decide +kernel
theorem up64_left (k : Bool) : (if k = true then 2 else 1) ≤ (MS.up 64 k).left := by cases k <;> decide +kernel
theorem y64_n (k : Bool) : (y64 k).s.n = 64 := by cases k <;> decide +kernel
theorem y64_inv (k : Bool) : YInv (y64 k) := by
  have hS := y64_S k
  have hn := y64_n k
  have hn' : (((y64 k).s.n : Nat) : Int) = 64 := by rw [hn]; rfl
  have hC : ∀ f < 64, 15 ≤ f → (y64 k).s.C f = 0 → ∀ o < 8, (y64 k).s.W (f * 8 + o) = 0 := by cases k <;> decide +kernel
  have h15 : (y64 k).s.C 15 ≠ 0 := by cases k <;> decide +kernel
  have h16 : k = true → (y64 k).s.C 16 ≠ 0 := by cases k <;> decide +kernel
  refine ⟨by rw [hn]; decide, ?_, ?_, fun i => Or.inl (by rw [hS]), fun i => Or.inl (by rw [hS]), fun i j h => absurd (by rw [hS]) h, fun i j h => absurd (by rw [hS]) h, fun i j h => absurd (by rw [hS]) h, fun i => ?_, fun i => ?_, fun j h => absurd (by rw [hS]) h, fun f f0 f1 c o ho => hC f (by rw [hn] at f1; exact f1) f0 c o ho⟩
  · unfold MS.had; rw [hn', show (y64 k).S.kern = 15 by rw [hS]]; exact ⟨by decide, by decide, h15⟩
  · unfold MS.had
    cases k with
    | true => rw [hn', show (y64 true).S.user = 16 by rw [hS]; rfl]; exact ⟨by decide, by decide, by rw [show (16 : Int).toNat = 16 from rfl]; exact h16 (by rfl)⟩
    | false => rw [hn', show (y64 false).S.user = 15 by rw [hS]; rfl]; exact ⟨by decide, by decide, by rw [show (15 : Int).toNat = 15 from rfl]; exact h15⟩
  · rw [hS]; cases k <;> (constructor <;> (simp))
  · rw [hS]; cases k <;> (constructor <;> (simp))
end Go.Proofs.Ytoododpeoffieaa
/-
  Two spaces over one pool, plain: one is given back; how they begin.
-/
namespace Go.Proofs.Ytoododpeoffieaa
open Go.ChangeShapes Go.WideShapes Go.ChangeAt Go.RowKit

def MS.free0 (s : MS) : Prop := ∀ f : Nat, 15 ≤ f → f < s.n → s.C f = 0 → ∀ o : Nat, o < 8 → s.W (f * 8 + o) = 0
theorem given_one {R : Nat → Int} {s : MS} {f : Int} (hn : s.n ≤ 64) (hf : s.had f) (h1 : R f.toNat = 1) :
    (s.given R f).n = s.n ∧ (s.given R f).left = s.left + 1 ∧ (∀ g, s.had g → g ≠ f → (s.given R f).had g) ∧ (∀ g m : Int, 0 ≤ g → g ≠ f → 0 ≤ m → m < 8 → (s.given R f).rd (g * 8 + m) = s.rd (g * 8 + m)) ∧ (s.free0 → (s.given R f).free0) ∧ rgive R f = rset R f 0 := by
  obtain ⟨f0, f1, f2⟩ := hf
  have hr : rf R f = 1 := by unfold rf; rw [if_pos ⟨by omega, by omega⟩]; exact h1
  have hF : s.hasF f = true := (s.hasF_iff _).2 (by omega)
  have hm : (s.zero f).mayM f 0 = true := (s.zero f).mayM_mk _ _ (by rw [MS.hasF_of_n (s.zero_n f)]; exact hF) (by omega) (by omega)
  have hg : s.given R f = ⟨s.n, fun i => if i / 8 = f.toNat then 0 else s.W i, fun i => if i = f.toNat then 0 else s.C i, fun i => if i = f.toNat then -1 else s.O i⟩ := by
    unfold MS.given; rw [if_pos hr]
    unfold MS.mark; rw [if_pos hm]
    unfold MS.zero; rw [if_pos hF]
  rw [hg]
  refine ⟨rfl, ?_, fun g hh hne => ⟨hh.1, hh.2.1, ?_⟩, fun g m g0 hne m0 m1 => ?_, fun h0 g g0 g1 hc o ho => ?_, ?_⟩
  · have hc := cnt_set (C := fun i => if i = f.toNat then 0 else s.C i) (f := f.toNat) (v := s.C f.toNat) (by omega) (by simp) f2 (s.n - 15)
    rw [if_pos (by omega)] at hc
    have e : (fun i => if i = f.toNat then s.C f.toNat else if i = f.toNat then 0 else s.C i) = s.C := by
      funext i
      by_cases e : i = f.toNat
      · rw [if_pos e, e]
      · rw [if_neg e, if_neg e]
    rw [e] at hc
    unfold MS.left
    exact hc.symm
  · show (if g.toNat = f.toNat then (0 : Int) else s.C g.toNat) ≠ 0
    rw [if_neg (by have := hh.1; omega)]; exact hh.2.2
  · unfold MS.rd MS.hasW
    show (if _ then (if (g * 8 + m).toNat / 8 = f.toNat then (0 : Int) else s.W _) else 0) = _
    rw [if_neg (show ¬ (g * 8 + m).toNat / 8 = f.toNat by omega)]
  · show (if (g * 8 + o) / 8 = f.toNat then (0 : Int) else s.W _) = 0
    by_cases e : g = f.toNat
    · rw [if_pos (by omega)]
    · rw [if_neg (by omega)]
      refine h0 g g0 g1 ?_ o ho
      have : (if g = f.toNat then (0 : Int) else s.C g) = 0 := hc
      rwa [if_neg e] at this
  · unfold rgive; rw [if_pos (by omega), hr]; rfl

theorem give_all : ∀ (L : List Int) (R : Nat → Int) (s : MS), s.n ≤ 64 → (∀ f ∈ L, s.had f ∧ R f.toNat = 1) → L.Nodup → (∀ j, R j ≤ 1) → s.free0 →
    (giveL R s L).2.n = s.n ∧ (giveL R s L).2.left = s.left + L.length ∧ (∀ g, s.had g → g ∉ L → (giveL R s L).2.had g ∧ (giveL R s L).1 g.toNat = R g.toNat) ∧
      (∀ g m : Int, s.had g → g ∉ L → 0 ≤ m → m < 8 → (giveL R s L).2.rd (g * 8 + m) = s.rd (g * 8 + m)) ∧ (giveL R s L).2.free0 ∧ ∀ j, (giveL R s L).1 j ≤ 1
  | [], R, s, hn, _, _, hb, h0 => ⟨rfl, rfl, fun _ h _ => ⟨h, rfl⟩, fun _ _ _ _ _ _ => rfl, h0, hb⟩
  | f :: L, R, s, hn, hL, hd, hb, h0 => by
    obtain ⟨hf, h1⟩ := hL f (List.mem_cons_self ..)
    obtain ⟨g1, g2, g3, g4, g5, g6⟩ := given_one hn hf h1
    obtain ⟨d1, d2⟩ := List.nodup_cons.1 hd
    have hne : ∀ g ∈ L, g ≠ f := fun g hg e => d1 (e ▸ hg)
    have e : giveL R s (f :: L) = giveL (rset R f 0) (s.given R f) L := by rw [← g6]; rfl
    have rne : ∀ g, s.had g → g ≠ f → rset R f 0 g.toNat = R g.toNat := fun g hg h => by
      unfold rset; rw [if_neg (by have := hg.1; have := hf.1; omega)]
    obtain ⟨i1, i2, i3, i4, i5, i6⟩ := give_all L (rset R f 0) (s.given R f) (by rw [g1]; exact hn) (fun g hg => ⟨g3 g (hL g (List.mem_cons_of_mem _ hg)).1 (hne g hg), by rw [rne g (hL g (List.mem_cons_of_mem _ hg)).1 (hne g hg)]; exact (hL g (List.mem_cons_of_mem _ hg)).2⟩) d2
      (fun j => by unfold rset; split; decide; exact hb j) (g5 h0)
    rw [e]
    refine ⟨i1.trans g1, by rw [i2, g2, List.length_cons]; omega, fun g hg hm => ?_, fun g m hg hm m0 m1 => ?_, i5, i6⟩
    · rw [List.mem_cons, not_or] at hm
      obtain ⟨k1, k2⟩ := i3 g (g3 g hg hm.1) hm.2
      exact ⟨k1, k2.trans (rne g hg hm.1)⟩
    · rw [List.mem_cons, not_or] at hm
      rw [i4 g m (g3 g hg hm.1) hm.2 m0 m1, g4 g m (by have := hg.1; omega) hm.1 m0 m1]

/-- The first one given back. -/
theorem Two.drop {A B : SS} {R : Nat → Int} {s : MS} (h : Two A B R s) :
    YInv ⟨B, (giveL R s A.stab).1, (giveL R s A.stab).2⟩ ∧ (∀ f, B.its f → (giveL R s A.stab).1 f.toNat = 1) ∧ (∀ j, (giveL R s A.stab).1 j ≤ 1) ∧ (giveL R s A.stab).2.left = s.left + A.tabs.length ∧ ∀ P, getP B (giveL R s A.stab).2 P = getP B s P := by
  obtain ⟨i1, i2, i3, i4, i5, i6⟩ := give_all A.stab R s h.a.n64 (fun f hf => ⟨h.a.itsHad (tabs_its hf), h.r f (Or.inl (tabs_its hf))⟩) (stab_nodup A) h.bd h.a.free0
  have hno : ∀ f, B.its f → f ∉ A.stab := fun f hB hm => h.ap f (tabs_its hm) hB
  have hitsB : ∀ f, B.its f → (giveL R s A.stab).2.had f := fun f hf => (i3 f (h.b.itsHad hf) (hno f hf)).1
  have hb := h.b
  have k0 : B.kern ≠ 0 := by have := hb.kern.1; dsimp only at this; omega
  have u0 : B.user ≠ 0 := by have := hb.user.1; dsimp only at this; omega
  refine ⟨⟨by rw [i1]; exact hb.n64, hitsB _ ⟨k0, Or.inl rfl⟩, hitsB _ ⟨u0, Or.inr (Or.inl rfl)⟩, fun i => ?_, fun k => ?_, hb.upNe, hb.laNe, hb.upla, hb.upR, hb.laR, hb.laUp, i5⟩, fun f hf => ?_, i6, by rw [i2, stab_len], fun P => getP_other hb (fun g m hi m0 m1 => i4 g m (h.b.itsHad hi) (hno g hi) m0 m1) P⟩
  · by_cases e : B.up i = 0
    · exact Or.inl e
    · exact Or.inr (hitsB _ ⟨e, Or.inr (Or.inr (Or.inl ⟨i, rfl⟩))⟩)
  · by_cases e : B.la k = 0
    · exact Or.inl e
    · exact Or.inr (hitsB _ ⟨e, Or.inr (Or.inr (Or.inr ⟨k, rfl⟩))⟩)
  · rw [(i3 f (h.b.itsHad hf) (hno f hf)).2]; exact h.r f (Or.inr hf)
/-- A space alone given back. -/
theorem YInv.drop {B : SS} {R : Nat → Int} {s : MS} (h : YInv ⟨B, R, s⟩) (h1 : ∀ f, B.its f → R f.toNat = 1) (hb : ∀ j, R j ≤ 1) : (giveL R s B.stab).2.left = s.left + B.tabs.length := by
  obtain ⟨_, i2, _⟩ := give_all B.stab R s h.n64 (fun f hf => ⟨h.itsHad (tabs_its hf), h1 f (tabs_its hf)⟩) (stab_nodup B) hb h.free0
  rw [i2, stab_len]

/-- Two spaces in the memory of 64 frames. -/
abbrev z64 (k : Bool) : YS := YS.new 1 k (y64 k).R (y64 k).s
theorem z64_S (k : Bool) : (z64 k).S = ⟨1, if k = true then 17 else 16, if k = true then 18 else 16, fun _ => 0, fun _ => 0⟩ := by cases k <;> kernel_rfl
theorem z64_left (k : Bool) : (z64 k).s.left = (if k = true then 45 else 47) := by cases k <;> decide +kernel
theorem y64_two (k : Bool) : (if k = true then 2 else 1) ≤ (y64 k).s.left := by cases k <;> decide +kernel
theorem up64_all (k : Bool) : (MS.up 64 k).left = 49 := by cases k <;> decide +kernel
theorem z64_n (k : Bool) : (z64 k).s.n = 64 := by cases k <;> decide +kernel
theorem z64_tabs (k : Bool) : (y64 k).S.tabs.length = (if k = true then 2 else 1) ∧ (z64 k).S.tabs.length = (if k = true then 2 else 1) := by
  rw [y64_S, z64_S]; cases k <;> exact ⟨by decide +kernel, by decide +kernel⟩
theorem new_inv {S : SS} {R : Nat → Int} {s : MS} (hn : s.n = 64) (hu : S.up = fun _ => 0) (hl : S.la = fun _ => 0) (hk : s.had S.kern) (hus : s.had S.user) (hC : ∀ f < 64, 15 ≤ f → s.C f = 0 → ∀ o < 8, s.W (f * 8 + o) = 0) : YInv ⟨S, R, s⟩ := by
  have k0 := hk.1
  have u0 := hus.1
  have eu : ∀ i, S.up i = 0 := fun i => by rw [hu]
  have el : ∀ i, S.la i = 0 := fun i => by rw [hl]
  exact ⟨by show s.n ≤ 64; omega, hk, hus, fun i => Or.inl (eu i), fun i => Or.inl (el i), fun i j h => absurd (eu i) h, fun i j h => absurd (el i) h, fun i j h => absurd (eu i) h, fun i => by
      dsimp only; rw [eu]; omega, fun i => by dsimp only; rw [el]; omega, fun j h => absurd (el j) h, fun f f0 f1 c o ho => hC f (by dsimp only at f1; omega) f0 c o ho⟩
theorem z64_two (k : Bool) : Two (y64 k).S (z64 k).S (z64 k).R (z64 k).s := by
  have hn := z64_n k
  have hC : ∀ f < 64, 15 ≤ f → (z64 k).s.C f = 0 → ∀ o < 8, (z64 k).s.W (f * 8 + o) = 0 := by cases k <;> decide +kernel
  have hc : ∀ f < 19, 15 ≤ f → f < (if k = true then 19 else 17) → (z64 k).s.C f ≠ 0 := by cases k <;> decide +kernel
  have hr : ∀ f < 19, 15 ≤ f → f < (if k = true then 19 else 17) → (z64 k).R f = 1 := by cases k <;> decide +kernel
  have hb : ∀ j, (z64 k).R j ≤ 1 := by
    intro j
    by_cases e : j < 19
    · have : ∀ j < 19, (z64 k).R j ≤ 1 := by cases k <;> decide +kernel
      exact this j e
    · have hl1 : (MS.up 64 k).least = 15 := by cases k <;> decide +kernel
      cases k <;> (simp only [z64, y64, YS.new, if_true, Bool.false_eq_true, if_false]; unfold rset; repeat' split) <;> first | exact Int.le_refl 1 | exact (by decide : (0 : Int) ≤ 1)
  have had : ∀ f : Int, 15 ≤ f → f < (if k = true then 19 else 17) → (z64 k).s.had f := fun f f0 f1 => by
    have f2 : f < 19 := by cases k <;> simp at f1 <;> omega
    refine ⟨f0, by rw [hn]; omega, hc f.toNat (by omega) (by omega) ?_⟩
    cases k <;> simp at f1 ⊢ <;> omega
  have iA : ∀ f, (y64 k).S.its f → 15 ≤ f ∧ f < (if k = true then 17 else 16) := by
    rintro f ⟨h0, h⟩
    rw [y64_S] at h
    dsimp only at h
    rcases h with h | h | ⟨_, h⟩ | ⟨_, h⟩
    · subst h; cases k <;> decide
    · subst h; cases k <;> decide
    · exact absurd h h0
    · exact absurd h h0
  have iB : ∀ f, (z64 k).S.its f → (if k = true then 17 else 16) ≤ f ∧ f < (if k = true then 19 else 17) := by
    rintro f ⟨h0, h⟩
    rw [z64_S] at h
    dsimp only at h
    rcases h with h | h | ⟨_, h⟩ | ⟨_, h⟩
    · subst h; cases k <;> decide
    · subst h; cases k <;> decide
    · exact absurd h h0
    · exact absurd h h0
  refine ⟨new_inv hn (by rw [y64_S]) (by rw [y64_S]) (had _ ?_ ?_) (had _ ?_ ?_) hC, new_inv hn (by rw [z64_S]) (by rw [z64_S]) (had _ ?_ ?_) (had _ ?_ ?_) hC, fun f ha hb => ?_, fun f hf => ?_, hb⟩
  · rw [y64_S]; exact Int.le_refl 15
  · rw [y64_S]; cases k <;> decide
  · rw [y64_S]; cases k <;> decide
  · rw [y64_S]; cases k <;> decide
  · rw [z64_S]; cases k <;> decide
  · rw [z64_S]; cases k <;> decide
  · rw [z64_S]; cases k <;> decide
  · rw [z64_S]; cases k <;> decide
  · have h1 := iA f ha
    have h2 := iB f hb
    omega
  · have h3 : 15 ≤ f ∧ f < (if k = true then 19 else 17) := by
      rcases hf with hf | hf
      · have := iA f hf; cases k <;> simp at this ⊢ <;> omega
      · have := iB f hf; cases k <;> simp at this ⊢ <;> omega
    refine hr f.toNat ?_ (by omega) ?_ <;> cases k <;> simp at h3 ⊢ <;> omega
end Go.Proofs.Ytoododpeoffieaa
/-
  A process's tables: where each page's word lies, by the tables' words (plain; for the document's space).
-/
namespace Go.Proofs.Ytoododpeoffieaa
open Go.ChangeShapes Go.WideShapes Go.ChangeAt Go.RowKit

/-- Each upper table, each last one is told by the words above it. -/
structure VInv (y : YS) : Prop where
  ku : ∀ i : Nat, i < 4 → Leads (y.s.rd (y.S.user * 8 + i)) (y.S.up i)
  ul : ∀ i j : Nat, i < 4 → j < 8 → y.S.up i ≠ 0 → Leads (y.s.rd (y.S.up i * 8 + j)) (y.S.la (i * 8 + j))
theorem VInv.way {y : YS} (h : VInv y) {p : Int} (p0 : 0 ≤ p) (p1 : p < 256) : Way y.s y.S.user p (y.S.up (p / 64).toNat) (y.S.la (pk p)) := by
  refine ⟨?_, fun ht => ?_⟩
  · have := h.ku (p / 64).toNat (by omega)
    rwa [show (((p / 64).toNat : Nat) : Int) = p / 64 by omega] at this
  · have := h.ul (p / 64).toNat (p / 8 % 8).toNat (by omega) (by omega) ht
    rwa [show (((p / 8 % 8).toNat : Nat) : Int) = p / 8 % 8 by omega] at this
theorem leads_opn {f : Int} (h0 : 0 ≤ f) (h1 : f < 64) : Leads (opn f) f := Or.inr ⟨true, true, false, rfl, h0, h1⟩
theorem free_rd {y : YS} (h : YInv y) {f : Nat} (hL : Least y.s f) {j : Int} (j0 : 0 ≤ j) (j1 : j < 8) : y.s.rd ((f : Int) * 8 + j) = 0 := by
  have := h.free0 f hL.lo hL.hi hL.free j.toNat (by omega)
  unfold MS.rd
  split
  · rw [show ((f : Int) * 8 + j).toNat = f * 8 + j.toNat by omega]; exact this
  · rfl
theorem VInv.up1 {y : YS} (v : VInv y) (h : YInv y) (i : Nat) (hi : i < 4) (hl : y.S.up i = 0 → 1 ≤ y.s.left) : VInv (y.up1 i) := by
  by_cases h0 : y.S.up i = 0
  · have hL := least_left (hl h0)
    have hup : y.up1 i = ⟨y.S.setUp i y.s.least, rset y.R y.s.least 1, (y.s.mark y.s.least 1 y.S.own).roots y.S i y.s.least⟩ := by unfold YS.up1; rw [if_pos h0]
    have hrd := fun g m (hg : 0 ≤ g) (m0 : 0 ≤ m) (m1 : m < 8) (hk : g ≠ y.S.kern) (hu : g ≠ y.S.user) => up1_rd (m := m) h i (by omega) hg ⟨m0, m1⟩ hk hu
    rw [hup] at hrd ⊢
    have k0 := h.kern
    have u0 := h.user
    have hfr := fun j (j0 : 0 ≤ j) (j1 : j < 8) => free_rd h hL (j := j) j0 j1
    have neK := least_ne hL (Or.inr h.kern)
    have neU := least_ne hL (Or.inr h.user)
    have hf64 : (y.s.least : Int) < 64 := by have := hL.hi; have := h.n64; omega
    generalize y.s.least = f at *
    have hn : (y.s.mark (f : Int) 1 y.S.own).n = y.s.n := MS.mark_n _ _ _ _
    obtain ⟨k15, kn, _⟩ := k0
    obtain ⟨u15, un, _⟩ := u0
    refine ⟨fun i' hi' => ?_, fun i' j hi' hj hne => ?_⟩
    · show Leads ((MS.roots _ _ _ _).rd (y.S.user * 8 + i')) ((y.S.setUp i f).up i')
      simp only [SS.setUp]
      unfold MS.roots
      by_cases e : i' = i
      · subst e
        rw [if_pos rfl, rd_write ((MS.hasW_iff _ _).2 (by rw [MS.write_n, hn]; omega))]
        exact leads_opn (by omega) hf64
      · rw [if_neg e, rd_other (by omega) (by omega) (by omega), rd_other (by omega) (by omega) (by omega), mark_rd]
        exact v.ku i' hi'
    · have hne' : (if i' = i then (f : Int) else y.S.up i') ≠ 0 := hne
      show Leads ((MS.roots _ _ _ _).rd ((if i' = i then (f : Int) else y.S.up i') * 8 + j)) (y.S.la (i' * 8 + j))
      by_cases e : i' = i
      · subst e
        rw [if_pos rfl, hrd _ _ (by omega) (by omega) (by omega) neK neU, hfr _ (by omega) (by omega)]
        have : y.S.la (i' * 8 + j) = 0 := by
          by_cases e : y.S.la (i' * 8 + j) = 0
          · exact e
          · have := h.laUp _ e
            rw [show (i' * 8 + j) / 8 = i' by omega] at this
            exact absurd h0 this
        exact Or.inl ⟨rfl, this⟩
      · rw [if_neg e] at hne' ⊢
        have hu := (h.up i').resolve_left hne'
        rw [hrd _ _ (by have := hu.1; omega) (by omega) (by omega) (h.upR i').1 (h.upR i').2]
        exact v.ul i' j hi' hj hne'
  · have hup : y.up1 i = y := by unfold YS.up1; rw [if_neg h0]
    rw [hup]; exact v
theorem VInv.la1 {y : YS} (v : VInv y) (h : YInv y) (i j : Nat) (hi : i < 4) (hj : j < 8) (hu : y.S.up i ≠ 0) (hl : y.S.la (i * 8 + j) = 0 → 1 ≤ y.s.left) : VInv (y.la1 i j) := by
  by_cases h0 : y.S.la (i * 8 + j) = 0
  · have hL := least_left (hl h0)
    have hup : y.la1 i j = ⟨y.S.setLa (i * 8 + j) y.s.least, rset y.R y.s.least 1, (y.s.mark y.s.least 1 y.S.own).write (y.S.up i * 8 + j) (opn y.s.least)⟩ := by unfold YS.la1; rw [if_pos h0]
    rw [hup]
    have hf64 : (y.s.least : Int) < 64 := by have := hL.hi; have := h.n64; omega
    have hn : ∀ f : Nat, (y.s.mark (f : Int) 1 y.S.own).n = y.s.n := fun f => MS.mark_n _ _ _ _
    generalize y.s.least = f at *
    obtain ⟨t15, tn, _⟩ := (h.up i).resolve_left hu
    obtain ⟨u15, un, _⟩ := h.user
    have hUu := (h.upR i).2
    refine ⟨fun i' hi' => ?_, fun i' j' hi' hj' hne => ?_⟩
    · show Leads ((MS.write _ _ _).rd (y.S.user * 8 + i')) (y.S.up i')
      rw [rd_other (by omega) (by omega) (by omega), mark_rd]
      exact v.ku i' hi'
    · show Leads ((MS.write _ _ _).rd (y.S.up i' * 8 + j')) ((y.S.setLa (i * 8 + j) f).la (i' * 8 + j'))
      have hne' : y.S.up i' ≠ 0 := hne
      obtain ⟨s15, sn, _⟩ := (h.up i').resolve_left hne'
      simp only [SS.setLa]
      by_cases e : i' * 8 + j' = i * 8 + j
      · obtain rfl : i' = i := by omega
        obtain rfl : j' = j := by omega
        rw [if_pos rfl, rd_write ((MS.hasW_iff _ _).2 (by rw [hn]; omega))]
        exact leads_opn (by omega) hf64
      · have hx : y.S.up i' * 8 + j' ≠ y.S.up i * 8 + j := by
          by_cases e2 : i' = i
          · subst e2; omega
          · have : y.S.up i' ≠ y.S.up i := fun e3 => e2 (h.upNe i' i hne' e3)
            omega
        rw [if_neg e, rd_other (by omega) (by omega) hx, mark_rd]
        exact v.ul i' j' hi' hj' hne'
  · have hup : y.la1 i j = y := by unfold YS.la1; rw [if_neg h0]
    rw [hup]; exact v
theorem VInv.put {y : YS} (v : VInv y) (h : YInv y) {k : Nat} (hk : y.S.la k ≠ 0) {m : Int} (m0 : 0 ≤ m) (m1 : m < 8) (x : Int) : VInv ⟨y.S, y.R, y.s.write (y.S.la k * 8 + m) x⟩ := by
  obtain ⟨t15, tn, _⟩ := (h.la k).resolve_left hk
  obtain ⟨u15, un, _⟩ := h.user
  have hU := (h.laR k).2
  refine ⟨fun i' hi' => ?_, fun i' j' hi' hj' hne => ?_⟩
  · show Leads ((MS.write _ _ _).rd (y.S.user * 8 + i')) (y.S.up i')
    rw [rd_other (by omega) (by omega) (by omega)]
    exact v.ku i' hi'
  · have hne' : y.S.up i' ≠ 0 := hne
    obtain ⟨s15, sn, _⟩ := (h.up i').resolve_left hne'
    have := h.upla i' k hne'
    show Leads ((MS.write _ _ _).rd (y.S.up i' * 8 + j')) (y.S.la (i' * 8 + j'))
    rw [rd_other (by omega) (by omega) (by omega)]
    exact v.ul i' j' hi' hj' hne'
/-- A space that is not touched. -/
theorem VInv.other {y z : YS} {B : SS} (g : Grow y z) (hb : YInv ⟨B, y.R, y.s⟩) (v : VInv ⟨B, y.R, y.s⟩) (ap : ∀ f, y.S.its f → ¬ B.its f) : VInv ⟨B, z.R, z.s⟩ := by
  have hrd : ∀ f m : Int, B.its f → 0 ≤ m → m < 8 → z.s.rd (f * 8 + m) = y.s.rd (f * 8 + m) := fun f m hf m0 m1 => g.rd f m (hb.itsHad hf) (fun e => ap f e hf) m0 m1
  have u0 : B.user ≠ 0 := by have : 15 ≤ B.user := hb.user.1; omega
  refine ⟨fun i hi => ?_, fun i j hi hj hne => ?_⟩
  · show Leads (z.s.rd (B.user * 8 + i)) (B.up i)
    rw [hrd _ _ ⟨u0, Or.inr (Or.inl rfl)⟩ (by omega) (by omega)]
    exact v.ku i hi
  · show Leads (z.s.rd (B.up i * 8 + j)) (B.la (i * 8 + j))
    rw [hrd _ _ ⟨hne, Or.inr (Or.inr (Or.inl ⟨i, rfl⟩))⟩ (by omega) (by omega)]
    exact v.ul i j hi hj hne
end Go.Proofs.Ytoododpeoffieaa
/-
  A new space at whatever state of the pool, plain: what it is, and that all else is as it was.
-/
namespace Go.Proofs.Ytoododpeoffieaa
open Go.ChangeShapes Go.WideShapes Go.ChangeAt Go.RowKit

theorem free_rd' {s : MS} (h0 : s.free0) {f : Nat} (hL : Least s f) {j : Int} (j0 : 0 ≤ j) (j1 : j < 8) : s.rd ((f : Int) * 8 + j) = 0 := by
  have := h0 f hL.lo hL.hi hL.free j.toNat (by omega)
  unfold MS.rd
  split
  · rw [show ((f : Int) * 8 + j).toNat = f * 8 + j.toNat by omega]; exact this
  · rfl
/-- No table at all. -/
def SS.nil (own : Int) : SS := ⟨own, 0, 0, fun _ => 0, fun _ => 0⟩
theorem nil_its (own f : Int) : ¬ (SS.nil own).its f := by
  rintro ⟨h0, h | h | ⟨i, h⟩ | ⟨i, h⟩⟩ <;> exact h0 h
/-- What a new one is made of: its roots k, u (one, without KPTI), the memory s2 where both are marked. -/
structure NewM (own : Int) (R : Nat → Int) (s : MS) (k u : Int) (R2 : Nat → Int) (s2 : MS) : Prop where
  n : s2.n = s.n
  had : ∀ g, s.had g → s2.had g
  rd : ∀ a, s2.rd a = s.rd a
  hk : s2.had k
  hu : s2.had u
  nk : ¬ s.had k
  nu : ¬ s.had u
  r : ∀ f, s.had f → R2 f.toNat = R f.toNat
  rk : R2 k.toNat = 1
  ru : R2 u.toNat = 1
  bd : (∀ j, R j ≤ 1) → ∀ j, R2 j ≤ 1
  few : Few s.n R → Few s.n R2
  f0 : s.free0 → s2.free0
  zu : s.free0 → ∀ j : Int, 0 ≤ j → j < 8 → s.rd (u * 8 + j) = 0
theorem few_rset {n : Nat} {R : Nat → Int} (h : Few n R) {f : Nat} (hf : f < n) : Few n (rset R (f : Int) 1) := by
  refine ⟨fun i => ?_, fun i hi => ?_⟩
  · unfold rset; split
    · decide
    · exact h.1 i
  · unfold rset; rw [if_neg (by simp; omega)]; exact h.2 i hi
theorem newM_one (own : Int) (R : Nat → Int) {s : MS} (hl : 1 ≤ s.left) : NewM own R s s.least s.least (rset R s.least 1) (s.mark s.least 1 own) := by
  have hL := least_left hl
  generalize s.least = f at *
  refine ⟨MS.mark_n _ _ _ _, fun g hg => mark_had hg _ (by decide), fun a => mark_rd _ _ _ _ _, mark_new hL _, mark_new hL _, least_nohad hL, least_nohad hL, fun g hg => rset_of _ _ _ _ (had_ne hL hg), ?_, ?_, fun h => rset_bd h _, fun h => few_rset h hL.hi, fun h => mark_free (by decide) h, fun h j j0 j1 => free_rd' h hL j0 j1⟩
  · unfold rset; rw [if_pos rfl]
  · unfold rset; rw [if_pos rfl]
theorem newM_two (own : Int) (R : Nat → Int) {s : MS} (hl : 2 ≤ s.left) : NewM own R s s.least (s.mark s.least 1 own).least (rset (rset R s.least 1) (s.mark s.least 1 own).least 1) ((s.mark s.least 1 own).mark (s.mark s.least 1 own).least 1 own) := by
  have A := newM_one own R (s := s) (by omega)
  have h1 := mark_left (least_left (s := s) (by omega)) own
  have hL := least_left (s := s.mark s.least 1 own) (by omega)
  have B := newM_one own (rset R s.least 1) (s := s.mark s.least 1 own) (by omega)
  generalize s.mark s.least 1 own = s1 at *
  have ne := had_ne hL A.hk
  have nn := A.n
  refine ⟨B.n.trans A.n, fun g hg => B.had g (A.had g hg), fun a => (B.rd a).trans (A.rd a), B.had _ A.hk, B.hk, A.nk, fun h => B.nk (A.had _ h), fun f hf => (B.r f (A.had f hf)).trans (A.r f hf), (B.r _ A.hk).trans A.rk, B.rk, fun h => B.bd (A.bd h), fun h => ?_, fun h => B.f0 (A.f0 h), fun h j j0 j1 => ?_⟩
  · have := B.few (by rw [nn]; exact A.few h); rwa [nn] at this
  · have := free_rd' (A.f0 h) hL j0 j1
    rw [A.rd] at this; exact this
/-- Behind the three words that a new one's roots get. -/
theorem new_of {own : Int} {R : Nat → Int} {s : MS} {k u : Int} {R2 : Nat → Int} {s2 : MS} (h : NewM own R s k u R2 s2) (n64 : s.n ≤ 64) (h0 : s.free0) :
    YInv ⟨⟨own, k, u, fun _ => 0, fun _ => 0⟩, R2, (s2.write (k * 8 + 4) (packV true false false 3)).roots ⟨own, k, u, fun _ => 0, fun _ => 0⟩ 7 13⟩ ∧
    VInv ⟨⟨own, k, u, fun _ => 0, fun _ => 0⟩, R2, (s2.write (k * 8 + 4) (packV true false false 3)).roots ⟨own, k, u, fun _ => 0, fun _ => 0⟩ 7 13⟩ ∧
    Grow ⟨SS.nil own, R, s⟩ ⟨⟨own, k, u, fun _ => 0, fun _ => 0⟩, R2, (s2.write (k * 8 + 4) (packV true false false 3)).roots ⟨own, k, u, fun _ => 0, fun _ => 0⟩ 7 13⟩ := by
  have k15 := h.hk.1
  have u15 := h.hu.1
  have nn := h.n
  refine ⟨⟨?_, had_write (had_write (had_write h.hk _ _) _ _) _ _, had_write (had_write (had_write h.hu _ _) _ _) _ _, fun i => Or.inl rfl, fun i => Or.inl rfl, fun i j e => absurd rfl e, fun i j e => absurd rfl e, fun i j e => absurd rfl e, fun i => ⟨?_, ?_⟩, fun i => ⟨?_, ?_⟩, fun i e => absurd rfl e, ?_⟩, ⟨fun i hi => ?_, fun i j hi hj e => absurd rfl e⟩, ⟨?_, fun g hg => had_write (had_write (had_write (h.had g hg) _ _) _ _) _ _, fun g m hg _ m0 m1 => ?_, fun f hf => Or.inr ?_, fun f hf => h.r f hf, fun f hf _ => ?_, fun hb => h.bd hb⟩⟩
  · show (MS.roots _ _ _ _).n ≤ 64
    rw [roots_n, MS.write_n, nn]; exact n64
  · show (0 : Int) ≠ k; omega
  · show (0 : Int) ≠ u; omega
  · show (0 : Int) ≠ k; omega
  · show (0 : Int) ≠ u; omega
  · have w1 := write_free (x := packV true false false 3) (o := 4) h.hk ⟨by omega, by omega⟩ (h.f0 h0)
    have w2 := write_free (x := opn 13) (o := 7) (had_write h.hk (k * 8 + 4) (packV true false false 3)) ⟨by omega, by omega⟩ w1
    exact write_free (x := opn 13) (o := 7) (had_write (had_write h.hu (k * 8 + 4) (packV true false false 3)) (k * 8 + 7) (opn 13)) ⟨by omega, by omega⟩ w2
  · show Leads ((((s2.write _ _).write (k * 8 + 7) _).write (u * 8 + 7) _).rd (u * 8 + (i : Int))) 0
    rw [rd_other (by omega) (by omega) (by omega), rd_other (by omega) (by omega) (by omega), rd_other (by omega) (by omega) (by omega), h.rd, h.zu h0 _ (by omega) (by omega)]
    exact Or.inl ⟨rfl, rfl⟩
  · show (MS.roots _ _ _ _).n = s.n
    rw [roots_n, MS.write_n, nn]
  · have hg' : s.had g := hg
    have g15 := hg'.1
    have nk : g ≠ k := fun e => h.nk (e ▸ hg')
    have nu : g ≠ u := fun e => h.nu (e ▸ hg')
    show (((s2.write _ _).write (k * 8 + 7) _).write (u * 8 + 7) _).rd (g * 8 + m) = s.rd (g * 8 + m)
    rw [rd_other (by omega) (by omega) (by omega), rd_other (by omega) (by omega) (by omega), rd_other (by omega) (by omega) (by omega), h.rd]
  · obtain ⟨f0, e | e | ⟨i, e⟩ | ⟨i, e⟩⟩ := hf
    · intro hh; have e' : f = k := e; exact h.nk (e' ▸ hh)
    · intro hh; have e' : f = u := e; exact h.nu (e' ▸ hh)
    · exact absurd e f0
    · exact absurd e f0
  · obtain ⟨f0, e | e | ⟨i, e⟩ | ⟨i, e⟩⟩ := hf
    · rw [e]; exact h.rk
    · rw [e]; exact h.ru
    · exact absurd e f0
    · exact absurd e f0
theorem new_facts (own : Int) (kpti : Bool) {R : Nat → Int} {s : MS} (n64 : s.n ≤ 64) (h0 : s.free0) (hl : (if kpti = true then 2 else 1) ≤ s.left) :
    YInv (YS.new own kpti R s) ∧ VInv (YS.new own kpti R s) ∧ Grow ⟨SS.nil own, R, s⟩ (YS.new own kpti R s) ∧ (Few s.n R → Few s.n (YS.new own kpti R s).R) := by
  cases kpti
  · have h := newM_one own R (s := s) (by simpa using hl)
    obtain ⟨a, b, c⟩ := new_of h n64 h0
    exact ⟨a, b, c, h.few⟩
  · have h := newM_two own R (s := s) (by simpa using hl)
    obtain ⟨a, b, c⟩ := new_of h n64 h0
    exact ⟨a, b, c, h.few⟩
end Go.Proofs.Ytoododpeoffieaa
/-
  A process's tables: VInv behind a whole set (plain).
-/
namespace Go.Proofs.Ytoododpeoffieaa
open Go.ChangeShapes Go.WideShapes Go.ChangeAt Go.RowKit

theorem VInv.set {y : YS} (v : VInv y) (h : YInv y) {page : Int} (hm : y.may page = true) (x : Int) : VInv (y.set page x) := by
  have hp : y.S.hasP page = true := by simp only [YS.may, Bool.and_eq_true] at hm; exact hm.1
  obtain ⟨_, p0, p1⟩ := (hasP_iff _ _).1 hp
  have hu := may_up hm
  have hl := may_la hm
  have i4 : (page / 64).toNat < 4 := by omega
  have j8 : (page / 8 % 8).toNat < 8 := by omega
  have h1 := h.up1 _ (by omega) hu
  have hup1 := up1_up hu h.n64
  have h2 := h1.la1 _ _ j8 hup1 hl
  have hla2 := la1_la hl (by rw [up1_n]; exact h.n64)
  have v1 := v.up1 h _ i4 hu
  have v2 := v1.la1 h1 _ _ i4 j8 hup1 hl
  exact v2.put h2 hla2 (m := page % 8) (by omega) (by omega) x
end Go.Proofs.Ytoododpeoffieaa
/-
  The document's own space (penumbraref17): what some pages need.
-/
namespace Go.Proofs.Ytoododpeoffieaa
open Go.ChangeShapes Go.WideShapes Go.ChangeAt Go.RowKit Go.Maps

/-- What two maps tell of the tables that some pages lack. -/
structure NdM (S : SS) (a : TT × Nat) (Du Dl : DataW Unit) : Prop where
  u : ∀ i : Nat, i < 4 → (Maps.has Du (.int .i64 (i : Int)) = true ↔ S.up i = 0 ∧ a.1.up i ≠ 0)
  l : ∀ k : Nat, k < 32 → (Maps.has Dl (.int .i64 (k : Int)) = true ↔ S.la k = 0 ∧ a.1.la k ≠ 0)
  ku : ∀ i : Nat, S.up i ≠ 0 → a.1.up i ≠ 0
  kl : ∀ k : Nat, S.la k ≠ 0 → a.1.la k ≠ 0
  sz : Maps.size Du + Maps.size Dl = a.2
theorem NdM.start (S : SS) : NdM S (S.tt, 0) (.map []) (.map []) :=
  ⟨fun _ _ => ⟨fun h => (by cases h), fun h => (h.2 h.1).elim⟩, fun _ _ => ⟨fun h => (by cases h), fun h => (h.2 h.1).elim⟩, fun _ h => h, fun _ h => h, rfl⟩
/-- A page more. -/
theorem NdM.step {S : SS} {a : TT × Nat} {Du Dl : DataW Unit} (h : NdM S a Du Dl) (tu : Tidy Du) (tl : Tidy Dl) (hk : S.kern ≠ 0) {p : Int} (p0 : 0 ≤ p) (p1 : p < 256) :
    NdM S (needS S a p) (if S.up (p / 64).toNat = 0 then Du.put (.int .i64 (p / 64)) (.lit (.bool true)) else Du) (if S.la (pk p) = 0 then Dl.put (.int .i64 (p / 8)) (.lit (.bool true)) else Dl) := by
  have hp : S.hasP p = true := (hasP_iff _ _).2 ⟨hk, p0, p1⟩
  have hn : needS S a p = (a.1.fill (p / 64).toNat (p / 8 % 8).toNat, a.2 + a.1.lack (p / 64).toNat (p / 8 % 8).toNat) := by unfold needS; rw [if_pos hp]
  obtain ⟨I, hI⟩ : ∃ I, (p / 64).toNat = I := ⟨_, rfl⟩
  obtain ⟨J, hJ⟩ : ∃ J, (p / 8 % 8).toNat = J := ⟨_, rfl⟩
  have hK : pk p = I * 8 + J := by unfold pk; rw [hI, hJ]
  have e64 : p / 64 = (I : Int) := by omega
  have e8 : p / 8 = ((I * 8 + J : Nat) : Int) := by omega
  have i4 : I < 4 := by omega
  have k32 : I * 8 + J < 32 := by omega
  rw [hn, hI, hJ, hK, e64, e8]
  clear hn hI hJ hK e64 e8 hp
  generalize hKK : I * 8 + J = K at *
  refine ⟨fun i hi => ?_, fun k hk' => ?_, fun i hi => ?_, fun k hk' => ?_, ?_⟩
  · have e1 : (a.1.fill I J).up i ≠ 0 ↔ i = I ∨ a.1.up i ≠ 0 := by
      simp only [TT.fill]
      by_cases e : i = I
      · subst e
        rw [if_pos rfl]
        by_cases h1 : a.1.up i = 0 <;> simp [h1]
      · rw [if_neg e]; simp [e]
    show _ ↔ S.up i = 0 ∧ (a.1.fill I J).up i ≠ 0
    rw [e1]
    by_cases e : i = I
    · subst e
      by_cases h0 : S.up i = 0
      · rw [if_pos h0, has_put_same tu.isMap (isKeyI _)]; simp [h0]
      · rw [if_neg h0, h.u i hi]; simp [h0]
    · have hh : Maps.has (if S.up I = 0 then Du.put (.int .i64 (I : Int)) (.lit (.bool true)) else Du) (.int .i64 (i : Int)) = Maps.has Du (.int .i64 (i : Int)) := by
        by_cases h0 : S.up I = 0
        · rw [if_pos h0, has_put_other (keyI_ne (by omega))]
        · rw [if_neg h0]
      rw [hh, h.u i hi]; simp [e]
  · have e1 : (a.1.fill I J).la k ≠ 0 ↔ k = K ∨ a.1.la k ≠ 0 := by
      simp only [TT.fill, hKK]
      by_cases e : k = K
      · subst e
        rw [if_pos rfl]
        by_cases h1 : a.1.la k = 0 <;> simp [h1]
      · rw [if_neg e]; simp [e]
    show _ ↔ S.la k = 0 ∧ (a.1.fill I J).la k ≠ 0
    rw [e1]
    by_cases e : k = K
    · subst e
      by_cases h0 : S.la k = 0
      · rw [if_pos h0, has_put_same tl.isMap (isKeyI _)]; simp [h0]
      · rw [if_neg h0, h.l k hk']; simp [h0]
    · have hh : Maps.has (if S.la K = 0 then Dl.put (.int .i64 (K : Int)) (.lit (.bool true)) else Dl) (.int .i64 (k : Int)) = Maps.has Dl (.int .i64 (k : Int)) := by
        by_cases h0 : S.la K = 0
        · rw [if_pos h0, has_put_other (keyI_ne (by omega))]
        · rw [if_neg h0]
      rw [hh, h.l k hk']; simp [e]
  · simp only [TT.fill]
    split
    · split
      · decide
      · assumption
    · exact h.ku i hi
  · simp only [TT.fill]
    split
    · split
      · decide
      · assumption
    · exact h.kl k hk'
  · have sU : Maps.size (if S.up I = 0 then Du.put (.int .i64 ((I : Nat) : Int)) (.lit (.bool true)) else Du) = Maps.size Du + (if a.1.up I = 0 then 1 else 0) := by
      by_cases h0 : S.up I = 0
      · have := h.u I i4
        rw [if_pos h0, size_put tu]
        by_cases h1 : a.1.up I = 0 <;> simp [h0, h1] at this ⊢ <;> simp [this]
      · rw [if_neg h0, if_neg (h.ku I h0)]; rfl
    have sL : Maps.size (if S.la K = 0 then Dl.put (.int .i64 ((K : Nat) : Int)) (.lit (.bool true)) else Dl) = Maps.size Dl + (if a.1.la K = 0 then 1 else 0) := by
      by_cases h0 : S.la K = 0
      · have := h.l K k32
        rw [if_pos h0, size_put tl]
        by_cases h1 : a.1.la K = 0 <;> simp [h0, h1] at this ⊢ <;> simp [this]
      · rw [if_neg h0, if_neg (h.kl K h0)]; rfl
    rw [sU, sL, ← h.sz]
    simp only [TT.lack, hKK]
    omega
end Go.Proofs.Ytoododpeoffieaa
/-
  The document's own space (penumbraref17): Need.
-/
namespace Go.Proofs.Ytoododpeoffieaa
open Go.ChangeShapes Go.WideShapes Go.ChangeAt Go.RowKit Go.Maps

theorem needS_few (S : SS) : ∀ (z : List Int) (a : TT × Nat), (z.foldl (needS S) a).2 ≤ a.2 + 2 * z.length
  | [], _ => Nat.le_refl _
  | p :: z, a => by
    have := needS_few S z (needS S a p)
    have h2 : (needS S a p).2 ≤ a.2 + 2 := by
      unfold needS
      split
      · dsimp only [TT.lack]; split <;> split <;> omega
      · omega
    simp only [List.foldl_cons, List.length_cons]
    omega
theorem need_few (S : SS) (z : List Int) : S.need z ≤ 2 * z.length := by
  have := needS_few S z (S.tt, 0)
  unfold SS.need; omega
/-- What the loop keeps. -/
structure NdC (w : World) (M : Nat) (S : SS) (z : List Int) (k : Nat) (wr : World) (Du Dl : DataW Unit) : Prop where
  m : NdM S ((z.take k).foldl (needS S) (S.tt, 0)) Du Dl
  u : wr.ownsMap Try.prog 3 (plainElem Try.prog 4) M k Du
  l : wr.ownsMap Try.prog 3 (plainElem Try.prog 4) (M + 1) k Dl
  t : Touch Nil w wr
theorem NdC.nil {w wr wx : World} {M k : Nat} {S : SS} {z : List Int} {Du Dl : DataW Unit} (h : NdC w M S z k wr Du Dl) (t : Touch Nil wr wx) : NdC w M S z k wx Du Dl :=
  ⟨h.m, ownsMap_touch h.u t id, ownsMap_touch h.l t id, h.t.trans t⟩

set_option maxRecDepth 20000 in
set_option maxHeartbeats 2000000 in
theorem rneed_any {w : World} {o cw cc co : Nat} {x : RS} {y : RW} {s : MS} {S : SS} (h : RSAt w o x) (hw : RWAt w x.W y) (m : RefAt w y.b cw cc co s) (hk : S.kern ≠ 0) (hu : 0 ≤ x.user ∧ x.user < 64) (ok : S.ok) (hlu : ∀ k, S.la k ≠ 0 → S.up (k / 8) ≠ 0)
    (hway : ∀ p : Int, 0 ≤ p → p < 256 → Way s x.user p (S.up (p / 64).toNat) (S.la (pk p))) (a : Option Addr) (len cap : Nat) (z : List Int) (hz : len ≤ 100) (hr : len = 0 ∨ ∃ g o, a = some ⟨g, o, none⟩ ∧ g < w.heap.size ∧ ∀ i, i < len → w.cell? ⟨g, o + i, none⟩ = some (.int .i64 (z.getD i 0))) (hl : z.length = len) :
    Calls Try.prog 17 #[.pointer (some ⟨o, 0, none⟩), .slice a len cap] w fun e w' => e = .returned (.int .i64 (S.need z)) ∧ Touch Nil w w' := by
  have hmm := @run_makeMap Try.prog
  go_enter Try.func17, Try.ntmps17
  go_wp2_with fail
  have tM : Touch Nil w ((w.alloc (.map #[] 0)).alloc (.map #[] 0)) := ((Touch.refl Nil w).alloc _).alloc _
  have hU0 : ((w.alloc (.map #[] 0)).alloc (.map #[] 0)).ownsMap Try.prog 3 (plainElem Try.prog 4) w.heap.size 0 (.map [] : DataW Unit) :=
    ownsMap_touch (World.ownsMap_made (H := Unit) w Try.prog 3 (plainElem Try.prog 4)) ((Touch.refl Nil _).alloc _) id
  have hL0 : ((w.alloc (.map #[] 0)).alloc (.map #[] 0)).ownsMap Try.prog 3 (plainElem Try.prog 4) (w.heap.size + 1) 0 (.map [] : DataW Unit) := by
    have := World.ownsMap_made (H := Unit) (w.alloc (.map #[] 0)) Try.prog 3 (plainElem Try.prog 4)
    rwa [World.size_alloc] at this
  have how := h.lt
  have hWw := hw.lt
  generalize (w.alloc (.map #[] 0)).alloc (.map #[] 0) = W0 at *
  obtain ⟨M, hM⟩ : ∃ M, w.heap.size = M := ⟨_, rfl⟩
  rw [hM] at hU0 hL0
  have hMle : w.heap.size ≤ M := by omega
  rw [hM]
  clear hmm hM
  have hC0 : NdC w M S z 0 W0 (.map []) (.map []) := ⟨NdM.start S, hU0, hL0, tM⟩
  clear hU0 hL0 tM
  go_loopg [14] len (fun g i wr => ∃ (k : Nat) (Du Dl : DataW Unit), g + k = len ∧ i = .int .i64 k ∧ NdC w M S z k wr Du Dl)
  case atStart => exact ⟨0, _, _, by omega, rfl, hC0⟩
  case round =>
    clear hC0
    obtain ⟨k, Du, Dl, hgk, rfl, hC⟩ := hrel
    by_cases hlt : k < len
    · have k1 : (k : Int) < len := by omega
      rcases hr with hr | ⟨g, o', rfl, hgb, hcs⟩
      · omega
      have hts := take_snocI (z := z) (h := show k < z.length by omega)
      have cc : wr.cell? ⟨g, o' + k, none⟩ = some (.int .i64 (z.getD k 0)) := by
        have := hcs k hlt
        unfold World.cell? at this ⊢
        rw [hC.t.block g hgb id]; exact this
      have hfold : (z.take (k + 1)).foldl (needS S) (S.tt, 0) = needS S ((z.take k).foldl (needS S) (S.tt, 0)) (z.getD k 0) := by rw [hts, List.foldl_append]; rfl
      obtain ⟨p, hp⟩ : ∃ p, z.getD k 0 = p := ⟨_, rfl⟩
      rw [hp] at cc hfold
      clear hcs hts hp
      have hus := fun wx => ruser_any p wx
      by_cases hpg : 0 ≤ p ∧ p < 256
      · obtain ⟨p0, p1⟩ := hpg
        rw [decide_eq_true p0, decide_eq_true p1] at hus
        have hW := hway p p0 p1
        have hst := hC.m.step (hC.u.tidy lawI) (hC.l.tidy lawI) hk p0 p1
        rw [← hfold] at hst
        have h1 := h.touch hC.t id
        have hw1 := hw.touch hC.t id
        have m1 := m.touch hC.t id id id id
        have c3 := h1.userC
        have hTb := rtable_any h1 hw1 m1 (x.user * 8 + p / 64) _ hW.up
        have e6 : x.user * 8 + p / 64 = x.user * 8 + p / 64 := rfl
        have w1 : IntKind.i64.wrap (x.user * 8) = x.user * 8 := by rw [IntKind.wrap_i64]; omega
        have w2 : IntKind.i64.wrap (x.user * 8 + p / 64) = x.user * 8 + p / 64 := by rw [IntKind.wrap_i64]; omega
        have a7 := and7 (p / 8) (by omega) (by omega)
        have tb := ok.up (p / 64).toNat
        have ub := ok.la (pk p)
        have hlp : S.up (p / 64).toNat = 0 → S.la (pk p) = 0 := fun e => by
          by_cases h0 : S.la (pk p) = 0
          · exact h0
          · have := hlu _ h0; rw [pk_div] at this; exact absurd e this
        have hT2 := hW.la
        have hUo := hC.u
        have hLo := hC.l
        have hTt := hC.t
        clear hC hway hW e6
        obtain ⟨U, hU⟩ : ∃ U, x.user = U := ⟨_, rfl⟩
        obtain ⟨t, ht⟩ : ∃ t, S.up (p / 64).toNat = t := ⟨_, rfl⟩
        obtain ⟨u, hu'⟩ : ∃ u, S.la (pk p) = u := ⟨_, rfl⟩
        rw [hU] at c3 hTb w1 w2
        rw [ht] at hst hTb tb hlp hT2
        rw [hu'] at hst ub hlp hT2
        go_wp2_with fail
        with_reducible refine (hus _).mono ?_
        rintro e wq ⟨rfl, rfl⟩
        go_wp2_with fail
        with_reducible refine hTb.mono ?_
        rintro e w2' ⟨rfl, t2⟩
        have hUo2 := ownsMap_touch hUo t2 id
        have hLo2 := ownsMap_touch hLo t2 id
        have hTt2 := hTt.trans t2
        have h2 := h1.touch t2 id
        have hw2 := hw1.touch t2 id
        have m2 := m1.touch t2 id id id id
        clear hUo hLo hTt h1 hw1 m1 t2 hTb c3
        by_cases h0 : t = 0
        · have hu0 := hlp h0
          rw [if_pos h0, if_pos hu0] at hst
          clear hT2 hlp tb ub
          subst h0
          go_wp2_with (first
            | (at_mapUpdate; refine wpList_mapUpdate_own _ rfl _ _ _ 106 rfl 3 4 lawI Try.underlying106 _ M k _ rfl hUo2 (by unfold maxLen; omega) _ _ _ rfl rfl (key_I (p / 64) (by omega) (by omega)) _ [] (plainElem_bool Try.underlying4 true) ?_; intro w8 hU8 hG8; have t8 := Touch.ofGrown hG8; have hL8 := ownsMap_touch hLo2 t8 (by omega))
            | (at_mapUpdate; refine wpList_mapUpdate_own _ rfl _ _ _ 106 rfl 3 4 lawI Try.underlying106 _ (M + 1) k _ rfl hL8 (by unfold maxLen; omega) _ _ _ rfl rfl (key_I (p / 8) (by omega) (by omega)) _ [] (plainElem_bool Try.underlying4 true) ?_; intro w9 hL9 hG9)
            | go_in)
          have t9 := Touch.ofGrown hG9
          go_roundg (len - (k + 1))
          case measure => omega
          case rel => exact ⟨k + 1, _, _, by omega, by go_num, ⟨hst, ownsMap_touch hU8 t9 (by omega), hL9, (hTt2.transNew t8 (fun i hi e => by omega)).transNew t9 (fun i hi e => by omega)⟩⟩
        · have hz0 : (t == 0) = false := by simpa using h0
          rw [if_neg h0] at hst
          have hTc := rtable_any h2 hw2 m2 (t * 8 + p / 8 % 8) u (hT2 h0)
          have w3 : IntKind.i64.wrap (t * 8) = t * 8 := by rw [IntKind.wrap_i64]; omega
          have w4 : IntKind.i64.wrap (t * 8 + p / 8 % 8) = t * 8 + p / 8 % 8 := by rw [IntKind.wrap_i64]; omega
          clear hT2 hlp
          go_wp2_with fail
          with_reducible refine hTc.mono ?_
          rintro e w3' ⟨rfl, t3⟩
          have hUo3 := ownsMap_touch hUo2 t3 id
          have hLo3 := ownsMap_touch hLo2 t3 id
          have hTt3 := hTt2.trans t3
          clear hUo2 hLo2 hTt2 t3 hTc h2 hw2 m2
          by_cases h1 : u = 0
          · rw [if_pos h1] at hst
            subst h1
            go_wp2_with (first
              | (at_mapUpdate; refine wpList_mapUpdate_own _ rfl _ _ _ 106 rfl 3 4 lawI Try.underlying106 _ (M + 1) k _ rfl hLo3 (by unfold maxLen; omega) _ _ _ rfl rfl (key_I (p / 8) (by omega) (by omega)) _ [] (plainElem_bool Try.underlying4 true) ?_; intro w9 hL9 hG9)
              | go_in)
            have t9 := Touch.ofGrown hG9
            go_roundg (len - (k + 1))
            case measure => omega
            case rel => exact ⟨k + 1, _, _, by omega, by go_num, ⟨hst, (ownsMap_touch hUo3 t9 (by omega)).mono (by omega), hL9, hTt3.transNew t9 (fun i hi e => by omega)⟩⟩
          · have hz1 : (u == 0) = false := by simpa using h1
            rw [if_neg h1] at hst
            go_wp2_with fail
            go_roundg (len - (k + 1))
            case measure => omega
            case rel => exact ⟨k + 1, _, _, by omega, by go_num, ⟨hst, hUo3.mono (by omega), hLo3.mono (by omega), hTt3⟩⟩
      · have hd : (decide (0 ≤ p) && decide (p < 256)) = false := by
          rw [Bool.eq_false_iff, Ne, Bool.and_eq_true, decide_eq_true_iff, decide_eq_true_iff]; exact hpg
        rw [hd] at hus
        have hsame : needS S ((z.take k).foldl (needS S) (S.tt, 0)) p = (z.take k).foldl (needS S) (S.tt, 0) := by
          have : S.hasP p = false := by
            cases e : S.hasP p
            · rfl
            · exact absurd ((hasP_iff _ _).1 e).2 hpg
          unfold needS; rw [this]; rfl
        rw [hsame] at hfold
        go_wp2_with fail
        with_reducible refine (hus _).mono ?_
        rintro e wq ⟨rfl, rfl⟩
        go_wp2_with fail
        go_roundg (len - (k + 1))
        case measure => omega
        case rel => exact ⟨k + 1, Du, Dl, by omega, by go_num, ⟨by rw [hfold]; exact hC.m, hC.u.mono (by omega), hC.l.mono (by omega), hC.t⟩⟩
    · obtain rfl : k = len := by omega
      have k1 : ¬ (k : Int) < k := by omega
      have hm := hC.m
      rw [List.take_of_length_le (by omega)] at hm
      have l1 := lensB hC.u
      have l2 := lensB hC.l
      have hs := hm.sz
      have hsn : (S.need z : Int) = (Maps.size Du : Int) + (Maps.size Dl : Int) := by
        have : S.need z = Maps.size Du + Maps.size Dl := hs.symm
        omega
      have hb : Maps.size Du + Maps.size Dl ≤ 200 := by have := need_few S z; omega
      go_wp2_with fail
      go_ret
      exact ⟨rfl, hC.t⟩
end Go.Proofs.Ytoododpeoffieaa
/-
  The document's own space (penumbraref17): a table is taken.
-/
namespace Go.Proofs.Ytoododpeoffieaa
open Go.ChangeShapes Go.WideShapes Go.ChangeAt Go.RowKit

/-- The document's memory and pool. -/
structure RM (w : World) (y : RW) (cw cc co cr : Nat) (R : Nat → Int) (s : MS) : Prop where
  me : RefAt w y.b cw cc co s
  po : RPoolAt w y.q y.b cr s.n R
  of : Off y.q y.b cw cc co cr
/-- The blocks that the pool's calls turn. -/
def Turn (cw cc co cr : Nat) (k : Nat) : Prop := k = cr ∨ k = cw ∨ k = cc ∨ k = co
theorem RM.nil {w w' : World} {y : RW} {cw cc co cr : Nat} {R : Nat → Int} {s : MS} (h : RM w y cw cc co cr R s) (t : Touch Nil w w') : RM w' y cw cc co cr R s :=
  ⟨h.me.touch t id id id id, h.po.touch t id id, h.of⟩
theorem RM.far {w w' : World} {y : RW} {cw cc co cr : Nat} {R : Nat → Int} {s : MS} {S : Nat → Prop} (h : RM w y cw cc co cr R s) (t : Touch S w w') (hs : ∀ k, k = y.b ∨ k = y.q ∨ Turn cw cc co cr k → ¬ S k) : RM w' y cw cc co cr R s :=
  ⟨h.me.touch t (hs _ (Or.inl rfl)) (hs _ (Or.inr (Or.inr (Or.inr (Or.inl rfl))))) (hs _ (Or.inr (Or.inr (Or.inr (Or.inr (Or.inl rfl)))))) (hs _ (Or.inr (Or.inr (Or.inr (Or.inr (Or.inr rfl)))))), h.po.touch t (hs _ (Or.inr (Or.inl rfl))) (hs _ (Or.inr (Or.inr (Or.inl rfl)))), h.of⟩

set_option maxRecDepth 20000 in
set_option maxHeartbeats 2000000 in
theorem rtake_any {w : World} {o cw cc co cr cap : Nat} {a : Option Addr} {l : List Int} {x : RS} {y : RW} {R : Nat → Int} {s : MS} (h : RSAt w o x) (hw : RWAt w x.W y) (m : RM w y cw cc co cr R s) (htk : x.took = .slice a l.length cap) (hl : NL w a cap l) (few : l.length ≤ 900)
    (hne : ∀ k, blkA a k → k ≠ o ∧ k ≠ x.W ∧ k ≠ y.b ∧ k ≠ y.q ∧ ¬ Turn cw cc co cr k) {f : Nat} (hL : Least s f) :
    Calls Try.prog 45 #[.pointer (some ⟨o, 0, none⟩)] w fun e w' => ∃ g cap', e = .returned (.int .i64 f) ∧ RSAt w' o { x with took := .slice (some ⟨g, 0, none⟩) (l.length + 1) cap' } ∧ RM w' y cw cc co cr (rset R f 1) (s.mark f 1 x.own) ∧ NL w' (some ⟨g, 0, none⟩) cap' (l ++ [(f : Int)]) ∧ (blkA a g ∨ w.heap.size ≤ g) ∧ Touch (fun k => k = o ∨ Turn cw cc co cr k ∨ blkA a k) w w' := by
  have c0 := h.worldC
  have c1 := h.ownC
  have c5 := hw.poolC
  have hoT : ¬ Turn cw cc co cr o := by
    rintro (e | e | e | e)
    · exact rowIs_ne h m.po.row (by decide) e
    · exact rowIs_ne h m.me.rw' (by decide) e
    · exact rowIs_ne h m.me.rc (by decide) e
    · exact rowIs_ne h m.me.ro (by decide) e
  go_enter Try.func45, Try.ntmps45
  have HS : ∀ wx, Touch Nil w wx → wx.cell? ⟨o, 0, none⟩ = some (.pointer (some ⟨x.W, 0, none⟩)) ∧ wx.cell? ⟨o, 1, none⟩ = some (.int .i64 x.own) ∧ wx.cell? ⟨x.W, 5, none⟩ = some (.pointer (some ⟨y.q, 0, none⟩)) := fun wx tx => ⟨(h.touch tx id).worldC, (h.touch tx id).ownC, (hw.touch tx id).poolC⟩
  have hWT : ¬ Turn cw cc co cr x.W := by
    rintro (e | e | e | e)
    · exact rowIs_ne hw m.po.row (by decide) e
    · exact rowIs_ne hw m.me.rw' (by decide) e
    · exact rowIs_ne hw m.me.rc (by decide) e
    · exact rowIs_ne hw m.me.ro (by decide) e
  have hT := fun wx (tx : Touch Nil w wx) => rptake_least (m.nil tx).po (m.nil tx).me m.of 1 x.own (Or.inl rfl) hL
  have hd := HS _ ((Touch.refl Nil w).drew)
  have HX : ∀ w1, Touch (fun k => k = cr ∨ k = cw ∨ k = cc ∨ k = co) w.drew w1 → w1.cell? ⟨o, 0, none⟩ = some (.pointer (some ⟨x.W, 0, none⟩)) ∧ w1.cell? ⟨o, 1, none⟩ = some (.int .i64 x.own) ∧ w1.cell? ⟨x.W, 5, none⟩ = some (.pointer (some ⟨y.q, 0, none⟩)) := fun w1 t1 => by
    have a1 := (h.touch ((Touch.refl Nil w).drew) id).touch t1 hoT
    exact ⟨a1.worldC, a1.ownC, ((hw.touch ((Touch.refl Nil w).drew) id).touch t1 hWT).poolC⟩
  go_upto_region 1 with fail
  go_region_held3 (fun wx => wx.cell? ⟨o, 0, none⟩ = some (.pointer (some ⟨x.W, 0, none⟩)) ∧ wx.cell? ⟨o, 1, none⟩ = some (.int .i64 x.own) ∧ wx.cell? ⟨x.W, 5, none⟩ = some (.pointer (some ⟨y.q, 0, none⟩))) (first | exact hd | exact hx1)
    (first
      | (go_at_call 67; refine (hT _ ((Touch.refl Nil w).drew)).mono ?_; rintro e w1 ⟨hx, p1, m1, t1⟩; subst hx; have hx1 := HX _ t1))
  have h1 := (h.touch ((Touch.refl Nil w).drew) id).touch t1 hoT
  have hw1 := (hw.touch ((Touch.refl Nil w).drew) id).touch t1 hWT
  have T1 : Touch (fun k => k = o ∨ Turn cw cc co cr k ∨ blkA a k) w w1 := ((Touch.refl _ w).drew).trans (t1.mono (fun k _ e => Or.inr (Or.inl e)))
  have c4 := h1.tookC
  have z4 := h1.frozen 4
  rw [htk] at c4
  have hl1 := (hl.touch ((Touch.refl Nil w).drew) (fun _ _ => id)).touch t1 (fun k hk => (hne k hk).2.2.2.2)
  have hB := heap_alloc_new w1 (.cells #[.int .i64 f] 3)
  have tA := (Touch.refl Nil w1).alloc (.cells #[.int .i64 f] 3)
  obtain ⟨g, cap', wN, hrun, hlN, tN, hgN⟩ := (hl1.touch tA (fun _ _ => id)).app (by omega) (f : Int) w1.heap.size (by unfold World.cell?; rw [hB]; rfl)
  have hNo : ∀ k, blkA a k → k ≠ o := fun k hk => (hne k hk).1
  have hN := (h1.touch tA id).touch tN (fun hk => hNo o hk rfl)
  have cN := hN.tookC
  have zN := hN.frozen 4
  rw [htk] at cN
  have TN : Touch (fun k => k = o ∨ Turn cw cc co cr k ∨ blkA a k) w wN := (T1.trans (tA.mono (fun _ _ h => h.elim))).trans (tN.mono (fun k _ e => Or.inr (Or.inr e)))
  have mN : RM wN y cw cc co cr (rset R f 1) (s.mark f 1 x.own) := by
    have m1' : RM w1 y cw cc co cr (rset R f 1) (s.mark f 1 x.own) := ⟨m1, by rw [MS.mark_n]; exact p1, m.of⟩
    exact (m1'.nil tA).far tN (fun k hk hb => by
      obtain ⟨e1, e2, e3, e4, e5⟩ := hne k hb
      rcases hk with e | e | e
      · exact e3 e
      · exact e4 e
      · exact e5 e)
  have hgN' : blkA a g ∨ w.heap.size ≤ g := hgN.imp id (fun h => by have := T1.size; have := tA.size; omega)
  have how := h.lt
  have hob : o ≠ y.b := rowIs_ne h m.me.top (by decide)
  have hoq : o ≠ y.q := rowIs_ne h m.po.top (by decide)
  have hgo : g ≠ o := by
    rcases hgN' with e | e
    · exact hNo g e
    · omega
  have tS : Touch (fun k => k = o) wN (wN.setCell ⟨o, 4, none⟩ (.slice (some ⟨g, 0, none⟩) (l.length + 1) cap')) := (Touch.refl (fun k => k = o) wN).setCell (p := ⟨o, 4, none⟩) rfl _
  have hS : RSAt (wN.setCell ⟨o, 4, none⟩ (.slice (some ⟨g, 0, none⟩) (l.length + 1) cap')) o { x with took := .slice (some ⟨g, 0, none⟩) (l.length + 1) cap' } := by
    refine (World.rowIs.set hN 4 _).congr fun i hi => ?_
    unfold RS.cell
    by_cases e : i = 4
    · subst e; rfl
    · rw [if_neg e]
      rcases (by omega : i = 0 ∨ i = 1 ∨ i = 2 ∨ i = 3) with rfl | rfl | rfl | rfl <;> rfl
  have mS := mN.far tS (fun k hk e => by
    rcases hk with e1 | e1 | e1
    · exact hob (e.symm.trans e1)
    · exact hoq (e.symm.trans e1)
    · exact hoT (e ▸ e1))
  have lS := hlN.touch tS (fun k hk e => by
    obtain ⟨_, e1⟩ := hk
    cases e1
    exact hgo e)
  have TS := TN.trans (tS.mono (fun k _ e => Or.inl e))
  clear hT HX HS hd
  go_wp2_with (refine Lib.wpList_append_run_sl _ rfl _ _ 22 rfl _ _ rfl rfl hrun ?_)
  go_ret
  exact ⟨g, cap', rfl, hS, mS, lS, hgN', TS⟩
end Go.Proofs.Ytoododpeoffieaa
/-
  A process's tables: a list that tells them (plain).
-/
namespace Go.Proofs.Ytoododpeoffieaa
open Go.ChangeShapes Go.WideShapes Go.ChangeAt Go.RowKit

theorem mem_fold : ∀ (l acc : List Int) (x : Int), x ∈ l.foldl addP acc ↔ x ∈ acc ∨ (x ∈ l ∧ x ≠ 0)
  | [], _, _ => by simp
  | y :: l, acc, x => by
    rw [List.foldl_cons, mem_fold l (addP acc y) x]
    unfold addP
    by_cases h : y = 0 ∨ y ∈ acc
    · rw [if_pos h]
      constructor
      · rintro (h1 | ⟨h1, h2⟩)
        · exact Or.inl h1
        · exact Or.inr ⟨List.mem_cons_of_mem _ h1, h2⟩
      · rintro (h1 | ⟨h1, h2⟩)
        · exact Or.inl h1
        · rcases List.mem_cons.1 h1 with e | e
          · subst e
            exact Or.inl (h.resolve_left h2)
          · exact Or.inr ⟨e, h2⟩
    · rw [if_neg h, List.mem_append, List.mem_singleton]
      have hy : y ≠ 0 := fun e => h (Or.inl e)
      constructor
      · rintro ((h1 | h1) | ⟨h1, h2⟩)
        · exact Or.inl h1
        · subst h1; exact Or.inr ⟨List.mem_cons_self .., hy⟩
        · exact Or.inr ⟨List.mem_cons_of_mem _ h1, h2⟩
      · rintro (h1 | ⟨h1, h2⟩)
        · exact Or.inl (Or.inl h1)
        · rcases List.mem_cons.1 h1 with e | e
          · exact Or.inl (Or.inr e)
          · exact Or.inr ⟨e, h2⟩
theorem mem_tabs (S : SS) (x : Int) : x ∈ S.tabs ↔ x ∈ S.pre 4 ∧ x ≠ 0 := by
  unfold SS.tabs; rw [mem_fold]; simp
theorem mem_set {l : List Int} {n : Nat} (f : Int) (h0 : l[n]? = some 0) {x : Int} (hx : x ≠ 0) : x ∈ l.set n f ↔ x ∈ l ∨ x = f := by
  have hn : n < l.length := (List.getElem?_eq_some_iff.1 h0).1
  rw [List.mem_iff_getElem?, List.mem_iff_getElem?]
  constructor
  · rintro ⟨m, hm⟩
    rw [List.getElem?_set] at hm
    by_cases e : n = m
    · rw [if_pos e, if_pos (by omega)] at hm
      exact Or.inr (by cases hm; rfl)
    · rw [if_neg e] at hm
      exact Or.inl ⟨m, hm⟩
  · rintro (⟨m, hm⟩ | e)
    · have hne : n ≠ m := fun e => by
        subst e; rw [h0] at hm; cases hm; exact hx rfl
      exact ⟨m, by rw [List.getElem?_set, if_neg hne]; exact hm⟩
    · exact ⟨n, by rw [List.getElem?_set, if_pos rfl, if_pos hn, e]⟩
/-- The list has each table once. -/
structure LI (S : SS) (l : List Int) : Prop where
  m : ∀ x, x ∈ l ↔ x ∈ S.tabs
  nd : l.Nodup
theorem LI.setUp {S : SS} {l : List Int} (h : LI S l) {i : Nat} (hi : i < 4) (h0 : S.up i = 0) {f : Int} (hf : f ≠ 0) (hn : f ∉ S.tabs) : LI (S.setUp i f) (l ++ [f]) := by
  obtain ⟨e1, e2⟩ := pre_setUp S f hi
  rw [h0] at e2
  refine ⟨fun x => ?_, List.nodup_append.2 ⟨h.nd, by simp, fun a ha b hb => ?_⟩⟩
  · rw [List.mem_append, List.mem_singleton, h.m, mem_tabs, mem_tabs, e1]
    by_cases hx : x = 0
    · subst hx; simp [Ne.symm hf]
    · rw [mem_set f e2 hx]; simp [hx]
  · rw [List.mem_singleton] at hb
    subst hb
    exact fun e => hn (e ▸ (h.m a).1 ha)
theorem LI.setLa {S : SS} {l : List Int} (h : LI S l) {k : Nat} (hk : k < 32) (h0 : S.la k = 0) {f : Int} (hf : f ≠ 0) (hn : f ∉ S.tabs) : LI (S.setLa k f) (l ++ [f]) := by
  obtain ⟨e1, e2⟩ := pre_setLa S f hk
  rw [h0] at e2
  refine ⟨fun x => ?_, List.nodup_append.2 ⟨h.nd, by simp, fun a ha b hb => ?_⟩⟩
  · rw [List.mem_append, List.mem_singleton, h.m, mem_tabs, mem_tabs, e1]
    by_cases hx : x = 0
    · subst hx; simp [Ne.symm hf]
    · rw [mem_set f e2 hx]; simp [hx]
  · rw [List.mem_singleton] at hb
    subst hb
    exact fun e => hn (e ▸ (h.m a).1 ha)
/-- The least free frame is none of them. -/
theorem YInv.leastNo {y : YS} (h : YInv y) {f : Nat} (hL : Least y.s f) : (f : Int) ≠ 0 ∧ (f : Int) ∉ y.S.tabs := by
  have := hL.lo
  refine ⟨by omega, fun hm => ?_⟩
  obtain ⟨h1, h2⟩ := (mem_tabs _ _).1 hm
  exact least_ne hL (h.pre0 _ h1) rfl
theorem fold_nodup : ∀ (l acc : List Int), acc.Nodup → (l.foldl addP acc).Nodup
  | [], _, h => h
  | y :: l, acc, h => by
    refine fold_nodup l (addP acc y) ?_
    unfold addP
    split
    · exact h
    · rename_i hh
      refine List.nodup_append.2 ⟨h, by simp, fun a ha b hb => ?_⟩
      rw [List.mem_singleton] at hb; subst hb
      exact fun e => hh (Or.inr (e ▸ ha))
theorem LI.perm {S : SS} {l : List Int} (h : LI S l) : l.Perm S.tabs := (List.perm_ext_iff_of_nodup h.nd (fold_nodup _ _ List.nodup_nil)).2 h.m
theorem LI.len {S : SS} {l : List Int} (h : LI S l) : l.length ≤ 38 := by
  have := h.perm.length_eq
  have := ta_len S 4
  rw [tabs_ta] at *; omega
end Go.Proofs.Ytoododpeoffieaa
/-
  The document's own space (penumbraref17): Set.
-/
namespace Go.Proofs.Ytoododpeoffieaa
open Go.ChangeShapes Go.WideShapes Go.ChangeAt Go.RowKit

/-- A space of the document's: what it took is what the plain one has. -/
structure DS (w : World) (o cw cc co cr : Nat) (x : RS) (y : RW) (a : Option Addr) (cap : Nat) (l : List Int) (Y : YS) : Prop where
  sp : RSAt w o x
  wo : RWAt w x.W y
  rm : RM w y cw cc co cr Y.R Y.s
  tk : x.took = .slice a l.length cap
  nl : NL w a cap l
  ne : ∀ k, blkA a k → k ≠ o ∧ k ≠ x.W ∧ k ≠ y.b ∧ k ≠ y.q ∧ ¬ Turn cw cc co cr k
  kern : x.kern = Y.S.kern
  user : x.user = Y.S.user
  own : x.own = Y.S.own
  li : LI Y.S l

namespace DS
variable {w w' : World} {o cw cc co cr cap : Nat} {a : Option Addr} {l : List Int} {x : RS} {y : RW} {Y : YS}
theorem nil (h : DS w o cw cc co cr x y a cap l Y) (t : Touch Nil w w') : DS w' o cw cc co cr x y a cap l Y :=
  ⟨h.sp.touch t id, h.wo.touch t id, h.rm.nil t, h.tk, h.nl.touch t (fun _ _ => id), h.ne, h.kern, h.user, h.own, h.li⟩
theorem need1 (h : DS w o cw cc co cr x y a cap l Y) (hi : YInv Y) (hv : VInv Y) (page : Int) :
    Calls Try.prog 17 #[.pointer (some ⟨o, 0, none⟩), .slice (some ⟨w.heap.size, 0, none⟩) 1 1] (w.alloc (.cells #[.int .i64 page] 3)) fun e w' => e = .returned (.int .i64 (Y.S.need [page])) ∧ Touch Nil w w' := by
  have t := (Touch.refl Nil w).alloc (.cells #[.int .i64 page] 3)
  have hA := h.nil t
  have hu := hi.user
  have hk : 15 ≤ Y.S.kern := hi.kern.1
  have hn := hi.n64
  refine (rneed_any (S := Y.S) hA.sp hA.wo hA.rm.me (by omega) (by rw [h.user]; exact hi.ok.u) hi.ok hi.laUp (fun p p0 p1 => by rw [h.user]; exact hv.way p0 p1) (some ⟨w.heap.size, 0, none⟩) 1 1 [page] (by omega) (Or.inr ⟨w.heap.size, 0, rfl, by simp, fun i hi => ?_⟩) rfl).mono ?_
  · obtain rfl : i = 0 := by omega
    simp [go_sem]
  · rintro e w' ⟨rfl, t'⟩
    exact ⟨rfl, t.transNew t' (fun _ _ h => h)⟩
end DS

/-- The question ahead of a set, of a page of a user's. -/
structure SetQ (w : World) (o cw cc co cr : Nat) (x : RS) (y : RW) (a : Option Addr) (cap : Nat) (l : List Int) (Y : YS) (page : Int) : Prop where
  us : ∀ wx, Calls Try.prog 52 #[.int .i64 page] wx fun e w' => e = .returned (.bool true) ∧ w' = wx
  nd : ∀ wx, Touch Nil w wx → Calls Try.prog 17 #[.pointer (some ⟨o, 0, none⟩), .slice (some ⟨wx.heap.size, 0, none⟩) 1 1] (wx.alloc (.cells #[.int .i64 page] 3)) fun e w' => e = .returned (.int .i64 (Y.S.need [page])) ∧ Touch Nil wx w'
  lf : ∀ wx, Touch Nil w wx → Calls Try.prog 43 #[.pointer (some ⟨y.q, 0, none⟩)] wx fun e w' => e = .returned (.int .i64 Y.s.left) ∧ wx = w'
  ce : ∀ wx, Touch Nil w wx → wx.cell? ⟨o, 0, none⟩ = some (.pointer (some ⟨x.W, 0, none⟩)) ∧ wx.cell? ⟨x.W, 5, none⟩ = some (.pointer (some ⟨y.q, 0, none⟩))
  may : Y.may page = decide (Y.S.need [page] ≤ Y.s.left)
theorem DS.setQ {w : World} {o cw cc co cr cap : Nat} {a : Option Addr} {l : List Int} {x : RS} {y : RW} {Y : YS} (h : DS w o cw cc co cr x y a cap l Y) (hi : YInv Y) (hv : VInv Y) {page : Int} (p0 : 0 ≤ page) (p1 : page < 256) : SetQ w o cw cc co cr x y a cap l Y page := by
  have hP : Y.S.hasP page = true := (hasP_iff _ _).2 ⟨by have := hi.kern.1; omega, p0, p1⟩
  refine ⟨fun wx => ?_, fun wx tx => (h.nil tx).need1 hi hv page, fun wx tx => rpleft_any (h.nil tx).rm.po (h.nil tx).rm.me, fun wx tx => ⟨(h.nil tx).sp.worldC, (h.nil tx).wo.poolC⟩, by unfold YS.may; rw [hP, Bool.true_and]⟩
  have := ruser_any page wx
  rwa [decide_eq_true p0, decide_eq_true p1] at this
theorem YInv.leftLe {Y : YS} (hi : YInv Y) : Y.s.left ≤ 64 := by have := cnt_le Y.s.C (Y.s.n - 15); have := hi.n64; unfold MS.left; omega

set_option maxRecDepth 20000 in
set_option maxHeartbeats 2000000 in
theorem rset_no {w : World} {o cw cc co cr cap : Nat} {a : Option Addr} {l : List Int} {x : RS} {y : RW} {Y : YS} (h : DS w o cw cc co cr x y a cap l Y) (hi : YInv Y) (hv : VInv Y) (page v : Int) (hn : Y.may page = false) :
    Calls Try.prog 19 #[.pointer (some ⟨o, 0, none⟩), .int .i64 page, .int .u64 v] w fun e w' => e = .returned (.bool false) ∧ Touch Nil w w' := by
  by_cases hp : 0 ≤ page ∧ page < 256
  · obtain ⟨p0, p1⟩ := hp
    obtain ⟨hus, hNd, hLf, hS, hm⟩ := h.setQ hi hv p0 p1
    rw [hn] at hm
    have hle : ¬ Y.S.need [page] ≤ Y.s.left := of_decide_eq_false hm.symm
    have hle' : (Y.s.left : Int) < (Y.S.need [page] : Int) := by omega
    have tD := (Touch.refl Nil w).drew
    have tA := tD.alloc (.cells #[.int .i64 page] 3)
    have s0 := hS _ tD
    have s1 := hS _ tA
    have hn2 := need_le Y.S page
    have hl49 := hi.leftLe
    clear hm
    go_enter Try.func19, Try.ntmps19
    go_upto_region 1 with fail
    go_region_held3 (fun wx => wx.cell? ⟨o, 0, none⟩ = some (.pointer (some ⟨x.W, 0, none⟩)) ∧ wx.cell? ⟨x.W, 5, none⟩ = some (.pointer (some ⟨y.q, 0, none⟩))) (first | exact s0 | exact s1 | exact s3)
      (first
        | (go_at_call 52; refine (hus _).mono ?_; rintro e wq ⟨hx1, hx2⟩; subst hx1; subst hx2)
        | (go_at_call 17; refine (hNd _ tD).mono ?_; rintro e w3 ⟨hx, t3⟩; subst hx; have T3 := tD.trans t3; have s3 := hS _ T3)
        | (go_at_call 43; refine (hLf _ T3).mono ?_; rintro e wq ⟨hx1, hx2⟩; subst hx1; subst hx2))
    go_wp2_with fail
    go_ret
    exact ⟨rfl, T3⟩
  · have hus := ruser_any page
    have hd : (decide (0 ≤ page) && decide (page < 256)) = false := by
      rw [Bool.eq_false_iff, Ne, Bool.and_eq_true, decide_eq_true_iff, decide_eq_true_iff]; exact hp
    rw [hd] at hus
    go_enter Try.func19, Try.ntmps19
    go_upto_region 1 with fail
    go_quiet ((go_at_call 52; exact Calls.quiet_of_same (hus _)))
    go_wp2_with fail
    go_ret
    exact ⟨rfl, (Touch.refl Nil w).drews _⟩
end Go.Proofs.Ytoododpeoffieaa
/-
  The document's own space (penumbraref17): Set where it may.
-/
namespace Go.Proofs.Ytoododpeoffieaa
open Go.ChangeShapes Go.WideShapes Go.ChangeAt Go.RowKit

theorem write_comm (s : MS) (a b v : Int) (ha : s.hasW a = true) (hb : s.hasW b = true) : (s.write a v).write b v = (s.write b v).write a v := by
  have e1 : (s.write a v).hasW b = true := by rw [← hb]; unfold MS.hasW; rw [MS.write_n]
  have e2 : (s.write b v).hasW a = true := by rw [← ha]; unfold MS.hasW; rw [MS.write_n]
  have w1 : ∀ (t : MS) (c : Int), t.hasW c = true → t.write c v = ⟨t.n, fun i => if i = c.toNat then v else t.W i, t.C, t.O⟩ := fun t c h => by unfold MS.write; rw [if_pos h]
  rw [w1 _ b e1, w1 _ a e2, w1 s a ha, w1 s b hb]
  congr 1
  funext i
  by_cases c1 : i = a.toNat <;> by_cases c2 : i = b.toNat <;> simp [c1, c2]
/-- A word written through the document's calls. -/
theorem rput_at {w : World} {o cw cc co cr : Nat} {x : RS} {y : RW} {R : Nat → Int} {s : MS} (h : RSAt w o x) (hw : RWAt w x.W y) (m : RM w y cw cc co cr R s) (at' v : Int) :
    Calls Try.prog 46 #[.pointer (some ⟨y.b, 0, none⟩), .int .i64 at', .int .u64 v] w fun e w' => e = .returned (.bool (s.hasW at')) ∧ RSAt w' o x ∧ RWAt w' x.W y ∧ RM w' y cw cc co cr R (s.write at' v) ∧ Touch (· = cw) w w' := by
  refine (rwrite_any m.me at' v).mono ?_
  rintro e w' ⟨rfl, hm, t⟩
  refine ⟨rfl, h.touch t (rowIs_ne h m.me.rw' (by decide)), hw.touch t (rowIs_ne hw m.me.rw' (by decide)), ⟨hm, ?_, m.of⟩, t⟩
  rw [MS.write_n]
  exact m.po.touch t m.of.qw m.of.w

set_option maxRecDepth 20000 in
set_option maxHeartbeats 2000000 in
theorem rset_yes {w : World} {o cw cc co cr cap : Nat} {a : Option Addr} {l : List Int} {x : RS} {y : RW} {Y : YS} (h : DS w o cw cc co cr x y a cap l Y) (hi : YInv Y) (hv : VInv Y) (page v : Int) (hm : Y.may page = true) :
    Calls Try.prog 19 #[.pointer (some ⟨o, 0, none⟩), .int .i64 page, .int .u64 v] w fun e w' => e = .returned (.bool true) ∧ ∃ x' a' cap' l', DS w' o cw cc co cr x' y a' cap' l' (Y.set page v) ∧ (∀ k, blkA a' k → blkA a k ∨ w.heap.size ≤ k) ∧ Touch (fun k => k = o ∨ Turn cw cc co cr k ∨ blkA a k) w w' := by
  have hp : Y.S.hasP page = true := by simp only [YS.may, Bool.and_eq_true] at hm; exact hm.1
  obtain ⟨_, p0, p1⟩ := (hasP_iff _ _).1 hp
  obtain ⟨hus, hNd, hLf, hS, hmd⟩ := h.setQ hi hv p0 p1
  have hmay := hm
  rw [hm] at hmd
  have hle : Y.S.need [page] ≤ Y.s.left := of_decide_eq_true hmd.symm
  have hle' : ¬ ((Y.s.left : Int) < (Y.S.need [page] : Int)) := by omega
  have tD := (Touch.refl Nil w).drew
  have tA := tD.alloc (.cells #[.int .i64 page] 3)
  have s0 := hS _ tD
  have s1 := hS _ tA
  have hn2 := need_le Y.S page
  have hl49 := hi.leftLe
  clear hmd hm
  go_enter Try.func19, Try.ntmps19
  go_upto_region 1 with fail
  go_region_held3 (fun wx => wx.cell? ⟨o, 0, none⟩ = some (.pointer (some ⟨x.W, 0, none⟩)) ∧ wx.cell? ⟨x.W, 5, none⟩ = some (.pointer (some ⟨y.q, 0, none⟩))) (first | exact s0 | exact s1 | exact s3)
    (first
      | (go_at_call 52; refine (hus _).mono ?_; rintro e wq ⟨hx1, hx2⟩; subst hx1; subst hx2)
      | (go_at_call 17; refine (hNd _ tD).mono ?_; rintro e w3 ⟨hx, t3⟩; subst hx; have T3 := tD.trans t3; have s3 := hS _ T3)
      | (go_at_call 43; refine (hLf _ T3).mono ?_; rintro e wq ⟨hx1, hx2⟩; subst hx1; subst hx2))
  have hC := h.nil T3
  have TA0 : Touch (fun k => k = o ∨ Turn cw cc co cr k ∨ blkA a k) w w3 := T3.mono (fun _ _ e => e.elim)
  have hsz : w.heap.size ≤ w3.heap.size := T3.size
  clear hNd hLf hS tD tA s0 s1 s3 T3 t3 h
  have hW := hv.way p0 p1
  have c3 := hC.sp.userC
  have hTb := rtable_any hC.sp hC.wo hC.rm.me (x.user * 8 + page / 64) _ (by rw [hC.user]; exact hW.up)
  have hu := hi.ok.u
  have hk := hi.ok.k
  rw [← hC.user] at hu
  rw [← hC.kern] at hk
  have w1 : IntKind.i64.wrap (x.user * 8) = x.user * 8 := by rw [IntKind.wrap_i64]; omega
  have w2 : IntKind.i64.wrap (x.user * 8 + page / 64) = x.user * 8 + page / 64 := by rw [IntKind.wrap_i64]; omega
  have w1k : IntKind.i64.wrap (x.kern * 8) = x.kern * 8 := by rw [IntKind.wrap_i64]; omega
  have w2k : IntKind.i64.wrap (x.kern * 8 + page / 64) = x.kern * 8 + page / 64 := by rw [IntKind.wrap_i64]; omega
  have a7 := and7 (page / 8) (by omega) (by omega)
  have b7 := and7 page p0 p1
  go_wp2_with fail
  with_reducible refine hTb.mono ?_
  rintro e w4 ⟨rfl, t4⟩
  have hC4 := hC.nil t4
  have T4 := TA0.transNew t4 (fun _ _ e => e.elim)
  have hsz4 : w.heap.size ≤ w4.heap.size := by have := t4.size; omega
  clear hC t4 TA0 hTb c3
  go_upto_if 39 with fail
  have hup := may_up hmay
  have i4 : (page / 64).toNat < 4 := by omega
  have hI1 := hi.up1 _ (by omega : (page / 64).toNat < 8) hup
  have hV1 := hv.up1 hi _ i4 hup
  go_cut [7] (fun t wx => ∃ x1 a1 cap1 l1, t = .int .i64 ((Y.up1 (page / 64).toNat).S.up (page / 64).toNat) ∧ DS wx o cw cc co cr x1 y a1 cap1 l1 (Y.up1 (page / 64).toNat) ∧ (∀ k, blkA a1 k → blkA a k ∨ w.heap.size ≤ k) ∧ Touch (fun k => k = o ∨ Turn cw cc co cr k ∨ blkA a k) w wx)
  case first =>
    by_cases h0 : Y.S.up (page / 64).toNat = 0
    · have hL := least_left (hup h0)
      have hU1 : Y.up1 (page / 64).toNat = ⟨Y.S.setUp (page / 64).toNat Y.s.least, rset Y.R Y.s.least 1, (Y.s.mark Y.s.least 1 Y.S.own).roots Y.S (page / 64).toNat Y.s.least⟩ := by unfold YS.up1; rw [if_pos h0]
      have hf64 : (Y.s.least : Int) < 64 := by have := hL.hi; have := hi.n64; omega
      rw [h0]
      obtain ⟨f, hf⟩ : ∃ f, Y.s.least = f := ⟨_, rfl⟩
      rw [hf] at hL hf64 hU1
      clear hI1 hV1 hup hf
      have hTk := rtake_any hC4.sp hC4.wo hC4.rm hC4.tk hC4.nl (by have := hC4.li.len; omega) hC4.ne hL
      go_wp2_with fail
      with_reducible refine hTk.mono ?_
      rintro e w5 ⟨g, cap', rfl, sp5, rm5, nl5, hg5, t5⟩
      have wo5 := hC4.wo.touch t5 (by
        rintro (e | e | e)
        · exact rowIs_ne hC4.wo hC4.sp (by decide) e
        · rcases e with e | e | e | e
          · exact rowIs_ne hC4.wo hC4.rm.po.row (by decide) e
          · exact rowIs_ne hC4.wo hC4.rm.me.rw' (by decide) e
          · exact rowIs_ne hC4.wo hC4.rm.me.rc (by decide) e
          · exact rowIs_ne hC4.wo hC4.rm.me.ro (by decide) e
        · exact (hC4.ne _ e).2.1 rfl)
      have T5 := T4.trans t5
      have hB := fun wx => bits_any true true false (f : Int) wx (by omega) (by omega)
      clear hTk
      obtain ⟨x5, hx5⟩ : ∃ x5, Hid (({ x with took := .slice (some ⟨g, 0, none⟩) (l.length + 1) cap' } : RS) = x5) := ⟨_, rfl⟩
      have q1 : x5.W = x.W := by rw [← hx5.out]
      have q2 : x5.user = x.user := by rw [← hx5.out]
      have q3 : x5.kern = x.kern := by rw [← hx5.out]
      have q4 : x5.own = x.own := by rw [← hx5.out]
      have q5 : x5.took = .slice (some ⟨g, 0, none⟩) (l.length + 1) cap' := by rw [← hx5.out]
      rw [hx5.out] at sp5
      rw [← q1] at wo5
      have HS : ∀ wx, RSAt wx o x5 → RWAt wx x5.W y → wx.cell? ⟨o, 0, none⟩ = some (.pointer (some ⟨x.W, 0, none⟩)) ∧ wx.cell? ⟨x.W, 4, none⟩ = some (.pointer (some ⟨y.b, 0, none⟩)) ∧ wx.cell? ⟨o, 3, none⟩ = some (.int .i64 x.user) ∧ wx.cell? ⟨o, 2, none⟩ = some (.int .i64 x.kern) := fun wx h hw => by
        have a0 := h.worldC
        have a1 := hw.memC
        have a2 := h.userC
        have a3 := h.kernC
        rw [q1] at a0 a1
        rw [q2] at a2
        rw [q3] at a3
        exact ⟨a0, a1, a2, a3⟩
      have HN : ∀ w0 wx, Touch Nil w0 wx → RSAt w0 o x5 → RWAt w0 x5.W y → RM w0 y cw cc co cr (rset Y.R f 1) (Y.s.mark f 1 x.own) → RSAt wx o x5 ∧ RWAt wx x5.W y ∧ RM wx y cw cc co cr (rset Y.R f 1) (Y.s.mark f 1 x.own) := fun w0 wx t a b c => ⟨a.touch t id, b.touch t id, c.nil t⟩
      have tD := (Touch.refl Nil w5).drew
      obtain ⟨spD, woD, rmD⟩ := HN _ _ tD sp5 wo5 rm5
      have s0 := HS _ spD woD
      go_upto_region 6 with fail
      go_region_held3 (fun wx => wx.cell? ⟨o, 0, none⟩ = some (.pointer (some ⟨x.W, 0, none⟩)) ∧ wx.cell? ⟨x.W, 4, none⟩ = some (.pointer (some ⟨y.b, 0, none⟩)) ∧ wx.cell? ⟨o, 3, none⟩ = some (.int .i64 x.user) ∧ wx.cell? ⟨o, 2, none⟩ = some (.int .i64 x.kern)) (first | exact s0 | exact s6 | exact s7)
        (first
          | (go_at_call 47; refine (hB _).mono ?_; rintro e w6 ⟨hz, t6⟩; subst hz; obtain ⟨sp6, wo6, rm6⟩ := HN _ _ t6 spD woD rmD; have s6 := HS _ sp6 wo6)
          | (go_at_call 46; refine (rput_at sp6 wo6 rm6 _ _).mono ?_; rintro e w7 ⟨hz, sp7, wo7, rm7, t7⟩; subst hz; have s7 := HS _ sp7 wo7))
      have U7 : Touch (· = cw) w5 w7 := (((Touch.refl (· = cw) w5).drew).trans (t6.mono (fun _ _ e => e.elim))).trans t7
      clear s0 s6 s7 spD woD rmD tD sp6 wo6 rm6 t6 t7 HN sp5 wo5 rm5
      have HN : ∀ wx, Touch Nil w7 wx → RSAt wx o x5 ∧ RWAt wx x5.W y ∧ RM wx y cw cc co cr (rset Y.R f 1) ((Y.s.mark f 1 x.own).write (x.user * 8 + page / 64) (packV true true false f)) := fun wx t => ⟨sp7.touch t id, wo7.touch t id, rm7.nil t⟩
      have tD := (Touch.refl Nil w7).drew
      obtain ⟨spD, woD, rmD⟩ := HN _ tD
      have s0 := HS _ spD woD
      have HB : ∀ wx, Touch Nil w7.drew wx → Touch Nil w7 wx := fun wx t => tD.trans t
      go_wp2_with fail
      go_upto_region 7 with fail
      go_region_held3 (fun wx => wx.cell? ⟨o, 0, none⟩ = some (.pointer (some ⟨x.W, 0, none⟩)) ∧ wx.cell? ⟨x.W, 4, none⟩ = some (.pointer (some ⟨y.b, 0, none⟩)) ∧ wx.cell? ⟨o, 3, none⟩ = some (.int .i64 x.user) ∧ wx.cell? ⟨o, 2, none⟩ = some (.int .i64 x.kern)) (first | exact s0 | exact s8 | exact s9)
        (first
          | (go_at_call 47; refine (hB _).mono ?_; rintro e w8 ⟨hz, t8⟩; subst hz; obtain ⟨sp8, wo8, rm8⟩ := HN _ (HB _ t8); have s8 := HS _ sp8 wo8)
          | (go_at_call 46; refine (rput_at sp8 wo8 rm8 _ _).mono ?_; rintro e w9 ⟨hz, sp9, wo9, rm9, t9⟩; subst hz; have s9 := HS _ sp9 wo9))
      have U9 : Touch (· = cw) w5 w9 := (U7.trans ((HB _ t8).mono (fun _ _ e => e.elim))).trans t9
      have hsp4 := hC4.sp
      have HL : ∀ k, k = o ∨ k = x.W ∨ k = y.b ∨ k = y.q ∨ Turn cw cc co cr k → k < w4.heap.size := by
        rintro k (rfl | rfl | rfl | rfl | rfl | rfl | rfl | rfl)
        · exact hsp4.lt
        · exact hC4.wo.lt
        · exact hC4.rm.me.top.lt
        · exact hC4.rm.po.top.lt
        · exact hC4.rm.po.row.lt
        · exact hC4.rm.me.rw'.lt
        · exact hC4.rm.me.rc.lt
        · exact hC4.rm.me.ro.lt
      have HG : ∀ k, blkA (some ⟨g, 0, none⟩) k → k ≠ o ∧ k ≠ x.W ∧ k ≠ y.b ∧ k ≠ y.q ∧ ¬ Turn cw cc co cr k := by
        rintro k ⟨_, e⟩
        cases e
        rcases hg5 with hg | hg
        · exact hC4.ne _ hg
        · refine ⟨fun e => ?_, fun e => ?_, fun e => ?_, fun e => ?_, fun e => ?_⟩
          · have := HL g (Or.inl e); omega
          · have := HL g (Or.inr (Or.inl e)); omega
          · have := HL g (Or.inr (Or.inr (Or.inl e))); omega
          · have := HL g (Or.inr (Or.inr (Or.inr (Or.inl e)))); omega
          · have := HL g (Or.inr (Or.inr (Or.inr (Or.inr e)))); omega
      have nl9 := nl5.touch U9 (fun k hk e => (HG k hk).2.2.2.2 (Or.inr (Or.inl e)))
      have T9 : Touch (fun k => k = o ∨ Turn cw cc co cr k ∨ blkA a k) w w9 := T5.trans (U9.mono (fun k _ e => Or.inr (Or.inl (Or.inr (Or.inl e)))))
      have e64 : page / 64 = (((page / 64).toNat : Nat) : Int) := by omega
      have hfit : ∀ r : Int, 0 ≤ r ∧ r < (Y.s.n : Int) → (Y.s.mark (f : Int) 1 x.own).hasW (r * 8 + page / 64) = true := fun r hr => (MS.hasW_iff _ _).2 (by rw [MS.mark_n]; omega)
      have hkn := hi.kern
      have hun := hi.user
      have hmem : (((Y.s.mark (f : Int) 1 x.own).write (x.user * 8 + page / 64) (packV true true false f)).write (x.kern * 8 + page / 64) (packV true true false f)) = (Y.up1 (page / 64).toNat).s := by
        rw [hU1]
        show _ = MS.roots _ _ _ _
        unfold MS.roots
        rw [write_comm _ _ _ _ (hfit _ ⟨by omega, by rw [hC4.user]; exact hun.2.1⟩) (hfit _ ⟨by omega, by rw [hC4.kern]; exact hkn.2.1⟩)]
        rw [hC4.kern, hC4.user, hC4.own, ← e64]; rfl
      rw [hmem] at rm9
      go_wp2_with fail
      go_meet
      refine ⟨x5, some ⟨g, 0, none⟩, cap', l ++ [(f : Int)], by rw [hU1]; simp [SS.setUp], ⟨sp9, wo9, ?_, ?_, nl9, by rw [q1]; exact HG, ?_, ?_, ?_, ?_⟩, ?_, T9⟩
      · have : (Y.up1 (page / 64).toNat).R = rset Y.R f 1 := by rw [hU1]
        rw [this]; exact rm9
      · rw [q5]; simp
      · rw [q3, hC4.kern, hU1]; rfl
      · rw [q2, hC4.user, hU1]; rfl
      · rw [q4, hC4.own, hU1]; rfl
      · rw [hU1]; exact hC4.li.setUp i4 h0 (hi.leastNo hL).1 (hi.leastNo hL).2
      · rintro k ⟨_, e⟩
        cases e
        exact hg5.imp id (fun h => by omega)
    · have hz : (Y.S.up (page / 64).toNat == 0) = false := by simpa using h0
      have hU1 : Y.up1 (page / 64).toNat = Y := by unfold YS.up1; rw [if_neg h0]
      go_wp2_with fail
      go_meet
      exact ⟨x, a, cap, l, by rw [hU1], by rw [hU1]; exact hC4, fun k hk => Or.inl hk, T4⟩
  case rest =>
    obtain ⟨x1, a1, cap1, l1, rfl, hC1, hb1, T1⟩ := hcut
    have hla := may_la hmay
    have hu1 := up1_up hup hi.n64
    have j8 : (page / 8 % 8).toNat < 8 := by omega
    have hset : Y.set page v = ⟨((Y.up1 (page / 64).toNat).la1 (page / 64).toNat (page / 8 % 8).toNat).S, ((Y.up1 (page / 64).toNat).la1 (page / 64).toNat (page / 8 % 8).toNat).R, ((Y.up1 (page / 64).toNat).la1 (page / 64).toNat (page / 8 % 8).toNat).s.write (((Y.up1 (page / 64).toNat).la1 (page / 64).toNat (page / 8 % 8).toNat).S.pl page) v⟩ := rfl
    generalize Y.up1 (page / 64).toNat = Y1 at *
    obtain ⟨I, hI⟩ : ∃ I, (page / 64).toNat = I := ⟨_, rfl⟩
    obtain ⟨J, hJ⟩ : ∃ J, (page / 8 % 8).toNat = J := ⟨_, rfl⟩
    have hpk : pk page = I * 8 + J := by unfold pk; rw [hI, hJ]
    have hW1 := hV1.way p0 p1
    have hI2 := hI1.la1 I J (by omega) (by rw [← hI]; exact hu1) (by rw [← hI, ← hJ]; exact hla)
    rw [hI, hpk] at hW1
    rw [hI] at hu1 hup i4
    rw [hI, hJ] at hla hset
    rw [hI]
    have hTb := rtable_any hC1.sp hC1.wo hC1.rm.me (Y1.S.up I * 8 + page / 8 % 8) _ (hW1.la hu1)
    have ht64 := hI1.ok.up I
    have w3 : IntKind.i64.wrap (Y1.S.up I * 8) = Y1.S.up I * 8 := by rw [IntKind.wrap_i64]; omega
    have w4 : IntKind.i64.wrap (Y1.S.up I * 8 + page / 8 % 8) = Y1.S.up I * 8 + page / 8 % 8 := by rw [IntKind.wrap_i64]; omega
    clear hC4 T4 hsz4 hus hW hv hle hle' w1 w2 w1k w2k hu hk hsz hV1
    apply_assumption
    go_wp2_with fail
    with_reducible refine hTb.mono ?_
    rintro e w5 ⟨rfl, t5⟩
    have hC5 := hC1.nil t5
    have T5 := T1.transNew t5 (fun _ _ e => e.elim)
    have hsz5 : w.heap.size ≤ w5.heap.size := T5.size
    clear hTb hC1 T1 t5
    go_upto_if 88 with fail
    go_cut [9] (fun u wx => ∃ x2 a2 cap2 l2, u = .int .i64 ((Y1.la1 I J).S.la (I * 8 + J)) ∧ DS wx o cw cc co cr x2 y a2 cap2 l2 (Y1.la1 I J) ∧ (∀ k, blkA a2 k → blkA a k ∨ w.heap.size ≤ k) ∧ Touch (fun k => k = o ∨ Turn cw cc co cr k ∨ blkA a k) w wx)
    case first =>
      by_cases h0 : Y1.S.la (I * 8 + J) = 0
      · have hL := least_left (hla h0)
        have hL1 : Y1.la1 I J = ⟨Y1.S.setLa (I * 8 + J) Y1.s.least, rset Y1.R Y1.s.least 1, (Y1.s.mark Y1.s.least 1 Y1.S.own).write (Y1.S.up I * 8 + J) (opn Y1.s.least)⟩ := by unfold YS.la1; rw [if_pos h0]
        have hf64 : (Y1.s.least : Int) < 64 := by have := hL.hi; have := hI1.n64; omega
        rw [h0]
        obtain ⟨f, hf⟩ : ∃ f, Y1.s.least = f := ⟨_, rfl⟩
        rw [hf] at hL hf64 hL1
        clear hI2 hf hup hla
        have hTk := rtake_any hC5.sp hC5.wo hC5.rm hC5.tk hC5.nl (by have := hC5.li.len; omega) hC5.ne hL
        go_wp2_with fail
        with_reducible refine hTk.mono ?_
        rintro e w6 ⟨g, cap', rfl, sp5, rm5, nl5, hg5, t6⟩
        have wo5 := hC5.wo.touch t6 (by
          rintro (e | e | e)
          · exact rowIs_ne hC5.wo hC5.sp (by decide) e
          · rcases e with e | e | e | e
            · exact rowIs_ne hC5.wo hC5.rm.po.row (by decide) e
            · exact rowIs_ne hC5.wo hC5.rm.me.rw' (by decide) e
            · exact rowIs_ne hC5.wo hC5.rm.me.rc (by decide) e
            · exact rowIs_ne hC5.wo hC5.rm.me.ro (by decide) e
          · exact (hC5.ne _ e).2.1 rfl)
        have T6 : Touch (fun k => k = o ∨ Turn cw cc co cr k ∨ blkA a k) w w6 := T5.transNew t6 (fun i hi e => by
          rcases e with e | e | e
          · exact Or.inl e
          · exact Or.inr (Or.inl e)
          · rcases hb1 _ e with e2 | e2
            · exact Or.inr (Or.inr e2)
            · omega)
        have hB := fun wx => bits_any true true false (f : Int) wx (by omega) (by omega)
        clear hTk
        obtain ⟨x5, hx5⟩ : ∃ x5, Hid (({ x1 with took := .slice (some ⟨g, 0, none⟩) (l1.length + 1) cap' } : RS) = x5) := ⟨_, rfl⟩
        have q1 : x5.W = x1.W := by rw [← hx5.out]
        have q2 : x5.user = x1.user := by rw [← hx5.out]
        have q3 : x5.kern = x1.kern := by rw [← hx5.out]
        have q4 : x5.own = x1.own := by rw [← hx5.out]
        have q5 : x5.took = .slice (some ⟨g, 0, none⟩) (l1.length + 1) cap' := by rw [← hx5.out]
        rw [hx5.out] at sp5
        rw [← q1] at wo5
        have HS : ∀ wx, RSAt wx o x5 → RWAt wx x5.W y → wx.cell? ⟨o, 0, none⟩ = some (.pointer (some ⟨x1.W, 0, none⟩)) ∧ wx.cell? ⟨x1.W, 4, none⟩ = some (.pointer (some ⟨y.b, 0, none⟩)) := fun wx h hw => by
          have a0 := h.worldC
          have a1 := hw.memC
          rw [q1] at a0 a1
          exact ⟨a0, a1⟩
        have HN : ∀ wx, Touch Nil w6 wx → RSAt wx o x5 ∧ RWAt wx x5.W y ∧ RM wx y cw cc co cr (rset Y1.R f 1) (Y1.s.mark f 1 x1.own) := fun wx t => ⟨sp5.touch t id, wo5.touch t id, rm5.nil t⟩
        have tD := (Touch.refl Nil w6).drew
        have HB : ∀ wx, Touch Nil w6.drew wx → Touch Nil w6 wx := fun wx t => tD.trans t
        obtain ⟨spD, woD, rmD⟩ := HN _ tD
        have s0 := HS _ spD woD
        go_upto_region 12 with fail
        go_region_held3 (fun wx => wx.cell? ⟨o, 0, none⟩ = some (.pointer (some ⟨x1.W, 0, none⟩)) ∧ wx.cell? ⟨x1.W, 4, none⟩ = some (.pointer (some ⟨y.b, 0, none⟩))) (first | exact s0 | exact s8 | exact s9)
          (first
            | (go_at_call 47; refine (hB _).mono ?_; rintro e w8 ⟨hz, t8⟩; subst hz; obtain ⟨sp8, wo8, rm8⟩ := HN _ (HB _ t8); have s8 := HS _ sp8 wo8)
            | (go_at_call 46; refine (rput_at sp8 wo8 rm8 _ _).mono ?_; rintro e w9 ⟨hz, sp9, wo9, rm9, t9⟩; subst hz; have s9 := HS _ sp9 wo9))
        have U9 : Touch (· = cw) w6 w9 := ((HB _ t8).mono (fun _ _ e => e.elim)).trans t9
        have hsp4 := hC5.sp
        have HL : ∀ k, k = o ∨ k = x1.W ∨ k = y.b ∨ k = y.q ∨ Turn cw cc co cr k → k < w5.heap.size := by
          rintro k (rfl | rfl | rfl | rfl | rfl | rfl | rfl | rfl)
          · exact hsp4.lt
          · exact hC5.wo.lt
          · exact hC5.rm.me.top.lt
          · exact hC5.rm.po.top.lt
          · exact hC5.rm.po.row.lt
          · exact hC5.rm.me.rw'.lt
          · exact hC5.rm.me.rc.lt
          · exact hC5.rm.me.ro.lt
        have HG : ∀ k, blkA (some ⟨g, 0, none⟩) k → k ≠ o ∧ k ≠ x1.W ∧ k ≠ y.b ∧ k ≠ y.q ∧ ¬ Turn cw cc co cr k := by
          rintro k ⟨_, e⟩
          cases e
          rcases hg5 with hg | hg
          · exact hC5.ne _ hg
          · refine ⟨fun e => ?_, fun e => ?_, fun e => ?_, fun e => ?_, fun e => ?_⟩
            · have := HL g (Or.inl e); omega
            · have := HL g (Or.inr (Or.inl e)); omega
            · have := HL g (Or.inr (Or.inr (Or.inl e))); omega
            · have := HL g (Or.inr (Or.inr (Or.inr (Or.inl e)))); omega
            · have := HL g (Or.inr (Or.inr (Or.inr (Or.inr e)))); omega
        have nl9 := nl5.touch U9 (fun k hk e => (HG k hk).2.2.2.2 (Or.inr (Or.inl e)))
        have T9 : Touch (fun k => k = o ∨ Turn cw cc co cr k ∨ blkA a k) w w9 := T6.trans (U9.mono (fun k _ e => Or.inr (Or.inl (Or.inr (Or.inl e)))))
        have e8 : page / 8 % 8 = ((J : Nat) : Int) := by omega
        have hmem : ((Y1.s.mark (f : Int) 1 x1.own).write (Y1.S.up I * 8 + page / 8 % 8) (packV true true false f)) = (Y1.la1 I J).s := by
          rw [hL1, hC5.own, e8]; rfl
        rw [hmem] at rm9
        go_wp2_with fail
        go_meet
        refine ⟨x5, some ⟨g, 0, none⟩, cap', l1 ++ [(f : Int)], by rw [hL1]; simp [SS.setLa], ⟨sp9, wo9, ?_, ?_, nl9, by rw [q1]; exact HG, ?_, ?_, ?_, ?_⟩, ?_, T9⟩
        · have : (Y1.la1 I J).R = rset Y1.R f 1 := by rw [hL1]
          rw [this]; exact rm9
        · rw [q5]; simp
        · rw [q3, hC5.kern, hL1]; rfl
        · rw [q2, hC5.user, hL1]; rfl
        · rw [q4, hC5.own, hL1]; rfl
        · rw [hL1]; exact hC5.li.setLa (by omega) h0 (hI1.leastNo hL).1 (hI1.leastNo hL).2
        · rintro k ⟨_, e⟩
          cases e
          rcases hg5 with e2 | e2
          · exact hb1 _ e2
          · exact Or.inr (by omega)
      · have hz : (Y1.S.la (I * 8 + J) == 0) = false := by simpa using h0
        have hL1 : Y1.la1 I J = Y1 := by unfold YS.la1; rw [if_neg h0]
        go_wp2_with fail
        go_meet
        exact ⟨x1, a1, cap1, l1, by rw [hL1], by rw [hL1]; exact hC5, hb1, T5⟩
    case rest =>
      obtain ⟨x2, a2, cap2, l2, rfl, hC6, hb2, T6⟩ := hcut
      have hl2 := la1_la hla hI1.n64
      have hok2 := hI2.ok.la (I * 8 + J)
      have hpl : (Y1.la1 I J).S.pl page = (Y1.la1 I J).S.la (I * 8 + J) * 8 + page % 8 := by rw [pl_pk, hpk]
      rw [hpl] at hset
      clear hC5 T5 hsz5
      generalize Y1.la1 I J = Y2 at *
      have hfit : Y2.s.hasW (Y2.S.la (I * 8 + J) * 8 + page % 8) = true := (MS.hasW_iff _ _).2 (by have := (hI2.la (I * 8 + J)).resolve_left hl2; have := this.2.1; omega)
      have w5 : IntKind.i64.wrap (Y2.S.la (I * 8 + J) * 8) = Y2.S.la (I * 8 + J) * 8 := by rw [IntKind.wrap_i64]; omega
      have w6 : IntKind.i64.wrap (Y2.S.la (I * 8 + J) * 8 + page % 8) = Y2.S.la (I * 8 + J) * 8 + page % 8 := by rw [IntKind.wrap_i64]; omega
      have c0 := hC6.sp.worldC
      have c4 := hC6.wo.memC
      have hWr := rput_at hC6.sp hC6.wo hC6.rm (Y2.S.la (I * 8 + J) * 8 + page % 8) v
      rw [hfit] at hWr
      go_wp2_with fail
      with_reducible refine hWr.mono ?_
      rintro e w9 ⟨rfl, sp9, wo9, rm9, t9⟩
      go_wp2_with fail
      go_ret
      refine ⟨rfl, x2, a2, cap2, l2, ?_, hb2, T6.trans (t9.mono (fun k _ e => Or.inr (Or.inl (Or.inr (Or.inl e)))))⟩
      rw [hset]
      exact ⟨sp9, wo9, rm9, hC6.tk, hC6.nl.touch t9 (fun k hk e => (hC6.ne k hk).2.2.2.2 (Or.inr (Or.inl e))), hC6.ne, hC6.kern, hC6.user, hC6.own, hC6.li⟩
end Go.Proofs.Ytoododpeoffieaa
/-
  The document's own space (penumbraref17): Drop.
-/
namespace Go.Proofs.Ytoododpeoffieaa
open Go.ChangeShapes Go.WideShapes Go.ChangeAt Go.RowKit

theorem Few.rgive {n : Nat} {R : Nat → Int} (h : Few n R) (f : Int) : Few n (rgive R f) := by
  refine ⟨fun i => ?_, fun i hi => ?_⟩
  · unfold Go.Proofs.Ytoododpeoffieaa.rgive
    split
    · unfold rset; split
      · omega
      · exact h.1 i
    · exact h.1 i
  · unfold Go.Proofs.Ytoododpeoffieaa.rgive
    split
    · rename_i hp
      unfold rset; split
      · rename_i e
        exfalso
        unfold rf at hp
        split at hp
        · rw [← e, h.2 i hi] at hp; omega
        · omega
      · exact h.2 i hi
    · exact h.2 i hi
theorem giveL_few : ∀ (l : List Int) (R : Nat → Int) (s : MS), Few s.n R → Few s.n (giveL R s l).1 ∧ (giveL R s l).2.n = s.n
  | [], _, _, h => ⟨h, rfl⟩
  | f :: l, R, s, h => by
    have e : giveL R s (f :: l) = giveL (rgive R f) (s.given R f) l := rfl
    have hn : (s.given R f).n = s.n := MS.given_n _ _ _
    obtain ⟨i1, i2⟩ := giveL_few l (rgive R f) (s.given R f) (by rw [hn]; exact h.rgive f)
    rw [e]
    rw [hn] at i1
    exact ⟨i1, i2.trans hn⟩

set_option maxRecDepth 20000 in
set_option maxHeartbeats 2000000 in
theorem rdrop_any {w : World} {o cw cc co cr cap : Nat} {a : Option Addr} {l : List Int} {x : RS} {y : RW} {Y : YS} (h : DS w o cw cc co cr x y a cap l Y) (hF : Few Y.s.n Y.R) (hR : ∀ j, Y.R j ≤ 1000000) :
    Calls Try.prog 15 #[.pointer (some ⟨o, 0, none⟩)] w fun e w' => e = .returned (.tuple #[]) ∧ RWAt w' x.W y ∧ RM w' y cw cc co cr (giveL Y.R Y.s l).1 (giveL Y.R Y.s l).2 ∧ Touch (fun k => k = o ∨ Turn cw cc co cr k) w w' := by
  have c4 := h.sp.tookC
  rw [h.tk] at c4
  have hlen := h.li.len
  have hcs := h.nl.cells
  have hoT : ¬ Turn cw cc co cr o := by
    rintro (e | e | e | e)
    · exact rowIs_ne h.sp h.rm.po.row (by decide) e
    · exact rowIs_ne h.sp h.rm.me.rw' (by decide) e
    · exact rowIs_ne h.sp h.rm.me.rc (by decide) e
    · exact rowIs_ne h.sp h.rm.me.ro (by decide) e
  have hWT : ¬ Turn cw cc co cr x.W := by
    rintro (e | e | e | e)
    · exact rowIs_ne h.wo h.rm.po.row (by decide) e
    · exact rowIs_ne h.wo h.rm.me.rw' (by decide) e
    · exact rowIs_ne h.wo h.rm.me.rc (by decide) e
    · exact rowIs_ne h.wo h.rm.me.ro (by decide) e
  go_enter Try.func15, Try.ntmps15
  go_wp2_with fail
  go_loopg [9] l.length (fun g i wr => ∃ k : Nat, g + k = l.length ∧ i = .int .i64 k ∧ RM wr y cw cc co cr (giveL Y.R Y.s (l.take k)).1 (giveL Y.R Y.s (l.take k)).2 ∧ Touch (Turn cw cc co cr) w wr)
  case atStart => exact ⟨0, by omega, rfl, h.rm, Touch.refl _ _⟩
  case round =>
    obtain ⟨k, hgk, rfl, hM, t⟩ := hrel
    have sp := h.sp.touch t hoT
    have wo := h.wo.touch t hWT
    by_cases hk : k < l.length
    · have k1 : (k : Int) < (l.length : Int) := by omega
      rcases hcs with e | ⟨g, rfl, hgl, hcs⟩
      · rw [e] at hk; simp at hk
      have cc' : wr.cell? ⟨g, k, none⟩ = some (.int .i64 (l.getD k 0)) := by
        have := hcs k hk
        unfold World.cell? at this ⊢
        rw [t.block g hgl (h.ne g ⟨0, rfl⟩).2.2.2.2]; exact this
      have hts := take_snocI (z := l) (h := hk)
      obtain ⟨hF1, hn1⟩ := giveL_few (l.take k) Y.R Y.s hF
      have hle := giveL_le hR Y.s (l.take k)
      have hG := rpgive_any hM.po hM.me (by rw [hn1]; exact hF1) hM.of (l.getD k 0) (rf_le' hle _)
      have e : giveP (giveL Y.R Y.s (l.take k)) (l.getD k 0) = giveL Y.R Y.s (l.take (k + 1)) := by rw [hts, giveL_snoc]
      have e1 : Hid (rgive (giveL Y.R Y.s (l.take k)).1 (l.getD k 0) = (giveL Y.R Y.s (l.take (k + 1))).1) := by show _ = _; rw [← e]; rfl
      have e2 : Hid ((giveL Y.R Y.s (l.take k)).2.given (giveL Y.R Y.s (l.take k)).1 (l.getD k 0) = (giveL Y.R Y.s (l.take (k + 1))).2) := by show _ = _; rw [← e]; rfl
      have hn2 := (giveL_few (l.take (k + 1)) Y.R Y.s hF).2
      rw [e1.out, e2.out] at hG
      obtain ⟨fr, hfr⟩ : ∃ fr, Hid (l.getD k 0 = fr) := ⟨_, rfl⟩
      rw [hfr.out] at cc' hG
      have c0 := sp.worldC
      have c5 := wo.poolC
      clear hts e hcs
      go_wp2_with fail
      with_reducible refine hG.mono ?_
      rintro e w2 ⟨rfl, p2, m2, t2⟩
      go_wp2_with fail
      go_roundg (l.length - (k + 1))
      case measure => omega
      case rel => exact ⟨k + 1, by omega, by go_num, ⟨m2, by rw [hn2]; rw [hn1] at p2; exact p2, hM.of⟩, t.trans t2⟩
    · obtain rfl : k = l.length := by omega
      rw [List.take_length] at hM
      have k1 : ¬ (l.length : Int) < (l.length : Int) := by omega
      have c4' := sp.tookC
      have z4 := sp.frozen 4
      have tS : Touch (· = o) wr (wr.setCell ⟨o, 4, none⟩ (.slice none 0 0)) := (Touch.refl (· = o) wr).setCell (p := ⟨o, 4, none⟩) rfl _
      have hob : o ≠ y.b := rowIs_ne h.sp h.rm.me.top (by decide)
      have hoq : o ≠ y.q := rowIs_ne h.sp h.rm.po.top (by decide)
      have hoW : x.W ≠ o := rowIs_ne h.wo h.sp (by decide)
      have hM2 := hM.far tS (fun k hk e => by
        rcases hk with e1 | e1 | e1
        · exact hob (e.symm.trans e1)
        · exact hoq (e.symm.trans e1)
        · exact hoT (e ▸ e1))
      have wo2 := wo.touch tS hoW
      rw [h.tk] at c4'
      go_wp2_with fail
      go_end0
      exact ⟨rfl, wo2, hM2, (t.mono (fun k _ e => Or.inr e)).trans (tS.mono (fun k _ e => Or.inl e))⟩
end Go.Proofs.Ytoododpeoffieaa
/-
  Many spaces over one pool, plain: one more, a page set in one, the last one given back.
-/
namespace Go.Proofs.Ytoododpeoffieaa
open Go.ChangeShapes Go.WideShapes Go.ChangeAt Go.RowKit

structure Many (L : List SS) (R : Nat → Int) (s : MS) : Prop where
  n : s.n ≤ 64
  f0 : s.free0
  bd : ∀ j, R j ≤ 1
  few : Few s.n R
  yi : ∀ S ∈ L, YInv ⟨S, R, s⟩
  vi : ∀ S ∈ L, VInv ⟨S, R, s⟩
  r : ∀ S ∈ L, ∀ f, S.its f → R f.toNat = 1
  ap : ∀ (i j : Nat) A B, L[i]? = some A → L[j]? = some B → i ≠ j → ∀ f, A.its f → ¬ B.its f
theorem Many.nil {R : Nat → Int} {s : MS} (n : s.n ≤ 64) (f0 : s.free0) (bd : ∀ j, R j ≤ 1) (few : Few s.n R) : Many [] R s :=
  ⟨n, f0, bd, few, fun S h => by simp at h, fun S h => by simp at h, fun S h => by simp at h, fun i j A B h => by simp at h⟩
/-- What another one is behind a step. -/
theorem Many.other {L : List SS} {y z : YS} (h : Many L y.R y.s) (hz : YInv z) (g : Grow y z) {B : SS} (hB : B ∈ L) (ap : ∀ f, y.S.its f → ¬ B.its f) :
    YInv ⟨B, z.R, z.s⟩ ∧ VInv ⟨B, z.R, z.s⟩ ∧ (∀ f, B.its f → z.R f.toNat = 1) ∧ ∀ f, z.S.its f → ¬ B.its f := by
  have hb := h.yi B hB
  refine ⟨other_inv hz g hb, VInv.other g hb (h.vi B hB) ap, fun f hf => ?_, fun f hf hBf => ?_⟩
  · rw [g.r f (hb.itsHad hf)]; exact h.r B hB f hf
  · rcases g.its f hf with e | e
    · exact ap f e hBf
    · exact e (hb.itsHad hBf)
theorem Many.new {L : List SS} {R : Nat → Int} {s : MS} (h : Many L R s) (own : Int) (kpti : Bool) (hl : (if kpti = true then 2 else 1) ≤ s.left) :
    Many (L ++ [(YS.new own kpti R s).S]) (YS.new own kpti R s).R (YS.new own kpti R s).s := by
  obtain ⟨a, b, g, fw⟩ := new_facts own kpti h.n h.f0 hl
  have few := fw h.few
  generalize YS.new own kpti R s = z at *
  have ot := fun B (hB : B ∈ L) => Many.other (y := ⟨SS.nil own, R, s⟩) h a g hB (fun f e => absurd e (nil_its own f))
  have hr : ∀ f, z.S.its f → z.R f.toNat = 1 := fun f hf => by
    rcases g.its f hf with e | e
    · exact absurd e (nil_its own f)
    · exact g.r1 f hf e
  refine ⟨a.n64, a.free0, g.bd h.bd, by rw [show z.s.n = s.n from g.n]; exact few, fun S hS => ?_, fun S hS => ?_, fun S hS => ?_, fun i j A B hA hB hne f fA fB => ?_⟩
  · rcases List.mem_append.1 hS with hS | hS
    · exact (ot S hS).1
    · rw [List.mem_singleton] at hS; subst hS; exact a
  · rcases List.mem_append.1 hS with hS | hS
    · exact (ot S hS).2.1
    · rw [List.mem_singleton] at hS; subst hS; exact b
  · rcases List.mem_append.1 hS with hS | hS
    · exact (ot S hS).2.2.1
    · rw [List.mem_singleton] at hS; subst hS; exact hr
  · have key : ∀ (k : Nat) C, (L ++ [z.S])[k]? = some C → (k < L.length ∧ L[k]? = some C ∧ C ∈ L) ∨ (k = L.length ∧ C = z.S) := by
      intro k C hC
      by_cases hk : k < L.length
      · rw [List.getElem?_append_left hk] at hC
        exact Or.inl ⟨hk, hC, List.mem_of_getElem? hC⟩
      · rw [List.getElem?_append_right (by omega)] at hC
        have hk2 : k - L.length = 0 := by
          have := (List.getElem?_eq_some_iff.1 hC).1
          simp at this; omega
        rw [hk2] at hC
        simp at hC
        exact Or.inr ⟨by omega, hC.symm⟩
    rcases key i A hA with ⟨h1, h2, h3⟩ | ⟨h1, h2⟩ <;> rcases key j B hB with ⟨k1, k2, k3⟩ | ⟨k1, k2⟩
    · exact h.ap i j A B h2 k2 hne f fA fB
    · subst k2; exact (ot A h3).2.2.2 f fB fA
    · subst h2; exact (ot B k3).2.2.2 f fA fB
    · omega
theorem few_set {y : YS} (hf : Few y.s.n y.R) {page : Int} (hm : y.may page = true) (x : Int) : Few (y.set page x).s.n (y.set page x).R := by
  have hu := may_up hm
  have hl := may_la hm
  have e1 := up1_n y (page / 64).toNat
  have e2 := la1_n (y.up1 (page / 64).toNat) (page / 64).toNat (page / 8 % 8).toNat
  have f1 : Few (y.up1 (page / 64).toNat).s.n (y.up1 (page / 64).toNat).R := by
    rw [e1]
    unfold YS.up1
    split
    · rename_i h0
      exact few_rset hf (least_left (hu h0)).hi
    · exact hf
  have f2 : Few ((y.up1 (page / 64).toNat).la1 (page / 64).toNat (page / 8 % 8).toNat).s.n ((y.up1 (page / 64).toNat).la1 (page / 64).toNat (page / 8 % 8).toNat).R := by
    rw [e2]
    generalize y.up1 (page / 64).toNat = z at *
    unfold YS.la1
    split
    · rename_i h0
      exact few_rset f1 (least_left (hl h0)).hi
    · exact f1
  show Few ((MS.write _ _ _).n) _
  rw [MS.write_n]; exact f2
theorem Many.set {L : List SS} {R : Nat → Int} {s : MS} (h : Many L R s) {k : Nat} {S : SS} (hk : L[k]? = some S) {page : Int} (hm : (⟨S, R, s⟩ : YS).may page = true) (x : Int) :
    Many (L.set k ((⟨S, R, s⟩ : YS).set page x).S) ((⟨S, R, s⟩ : YS).set page x).R ((⟨S, R, s⟩ : YS).set page x).s := by
  have hS := List.mem_of_getElem? hk
  have hy := h.yi S hS
  obtain ⟨a, _⟩ := hy.set hm x
  have b := (h.vi S hS).set hy hm x
  have g := grow_set hy hm x
  have few := few_set (y := ⟨S, R, s⟩) h.few hm x
  generalize (⟨S, R, s⟩ : YS).set page x = z at *
  have hkl : k < L.length := (List.getElem?_eq_some_iff.1 hk).1
  have ot := fun (i : Nat) B (hB : L[i]? = some B) (hne : i ≠ k) => Many.other (y := ⟨S, R, s⟩) h a g (List.mem_of_getElem? hB) (fun f e => h.ap k i S B hk hB (Ne.symm hne) f e)
  have hr : ∀ f, z.S.its f → z.R f.toNat = 1 := fun f hf => by
    by_cases hh : s.had f
    · rw [g.r f hh]
      rcases g.its f hf with e | e
      · exact h.r S hS f e
      · exact absurd hh e
    · exact g.r1 f hf hh
  have key : ∀ (i : Nat) C, (L.set k z.S)[i]? = some C → (i ≠ k ∧ L[i]? = some C) ∨ (i = k ∧ C = z.S) := by
    intro i C hC
    rw [List.getElem?_set] at hC
    by_cases e : k = i
    · subst e
      rw [if_pos rfl, if_pos hkl] at hC
      exact Or.inr ⟨rfl, by simpa using hC.symm⟩
    · rw [if_neg e] at hC
      exact Or.inl ⟨fun q => e q.symm, hC⟩
  refine ⟨a.n64, a.free0, g.bd h.bd, few, fun C hC => ?_, fun C hC => ?_, fun C hC => ?_, fun i j A B hA hB hne f fA fB => ?_⟩
  · obtain ⟨i, hi⟩ := List.getElem?_of_mem hC
    rcases key i C hi with ⟨h1, h2⟩ | ⟨h1, h2⟩
    · exact (ot i C h2 h1).1
    · subst h2; exact a
  · obtain ⟨i, hi⟩ := List.getElem?_of_mem hC
    rcases key i C hi with ⟨h1, h2⟩ | ⟨h1, h2⟩
    · exact (ot i C h2 h1).2.1
    · subst h2; exact b
  · obtain ⟨i, hi⟩ := List.getElem?_of_mem hC
    rcases key i C hi with ⟨h1, h2⟩ | ⟨h1, h2⟩
    · exact (ot i C h2 h1).2.2.1
    · subst h2; exact hr
  · rcases key i A hA with ⟨h1, h2⟩ | ⟨h1, h2⟩ <;> rcases key j B hB with ⟨k1, k2⟩ | ⟨k1, k2⟩
    · exact h.ap i j A B h2 k2 hne f fA fB
    · subst k2; exact (ot i A h2 h1).2.2.2 f fB fA
    · subst h2; exact (ot j B k2 k1).2.2.2 f fA fB
    · omega
theorem Many.drop {L : List SS} {A : SS} {R : Nat → Int} {s : MS} (h : Many (L ++ [A]) R s) : Many L (giveL R s A.stab).1 (giveL R s A.stab).2 := by
  have hA : A ∈ L ++ [A] := by simp
  have ha := h.yi A hA
  have hn0 := giveL_few A.stab R s h.few
  obtain ⟨i1, i2, i3, i4, i5, i6⟩ := give_all A.stab R s h.n (fun f hf => ⟨ha.itsHad (tabs_its hf), h.r A hA f (tabs_its hf)⟩) (stab_nodup A) h.bd h.f0
  have at' : ∀ B ∈ L, ∃ i, L[i]? = some B ∧ i < L.length := fun B hB => by
    obtain ⟨i, hi⟩ := List.getElem?_of_mem hB
    exact ⟨i, hi, (List.getElem?_eq_some_iff.1 hi).1⟩
  have hno : ∀ B ∈ L, ∀ f, B.its f → f ∉ A.stab := fun B hB f fB hm => by
    obtain ⟨i, hi, hlt⟩ := at' B hB
    exact h.ap i L.length B A (by rw [List.getElem?_append_left hlt]; exact hi) (by simp) (by omega) f fB (tabs_its hm)
  have old : ∀ B ∈ L, B ∈ L ++ [A] := fun B hB => List.mem_append_left _ hB
  have had : ∀ B ∈ L, ∀ f, B.its f → (giveL R s A.stab).2.had f := fun B hB f fB => (i3 f ((h.yi B (old B hB)).itsHad fB) (hno B hB f fB)).1
  have hrd : ∀ B ∈ L, ∀ f m : Int, B.its f → 0 ≤ m → m < 8 → (giveL R s A.stab).2.rd (f * 8 + m) = s.rd (f * 8 + m) := fun B hB f m fB m0 m1 => i4 f m ((h.yi B (old B hB)).itsHad fB) (hno B hB f fB) m0 m1
  refine ⟨by rw [i1]; exact h.n, i5, i6, by rw [hn0.2]; exact hn0.1, fun B hB => ?_, fun B hB => ?_, fun B hB f hf => ?_, fun i j C D hC hD hne => ?_⟩
  · have hb := h.yi B (old B hB)
    have k0 : B.kern ≠ 0 := by have := hb.kern.1; dsimp only at this; omega
    have u0 : B.user ≠ 0 := by have := hb.user.1; dsimp only at this; omega
    refine ⟨by rw [i1]; exact h.n, had B hB _ ⟨k0, Or.inl rfl⟩, had B hB _ ⟨u0, Or.inr (Or.inl rfl)⟩, fun i => ?_, fun k => ?_, hb.upNe, hb.laNe, hb.upla, hb.upR, hb.laR, hb.laUp, i5⟩
    · by_cases e : B.up i = 0
      · exact Or.inl e
      · exact Or.inr (had B hB _ ⟨e, Or.inr (Or.inr (Or.inl ⟨i, rfl⟩))⟩)
    · by_cases e : B.la k = 0
      · exact Or.inl e
      · exact Or.inr (had B hB _ ⟨e, Or.inr (Or.inr (Or.inr ⟨k, rfl⟩))⟩)
  · have hb := h.yi B (old B hB)
    have v := h.vi B (old B hB)
    have u0 : B.user ≠ 0 := by have := hb.user.1; dsimp only at this; omega
    refine ⟨fun i hi => ?_, fun i j hi hj hne => ?_⟩
    · show Leads ((giveL R s A.stab).2.rd (B.user * 8 + i)) (B.up i)
      rw [hrd B hB _ _ ⟨u0, Or.inr (Or.inl rfl)⟩ (by omega) (by omega)]
      exact v.ku i hi
    · show Leads ((giveL R s A.stab).2.rd (B.up i * 8 + j)) (B.la (i * 8 + j))
      rw [hrd B hB _ _ ⟨hne, Or.inr (Or.inr (Or.inl ⟨i, rfl⟩))⟩ (by omega) (by omega)]
      exact v.ul i j hi hj hne
  · rw [(i3 f ((h.yi B (old B hB)).itsHad hf) (hno B hB f hf)).2]
    exact h.r B (old B hB) f hf
  · have hi : i < L.length := (List.getElem?_eq_some_iff.1 hC).1
    have hj : j < L.length := (List.getElem?_eq_some_iff.1 hD).1
    exact h.ap i j C D (by rw [List.getElem?_append_left hi]; exact hC) (by rw [List.getElem?_append_left hj]; exact hD) hne
end Go.Proofs.Ytoododpeoffieaa
/-
  The document's own space (penumbraref17): a new one.
-/
namespace Go.Proofs.Ytoododpeoffieaa
open Go.ChangeShapes Go.WideShapes Go.ChangeAt Go.RowKit

set_option maxHeartbeats 400000 in
theorem rroots_any (N P : Int) (kpti inv : Bool) (w : World) : Calls Try.prog 44 #[.agg #[.int .i64 N, .int .i64 P, .bool kpti, .bool inv]] w fun e w' => e = .returned (.int .i64 (if kpti = true then 2 else 1)) ∧ Touch Nil w w' := by
  have t := (Touch.refl Nil w).alloc (.cells #[.int .i64 N, .int .i64 P, .bool kpti, .bool inv] 24)
  cases kpti
  all_goals
    go_enter Try.func44, Try.ntmps44
    go_wp2
    go_ret
    exact ⟨rfl, t⟩

set_option maxRecDepth 20000 in
set_option maxHeartbeats 2000000 in
theorem rnew_no {w : World} {W cw cc co cr : Nat} {y : RW} {R : Nat → Int} {s : MS} (h : RWAt w W y) (m : RM w y cw cc co cr R s) (own : Int) (hl : ¬ (if y.kpti = true then 2 else 1) ≤ s.left) :
    Calls Try.prog 13 #[.pointer (some ⟨W, 0, none⟩), .int .i64 own] w fun e w' => e = .returned (.tuple #[.pointer none, .bool false]) ∧ Touch Nil w w' := by
  have c0 := World.rowIs.cell h (i := 0) (by omega)
  have c1 := World.rowIs.cell h (i := 1) (by omega)
  have c2 := World.rowIs.cell h (i := 2) (by omega)
  have c3 := World.rowIs.cell h (i := 3) (by omega)
  have c5 := h.poolC
  have tD := (Touch.refl Nil w).drew
  have hLf := rpleft_any (m.nil tD).po (m.nil tD).me
  have hRt := fun wx => rroots_any y.N y.P y.kpti y.inv wx
  have HS : ∀ wx, Touch Nil w wx → wx.cell? ⟨W, 0, none⟩ = some (.int .i64 y.N) ∧ wx.cell? ⟨W, 1, none⟩ = some (.int .i64 y.P) ∧ wx.cell? ⟨W, 2, none⟩ = some (.bool y.kpti) ∧ wx.cell? ⟨W, 3, none⟩ = some (.bool y.inv) ∧ wx.cell? ⟨W, 5, none⟩ = some (.pointer (some ⟨y.q, 0, none⟩)) := fun wx t => by
    have h' := h.touch t id
    exact ⟨World.rowIs.cell h' (i := 0) (by omega), World.rowIs.cell h' (i := 1) (by omega), World.rowIs.cell h' (i := 2) (by omega), World.rowIs.cell h' (i := 3) (by omega), h'.poolC⟩
  have s0 := HS _ tD
  obtain ⟨n, hn⟩ : ∃ n : Nat, (if y.kpti = true then 2 else 1) = n := ⟨_, rfl⟩
  have hnI : (if y.kpti = true then (2 : Int) else 1) = (n : Int) := by rw [← hn]; split <;> rfl
  rw [hn] at hl
  rw [hnI] at hRt
  have hl' : (s.left : Int) < (n : Int) := by omega
  clear c0 c1 c2 c3 c5 hn hnI
  go_enter Try.func13, Try.ntmps13
  go_upto_region 1 with fail
  go_region_held3 (fun wx => wx.cell? ⟨W, 0, none⟩ = some (.int .i64 y.N) ∧ wx.cell? ⟨W, 1, none⟩ = some (.int .i64 y.P) ∧ wx.cell? ⟨W, 2, none⟩ = some (.bool y.kpti) ∧ wx.cell? ⟨W, 3, none⟩ = some (.bool y.inv) ∧ wx.cell? ⟨W, 5, none⟩ = some (.pointer (some ⟨y.q, 0, none⟩))) (first | exact s0 | exact s3)
    (first
      | (go_at_call 43; refine hLf.mono ?_; rintro e wq ⟨hx1, hx2⟩; subst hx1; subst hx2)
      | (go_at_call 44; refine (hRt _).mono ?_; rintro e w3 ⟨hx, t3⟩; subst hx; have T3 := tD.trans t3; have s3 := HS _ T3))
  go_wp2_with fail
  go_ret2
  exact ⟨rfl, T3⟩
end Go.Proofs.Ytoododpeoffieaa
/-
  The document's own space (penumbraref17): a new one, where there are frames.
-/
namespace Go.Proofs.Ytoododpeoffieaa
open Go.ChangeShapes Go.WideShapes Go.ChangeAt Go.RowKit

theorem RSAt.setKern {w : World} {o : Nat} {x : RS} (h : RSAt w o x) (f : Int) : RSAt (w.setCell ⟨o, 2, none⟩ (.int .i64 f)) o { x with kern := f } := by
  refine (World.rowIs.set h 2 _).congr fun i hi => ?_
  unfold RS.cell
  by_cases e : i = 2
  · subst e; rfl
  · rw [if_neg e]
    rcases (by omega : i = 0 ∨ i = 1 ∨ i = 3 ∨ i = 4) with rfl | rfl | rfl | rfl <;> rfl
theorem RSAt.setUser {w : World} {o : Nat} {x : RS} (h : RSAt w o x) (f : Int) : RSAt (w.setCell ⟨o, 3, none⟩ (.int .i64 f)) o { x with user := f } := by
  refine (World.rowIs.set h 3 _).congr fun i hi => ?_
  unfold RS.cell
  by_cases e : i = 3
  · subst e; rfl
  · rw [if_neg e]
    rcases (by omega : i = 0 ∨ i = 1 ∨ i = 2 ∨ i = 4) with rfl | rfl | rfl | rfl <;> rfl

set_option maxRecDepth 20000 in
set_option maxHeartbeats 2000000 in
theorem rnew_yes {w : World} {W cw cc co cr : Nat} {y : RW} {R : Nat → Int} {s : MS} (h : RWAt w W y) (m : RM w y cw cc co cr R s) (own : Int) (hl : (if y.kpti = true then 2 else 1) ≤ s.left) :
    Calls Try.prog 13 #[.pointer (some ⟨W, 0, none⟩), .int .i64 own] w fun e w' => ∃ o x a cap l, e = .returned (.tuple #[.pointer (some ⟨o, 0, none⟩), .bool true]) ∧ w.heap.size ≤ o ∧ x.W = W ∧ DS w' o cw cc co cr x y a cap l (YS.new own y.kpti R s) ∧ (∀ k, blkA a k → w.heap.size ≤ k) ∧ Touch (Turn cw cc co cr) w w' := by
  have tD := (Touch.refl Nil w).drew
  have hLf := rpleft_any (m.nil tD).po (m.nil tD).me
  have hRt := fun wx => rroots_any y.N y.P y.kpti y.inv wx
  have HS : ∀ wx, Touch Nil w wx → wx.cell? ⟨W, 0, none⟩ = some (.int .i64 y.N) ∧ wx.cell? ⟨W, 1, none⟩ = some (.int .i64 y.P) ∧ wx.cell? ⟨W, 2, none⟩ = some (.bool y.kpti) ∧ wx.cell? ⟨W, 3, none⟩ = some (.bool y.inv) ∧ wx.cell? ⟨W, 5, none⟩ = some (.pointer (some ⟨y.q, 0, none⟩)) := fun wx t => by
    have h' := h.touch t id
    exact ⟨World.rowIs.cell h' (i := 0) (by omega), World.rowIs.cell h' (i := 1) (by omega), World.rowIs.cell h' (i := 2) (by omega), World.rowIs.cell h' (i := 3) (by omega), h'.poolC⟩
  have s0 := HS _ tD
  obtain ⟨n, hn⟩ : ∃ n : Nat, (if y.kpti = true then 2 else 1) = n := ⟨_, rfl⟩
  have hnI : (if y.kpti = true then (2 : Int) else 1) = (n : Int) := by rw [← hn]; split <;> rfl
  have hl0 := hl
  rw [hn] at hl
  rw [hnI] at hRt
  have hl' : ¬ (s.left : Int) < (n : Int) := by omega
  clear hn hnI
  go_enter Try.func13, Try.ntmps13
  go_upto_region 1 with fail
  go_region_held3 (fun wx => wx.cell? ⟨W, 0, none⟩ = some (.int .i64 y.N) ∧ wx.cell? ⟨W, 1, none⟩ = some (.int .i64 y.P) ∧ wx.cell? ⟨W, 2, none⟩ = some (.bool y.kpti) ∧ wx.cell? ⟨W, 3, none⟩ = some (.bool y.inv) ∧ wx.cell? ⟨W, 5, none⟩ = some (.pointer (some ⟨y.q, 0, none⟩))) (first | exact s0 | exact s3)
    (first
      | (go_at_call 43; refine hLf.mono ?_; rintro e wq ⟨hx1, hx2⟩; subst hx1; subst hx2)
      | (go_at_call 44; refine (hRt _).mono ?_; rintro e w3 ⟨hx, t3⟩; subst hx; have T3 := tD.trans t3; have s3 := HS _ T3))
  clear s0 s3 hLf hRt HS
  have h3 := h.touch T3 id
  have m3 := m.nil T3
  clear t3 tD
  have sp0 : RSAt (w3.alloc (.cells #[.pointer (some ⟨W, 0, none⟩), .int .i64 own, .int .i64 0, .int .i64 0, .slice none 0 0] 61)) w3.heap.size ⟨W, own, 0, 0, .slice none 0 0⟩ := by
    have := World.rowIs_alloc w3 #[.pointer (some ⟨W, 0, none⟩), .int .i64 own, .int .i64 0, .int .i64 0, .slice none 0 0] 61 (RS.cell ⟨W, own, 0, 0, .slice none 0 0⟩) (fun i hi => by
      have hi : i < 5 := by simpa using hi
      rcases (by omega : i = 0 ∨ i = 1 ∨ i = 2 ∨ i = 3 ∨ i = 4) with rfl | rfl | rfl | rfl | rfl <;> rfl)
    exact this
  have tA := (Touch.refl Nil w3).alloc (.cells #[.pointer (some ⟨W, 0, none⟩), .int .i64 own, .int .i64 0, .int .i64 0, .slice none 0 0] 61)
  go_upto_region 4 with fail
  have h4 := h3.touch tA id
  have m4 := m3.nil tA
  have T4 := T3.trans tA
  have how : w.heap.size ≤ w3.heap.size := T3.size
  generalize w3.alloc (.cells #[.pointer (some ⟨W, 0, none⟩), .int .i64 own, .int .i64 0, .int .i64 0, .slice none 0 0] 61) = w4 at *
  generalize w3.heap.size = o at *
  clear h3 m3 T3 tA
  have hL1 := least_left (s := s) (by split at hl0 <;> omega)
  have hLi := hL1.lo
  have hTk := rtake_any (l := []) (a := none) (cap := 0) sp0 h4 m4 rfl (NL.nil w4) (by simp) (fun k hk => by obtain ⟨_, e⟩ := hk; cases e) hL1
  go_wp2_with fail
  with_reducible refine hTk.mono ?_
  rintro e w5 ⟨g1, cap1, rfl, sp5, m5, nl5, hg1, t5⟩
  have hWo : W ≠ o := rowIs_ne h4 sp0 (by decide)
  have hWT : ¬ Turn cw cc co cr W := by
    rintro (e | e | e | e)
    · exact rowIs_ne h4 m4.po.row (by decide) e
    · exact rowIs_ne h4 m4.me.rw' (by decide) e
    · exact rowIs_ne h4 m4.me.rc (by decide) e
    · exact rowIs_ne h4 m4.me.ro (by decide) e
  have hoM : o ≠ y.b ∧ o ≠ y.q ∧ ¬ Turn cw cc co cr o := by
    refine ⟨rowIs_ne sp0 m4.me.top (by decide), rowIs_ne sp0 m4.po.top (by decide), ?_⟩
    rintro (e | e | e | e)
    · exact rowIs_ne sp0 m4.po.row (by decide) e
    · exact rowIs_ne sp0 m4.me.rw' (by decide) e
    · exact rowIs_ne sp0 m4.me.rc (by decide) e
    · exact rowIs_ne sp0 m4.me.ro (by decide) e
  have hMO : ∀ (wa wb : World) (R : Nat → Int) (s : MS), RM wa y cw cc co cr R s → Touch (· = o) wa wb → RM wb y cw cc co cr R s := fun wa wb R s hm t => hm.far t (fun k hk e => by
    rcases hk with e1 | e1 | e1
    · exact hoM.1 (e.symm.trans e1)
    · exact hoM.2.1 (e.symm.trans e1)
    · exact hoM.2.2 (e ▸ e1))
  have how4 := sp0.lt
  have hg1' : w4.heap.size ≤ g1 := hg1.resolve_left (fun ⟨_, e⟩ => by cases e)
  have h5 := h4.touch t5 (by
    rintro (e | e | ⟨_, e⟩)
    · exact hWo e
    · exact hWT e
    · cases e)
  obtain ⟨f, hf⟩ : ∃ f, s.least = f := ⟨_, rfl⟩
  rw [hf] at m5 nl5 hLi hL1
  rw [hf]
  have c2 := sp5.kernC
  have z2 := sp5.frozen 2
  have sp6 := sp5.setKern (f : Int)
  have t6 : Touch (· = o) w5 (w5.setCell ⟨o, 2, none⟩ (.int .i64 f)) := (Touch.refl (· = o) w5).setCell (p := ⟨o, 2, none⟩) rfl _
  have m6 := hMO _ _ _ _ m5 t6
  have h6 := h5.touch t6 hWo
  have nl6 := nl5.touch t6 (fun k hk e => by obtain ⟨_, e1⟩ := hk; cases e1; omega)
  have T6 : Touch (fun k => k = o ∨ Turn cw cc co cr k) w4 (w5.setCell ⟨o, 2, none⟩ (.int .i64 f)) := (t5.mono (fun k _ e => by rcases e with e | e | ⟨_, e⟩; exact Or.inl e; exact Or.inr e; cases e)).trans (t6.mono (fun k _ e => Or.inl e))
  go_upto_region 5 with fail
  generalize w5.setCell ⟨o, 2, none⟩ (.int .i64 f) = w6 at *
  clear c2 z2 sp5 m5 h5 nl5 t5 t6 hTk
  have c2 := sp6.kernC
  have c3 := sp6.userC
  have z3 := sp6.frozen 3
  have sp7 := sp6.setUser (f : Int)
  have t7 : Touch (· = o) w6 (w6.setCell ⟨o, 3, none⟩ (.int .i64 f)) := (Touch.refl (· = o) w6).setCell (p := ⟨o, 3, none⟩) rfl _
  have m7 := hMO _ _ _ _ m6 t7
  have h7 := h6.touch t7 hWo
  have nl7 := nl6.touch t7 (fun k hk e => by obtain ⟨_, e1⟩ := hk; cases e1; omega)
  have T7 := T6.trans (t7.mono (fun k _ e => Or.inl e))
  go_upto_region 6 with fail
  generalize w6.setCell ⟨o, 3, none⟩ (.int .i64 f) = w7 at *
  clear c2 c3 z3 sp6 m6 h6 nl6 t7 T6
  have ck := h7.kptiC
  obtain ⟨u, hu⟩ : ∃ u : Nat, (if y.kpti = true then (s.mark (f : Int) 1 own).least else f) = u := ⟨_, rfl⟩
  obtain ⟨R1, hR1⟩ : ∃ R1, (if y.kpti = true then rset (rset R (f : Int) 1) (u : Int) 1 else rset R (f : Int) 1) = R1 := ⟨_, rfl⟩
  obtain ⟨s1, hs1⟩ : ∃ s1, (if y.kpti = true then (s.mark (f : Int) 1 own).mark (u : Int) 1 own else s.mark (f : Int) 1 own) = s1 := ⟨_, rfl⟩
  obtain ⟨l1, hl1⟩ : ∃ l1, (if y.kpti = true then [(f : Int), (u : Int)] else [(f : Int)]) = l1 := ⟨_, rfl⟩
  go_upto_if 38 with fail
  have hLl : (s.mark (f : Int) 1 own).left + 1 = s.left := mark_left hL1 own
  have hf0 : (15 : Nat) ≤ f := hLi
  go_cut [38] (fun _ wx => ∃ g cap, RSAt wx o ⟨W, own, f, u, .slice (some ⟨g, 0, none⟩) l1.length cap⟩ ∧ RWAt wx W y ∧ RM wx y cw cc co cr R1 s1 ∧ NL wx (some ⟨g, 0, none⟩) cap l1 ∧ w4.heap.size ≤ g ∧ Touch (fun k => k = o ∨ Turn cw cc co cr k) w4 wx)
  case first =>
    obtain ⟨kp, hkp⟩ : ∃ kp, y.kpti = kp := ⟨_, rfl⟩
    rw [hkp] at hu hR1 hs1 hl1 hl0 ck ⊢
    cases kp
    · simp only [Bool.false_eq_true, if_false] at hu hR1 hs1 hl1
      subst hu hR1 hs1 hl1
      go_wp2_with fail
      go_meet
      exact ⟨g1, cap1, sp7, h7, m7, nl7, hg1', T7⟩
    · simp only [if_true] at hu hR1 hs1 hl1 hl0
      have hL2 := least_left (s := s.mark (f : Int) 1 own) (by omega)
      rw [hu] at hL2
      have hTk := rtake_any sp7 h7 m7 rfl nl7 (by simp) (fun k hk => by
        obtain ⟨_, e⟩ := hk
        cases e
        refine ⟨by omega, fun e => ?_, fun e => ?_, fun e => ?_, fun e => ?_⟩
        · have := h4.lt; have e' : g1 = W := e; omega
        · have := m4.me.top.lt; omega
        · have := m4.po.top.lt; omega
        · rcases e with e | e | e | e
          · have := m4.po.row.lt; omega
          · have := m4.me.rw'.lt; omega
          · have := m4.me.rc.lt; omega
          · have := m4.me.ro.lt; omega) hL2
      go_wp2_with fail
      with_reducible refine hTk.mono ?_
      rintro e w8 ⟨g2, cap2, rfl, sp8, m8, nl8, hg2, t8⟩
      have hg2' : w4.heap.size ≤ g2 := by
        rcases hg2 with ⟨_, e⟩ | e
        · cases e; exact hg1'
        · have := T7.size; omega
      have h8 := h7.touch t8 (by
        rintro (e | e | ⟨_, e⟩)
        · exact hWo e
        · exact hWT e
        · cases e; have := h4.lt; omega)
      have c3 := sp8.userC
      have z3 := sp8.frozen 3
      have sp9 := sp8.setUser (u : Int)
      have t9 : Touch (· = o) w8 (w8.setCell ⟨o, 3, none⟩ (.int .i64 u)) := (Touch.refl (· = o) w8).setCell (p := ⟨o, 3, none⟩) rfl _
      have m9 := hMO _ _ _ _ m8 t9
      have h9 := h8.touch t9 hWo
      have nl9 := nl8.touch t9 (fun k hk e => by obtain ⟨_, e1⟩ := hk; cases e1; omega)
      have T9 : Touch (fun k => k = o ∨ Turn cw cc co cr k) w4 (w8.setCell ⟨o, 3, none⟩ (.int .i64 u)) := (T7.transNew t8 (fun k hk e => by
        rcases e with e | e | ⟨_, e⟩
        · exact Or.inl e
        · exact Or.inr e
        · cases e; omega)).trans (t9.mono (fun k _ e => Or.inl e))
      go_wp2_with fail
      go_meet
      refine ⟨g2, cap2, ?_, h9, ?_, ?_, hg2', T9⟩
      · rw [← hl1]; exact sp9
      · rw [← hR1, ← hs1]; exact m9
      · rw [← hl1]; exact nl9
  case rest =>
    obtain ⟨g, cap, spX, hX, mX, nlX, hgX, TX⟩ := hcut
    have hu64 : (f : Int) < 64 ∧ (u : Int) < 64 := by
      have hle := m.me.le
      have h1 := hL1.hi
      refine ⟨by omega, ?_⟩
      cases hk : y.kpti
      · rw [hk] at hu; simp only [Bool.false_eq_true, if_false] at hu; omega
      · rw [hk] at hu hl0
        simp only [if_true] at hu hl0
        have hL2 := least_left (s := s.mark (f : Int) 1 own) (by omega)
        rw [hu] at hL2
        have := hL2.hi
        rw [MS.mark_n] at this
        omega
    have huf : y.kpti = true → u ≠ f := fun hk e => by
      rw [hk] at hu hl0
      simp only [if_true] at hu hl0
      have hL2 := least_left (s := s.mark (f : Int) 1 own) (by omega)
      rw [hu, e] at hL2
      exact least_nohad hL2 (mark_new hL1 own)
    have hkuf : y.kpti = false → u = f := fun hk => by
      rw [hk] at hu; simp only [Bool.false_eq_true, if_false] at hu; exact hu.symm
    obtain ⟨X, hX0⟩ : ∃ X, Hid ((⟨W, own, f, u, .slice (some ⟨g, 0, none⟩) l1.length cap⟩ : RS) = X) := ⟨_, rfl⟩
    rw [hX0.out] at spX
    have qW : X.W = W := by rw [← hX0.out]
    have qk : X.kern = f := by rw [← hX0.out]
    have qu : X.user = u := by rw [← hX0.out]
    rw [← qW] at hX
    have HS : ∀ wx, RSAt wx o X → RWAt wx X.W y → wx.cell? ⟨o, 0, none⟩ = some (.pointer (some ⟨W, 0, none⟩)) ∧ wx.cell? ⟨W, 4, none⟩ = some (.pointer (some ⟨y.b, 0, none⟩)) ∧ wx.cell? ⟨o, 2, none⟩ = some (.int .i64 f) ∧ wx.cell? ⟨o, 3, none⟩ = some (.int .i64 u) ∧ wx.cell? ⟨W, 7, none⟩ = some (.int .i64 3) ∧ wx.cell? ⟨W, 8, none⟩ = some (.int .i64 13) := fun wx h hw => by
      have a0 := h.worldC
      have a1 := hw.memC
      have a2 := h.kernC
      have a3 := h.userC
      have a4 := hw.mapC
      have a5 := hw.gateC
      rw [qW] at a0 a1 a4 a5
      rw [qk] at a2
      rw [qu] at a3
      exact ⟨a0, a1, a2, a3, a4, a5⟩
    have hBm := fun wx => bits_any true false false 3 wx (by omega) (by omega)
    have hBg := fun wx => bits_any true true false 13 wx (by omega) (by omega)
    have w1 : IntKind.i64.wrap ((f : Int) * 8) = (f : Int) * 8 := by rw [IntKind.wrap_i64]; omega
    have w2 : IntKind.i64.wrap ((f : Int) * 8 + 4) = (f : Int) * 8 + 4 := by rw [IntKind.wrap_i64]; omega
    have w3 : IntKind.i64.wrap ((f : Int) * 8 + 7) = (f : Int) * 8 + 7 := by rw [IntKind.wrap_i64]; omega
    have w5 : IntKind.i64.wrap ((u : Int) * 8) = (u : Int) * 8 := by rw [IntKind.wrap_i64]; omega
    have w6 : IntKind.i64.wrap ((u : Int) * 8 + 7) = (u : Int) * 8 + 7 := by rw [IntKind.wrap_i64]; omega
    clear ck sp7 h7 m7 nl7 T7 sp0
    have HNa : ∀ wx, Touch Nil wc wx → RSAt wx o X ∧ RWAt wx X.W y ∧ RM wx y cw cc co cr R1 s1 := fun wx t => ⟨spX.touch t id, hX.touch t id, mX.nil t⟩
    have tDa := (Touch.refl Nil wc).drew
    obtain ⟨spDa, woDa, rmDa⟩ := HNa _ tDa
    have sa0 := HS _ spDa woDa
    go_upto_region 8 with fail
    go_region_held3 (fun wx => wx.cell? ⟨o, 0, none⟩ = some (.pointer (some ⟨W, 0, none⟩)) ∧ wx.cell? ⟨W, 4, none⟩ = some (.pointer (some ⟨y.b, 0, none⟩)) ∧ wx.cell? ⟨o, 2, none⟩ = some (.int .i64 f) ∧ wx.cell? ⟨o, 3, none⟩ = some (.int .i64 u) ∧ wx.cell? ⟨W, 7, none⟩ = some (.int .i64 3) ∧ wx.cell? ⟨W, 8, none⟩ = some (.int .i64 13)) (first | exact sa0 | exact sa8 | exact sa9)
      (first
        | (go_at_call 47; refine (hBm _).mono ?_; rintro e wa8 ⟨hz, ta8⟩; subst hz; obtain ⟨spa8, woa8, rma8⟩ := HNa _ (tDa.trans ta8); have sa8 := HS _ spa8 woa8)
        | (go_at_call 46; refine (rput_at spa8 woa8 rma8 _ _).mono ?_; rintro e wa9 ⟨hz, spa9, woa9, rma9, ta9⟩; subst hz; have sa9 := HS _ spa9 woa9))
    have Ua : Touch (· = cw) wc wa9 := ((tDa.trans ta8).mono (fun _ _ e => e.elim)).trans ta9
    clear sa0 sa8 sa9 spDa woDa rmDa spa8 woa8 rma8 ta8 ta9 tDa HNa
    go_wp2_with fail
    have HNb : ∀ wx, Touch Nil wa9 wx → RSAt wx o X ∧ RWAt wx X.W y ∧ RM wx y cw cc co cr R1 (s1.write ((f : Int) * 8 + 4) (packV true false false 3)) := fun wx t => ⟨spa9.touch t id, woa9.touch t id, rma9.nil t⟩
    have tDb := (Touch.refl Nil wa9).drew
    obtain ⟨spDb, woDb, rmDb⟩ := HNb _ tDb
    have sb0 := HS _ spDb woDb
    go_upto_region 9 with fail
    go_region_held3 (fun wx => wx.cell? ⟨o, 0, none⟩ = some (.pointer (some ⟨W, 0, none⟩)) ∧ wx.cell? ⟨W, 4, none⟩ = some (.pointer (some ⟨y.b, 0, none⟩)) ∧ wx.cell? ⟨o, 2, none⟩ = some (.int .i64 f) ∧ wx.cell? ⟨o, 3, none⟩ = some (.int .i64 u) ∧ wx.cell? ⟨W, 7, none⟩ = some (.int .i64 3) ∧ wx.cell? ⟨W, 8, none⟩ = some (.int .i64 13)) (first | exact sb0 | exact sb8 | exact sb9)
      (first
        | (go_at_call 47; refine (hBg _).mono ?_; rintro e wb8 ⟨hz, tb8⟩; subst hz; obtain ⟨spb8, wob8, rmb8⟩ := HNb _ (tDb.trans tb8); have sb8 := HS _ spb8 wob8)
        | (go_at_call 46; refine (rput_at spb8 wob8 rmb8 _ _).mono ?_; rintro e wb9 ⟨hz, spb9, wob9, rmb9, tb9⟩; subst hz; have sb9 := HS _ spb9 wob9))
    have Ub : Touch (· = cw) wa9 wb9 := ((tDb.trans tb8).mono (fun _ _ e => e.elim)).trans tb9
    clear sb0 sb8 sb9 spDb woDb rmDb spb8 wob8 rmb8 tb8 tb9 tDb HNb
    go_wp2_with fail
    have HNc : ∀ wx, Touch Nil wb9 wx → RSAt wx o X ∧ RWAt wx X.W y ∧ RM wx y cw cc co cr R1 ((s1.write ((f : Int) * 8 + 4) (packV true false false 3)).write ((f : Int) * 8 + 7) (packV true true false 13)) := fun wx t => ⟨spb9.touch t id, wob9.touch t id, rmb9.nil t⟩
    have tDc := (Touch.refl Nil wb9).drew
    obtain ⟨spDc, woDc, rmDc⟩ := HNc _ tDc
    have sc0 := HS _ spDc woDc
    go_upto_region 10 with fail
    go_region_held3 (fun wx => wx.cell? ⟨o, 0, none⟩ = some (.pointer (some ⟨W, 0, none⟩)) ∧ wx.cell? ⟨W, 4, none⟩ = some (.pointer (some ⟨y.b, 0, none⟩)) ∧ wx.cell? ⟨o, 2, none⟩ = some (.int .i64 f) ∧ wx.cell? ⟨o, 3, none⟩ = some (.int .i64 u) ∧ wx.cell? ⟨W, 7, none⟩ = some (.int .i64 3) ∧ wx.cell? ⟨W, 8, none⟩ = some (.int .i64 13)) (first | exact sc0 | exact sc8 | exact sc9)
      (first
        | (go_at_call 47; refine (hBg _).mono ?_; rintro e wc8 ⟨hz, tc8⟩; subst hz; obtain ⟨spc8, woc8, rmc8⟩ := HNc _ (tDc.trans tc8); have sc8 := HS _ spc8 woc8)
        | (go_at_call 46; refine (rput_at spc8 woc8 rmc8 _ _).mono ?_; rintro e wc9 ⟨hz, spc9, woc9, rmc9, tc9⟩; subst hz; have sc9 := HS _ spc9 woc9))
    have Uc : Touch (· = cw) wb9 wc9 := ((tDc.trans tc8).mono (fun _ _ e => e.elim)).trans tc9
    clear sc0 sc8 sc9 spDc woDc rmDc spc8 woc8 rmc8 tc8 tc9 tDc HNc
    go_wp2_with fail
    have hYS : (YS.new own y.kpti R s).S = ⟨own, f, u, fun _ => 0, fun _ => 0⟩ ∧ (YS.new own y.kpti R s).R = R1 ∧ (YS.new own y.kpti R s).s = (((s1.write ((f : Int) * 8 + 4) (packV true false false 3)).write ((f : Int) * 8 + 7) (packV true true false 13)).write ((u : Int) * 8 + 7) (packV true true false 13)) := by
      unfold YS.new
      dsimp only
      rw [hf]
      cases hk : y.kpti
      · rw [hk] at hu hR1 hs1
        simp only [Bool.false_eq_true, if_false] at hu hR1 hs1 ⊢
        subst hu hR1 hs1
        exact ⟨rfl, rfl, rfl⟩
      · rw [hk] at hu hR1 hs1
        simp only [if_true] at hu hR1 hs1 ⊢
        rw [hu]
        subst hR1 hs1
        exact ⟨rfl, rfl, rfl⟩
    have UU : Touch (· = cw) wc wc9 := (Ua.trans Ub).trans Uc
    have HG : ∀ k, blkA (some ⟨g, 0, none⟩) k → k ≠ o ∧ k ≠ W ∧ k ≠ y.b ∧ k ≠ y.q ∧ ¬ Turn cw cc co cr k := by
      rintro k ⟨_, e⟩
      cases e
      refine ⟨by omega, fun e => ?_, fun e => ?_, fun e => ?_, fun e => ?_⟩
      · have := h4.lt; omega
      · have := m4.me.top.lt; omega
      · have := m4.po.top.lt; omega
      · rcases e with e | e | e | e
        · have := m4.po.row.lt; omega
        · have := m4.me.rw'.lt; omega
        · have := m4.me.rc.lt; omega
        · have := m4.me.ro.lt; omega
    have nl9 := nlX.touch UU (fun k hk e => (HG k hk).2.2.2.2 (Or.inr (Or.inl e)))
    have TF : Touch (Turn cw cc co cr) w wc9 := ((T4.mono (fun _ _ e => e.elim)).transNew TX (fun i hi e => by
      rcases e with e | e
      · omega
      · exact e)).trans (UU.mono (fun k _ e => Or.inr (Or.inl e)))
    have hw4 : w.heap.size ≤ w4.heap.size := T4.size
    have hLI : LI ⟨own, f, u, fun _ => 0, fun _ => 0⟩ l1 := by
      have hm : ∀ x : Int, x ∈ SS.tabs ⟨own, f, u, fun _ => 0, fun _ => 0⟩ ↔ x = f ∨ x = u := fun x => by
        rw [mem_tabs]
        have hu0 : (u : Int) ≠ 0 := by
          cases hk : y.kpti
          · have := hkuf hk; omega
          · rw [hk] at hu hl0
            simp only [if_true] at hu hl0
            have hL2 := least_left (s := s.mark (f : Int) 1 own) (by omega)
            rw [hu] at hL2
            have := hL2.lo; omega
        simp only [SS.pre, SS.row]
        constructor
        · rintro ⟨h1, h2⟩
          rcases List.mem_append.1 h1 with h1 | h1
          · simpa using h1
          · exfalso
            obtain ⟨i, _, h3⟩ := List.mem_flatMap.1 h1
            rcases List.mem_cons.1 h3 with h3 | h3
            · exact h2 h3
            · obtain ⟨j, _, h4⟩ := List.mem_map.1 h3
              exact h2 h4.symm
        · rintro (h1 | h1)
          · subst h1; exact ⟨List.mem_append.2 (Or.inl (by simp)), by omega⟩
          · subst h1; exact ⟨List.mem_append.2 (Or.inl (by simp)), hu0⟩
      cases hk : y.kpti
      · have e := hkuf hk
        rw [hk] at hl1
        simp only [Bool.false_eq_true, if_false] at hl1
        subst hl1
        exact ⟨fun x => by rw [hm, e]; simp, by simp⟩
      · have e := huf hk
        rw [hk] at hl1
        simp only [if_true] at hl1
        subst hl1
        exact ⟨fun x => by rw [hm]; simp, by simp; omega⟩
    go_ret2
    refine ⟨o, X, some ⟨g, 0, none⟩, cap, l1, rfl, how, qW, ⟨spc9, woc9, ?_, by rw [← hX0.out], nl9, by rw [qW]; exact HG, ?_, ?_, ?_, ?_⟩, fun k hk => ?_, TF⟩
    · rw [hYS.2.1, hYS.2.2]; exact rmc9
    · rw [qk, hYS.1]
    · rw [qu, hYS.1]
    · rw [hYS.1, ← hX0.out]
    · rw [hYS.1]; exact hLI
    · obtain ⟨_, e⟩ := hk
      cases e; omega
end Go.Proofs.Ytoododpeoffieaa
/-
  Frames given back in whatever order (plain).
-/
namespace Go.Proofs.Ytoododpeoffieaa
open Go.ChangeShapes Go.WideShapes Go.ChangeAt Go.RowKit

theorem rf_rgive {R : Nat → Int} {f g : Int} (h : f ≠ g) (hf : 0 ≤ f) (hg : 0 ≤ g) : rf (rgive R f) g = rf R g := by
  unfold rf
  by_cases hc : 0 ≤ g ∧ g < 64
  · rw [if_pos hc, if_pos hc]
    unfold rgive
    split
    · unfold rset; rw [if_neg (by omega)]
    · rfl
  · rw [if_neg hc, if_neg hc]
theorem rgive_comm (R : Nat → Int) {f g : Int} (h : f ≠ g) (hf : 0 ≤ f) (hg : 0 ≤ g) : rgive (rgive R f) g = rgive (rgive R g) f := by
  have e1 := rf_rgive (R := R) h hf hg
  have e2 := rf_rgive (R := R) (Ne.symm h) hg hf
  unfold rgive at e1 e2 ⊢
  rw [e1, e2]
  funext i
  by_cases c1 : 0 < rf R f <;> by_cases c2 : 0 < rf R g <;> simp only [c1, c2, if_true, if_false]
  unfold rset
  by_cases d1 : i = f.toNat <;> by_cases d2 : i = g.toNat
  · omega
  · simp [d1]; intro e; omega
  · simp [d2]; intro e; omega
  · simp [d1, d2]
/-- A frame made 0 and free. -/
def MS.wipe (s : MS) (f : Int) : MS := (s.zero f).mark f 0 (-1)
theorem MS.wipe_eq (s : MS) (f : Int) : s.wipe f = if s.hasF f = true then ⟨s.n, fun i => if i / 8 = f.toNat then 0 else s.W i, fun i => if i = f.toNat then 0 else s.C i, fun i => if i = f.toNat then -1 else s.O i⟩ else s := by
  unfold MS.wipe
  by_cases h : s.hasF f = true
  · have hm : (s.zero f).mayM f 0 = true := (s.zero f).mayM_mk _ _ (by rw [MS.hasF_of_n (s.zero_n f)]; exact h) (by omega) (by omega)
    rw [if_pos h]
    unfold MS.mark; rw [if_pos hm]
    unfold MS.zero; rw [if_pos h]
  · rw [if_neg h]
    have hz : s.zero f = s := by unfold MS.zero; rw [if_neg h]
    rw [hz]
    unfold MS.mark MS.mayM
    rw [Bool.not_eq_true] at h
    rw [h]; rfl
theorem MS.wipe_has (s : MS) (f g : Int) : (s.wipe f).hasF g = s.hasF g := by
  rw [MS.wipe_eq]; split <;> rfl
theorem MS.wipe_comm (s : MS) {f g : Int} : (s.wipe f).wipe g = (s.wipe g).wipe f := by
  rw [MS.wipe_eq (s.wipe f) g, MS.wipe_eq (s.wipe g) f, MS.wipe_has, MS.wipe_has]
  by_cases h1 : s.hasF f = true <;> by_cases h2 : s.hasF g = true
  · rw [if_pos h1, if_pos h2, MS.wipe_eq s f, MS.wipe_eq s g, if_pos h1, if_pos h2]
    simp only [MS.mk.injEq, true_and]
    refine ⟨funext fun i => ?_, funext fun i => ?_, funext fun i => ?_⟩
    · by_cases a : i / 8 = f.toNat <;> by_cases b : i / 8 = g.toNat <;> simp [a, b]
    · by_cases a : i = f.toNat <;> by_cases b : i = g.toNat <;> simp [a, b]
    · by_cases a : i = f.toNat <;> by_cases b : i = g.toNat <;> simp [a, b]
  · rw [if_pos h1, if_neg h2, MS.wipe_eq s f, MS.wipe_eq s g, if_pos h1, if_neg h2]
  · rw [if_neg h1, if_pos h2, MS.wipe_eq s f, MS.wipe_eq s g, if_neg h1, if_pos h2]
  · rw [if_neg h1, if_neg h2, MS.wipe_eq s f, MS.wipe_eq s g, if_neg h1, if_neg h2]
theorem giveP_comm (a : (Nat → Int) × MS) {f g : Int} (hf : 0 ≤ f) (hg : 0 ≤ g) : giveP (giveP a f) g = giveP (giveP a g) f := by
  by_cases h : f = g
  · rw [h]
  · unfold giveP
    have e1 := rf_rgive (R := a.1) h hf hg
    have e2 := rf_rgive (R := a.1) (Ne.symm h) hg hf
    refine Prod.ext (rgive_comm a.1 h hf hg) ?_
    show (a.2.given a.1 f).given (rgive a.1 f) g = (a.2.given a.1 g).given (rgive a.1 g) f
    unfold MS.given
    rw [e1, e2]
    by_cases c1 : rf a.1 f = 1 <;> by_cases c2 : rf a.1 g = 1 <;> simp only [c1, c2, if_true, if_false]
    exact a.2.wipe_comm
/-- In whatever order. -/
theorem giveL_perm {R : Nat → Int} {s : MS} {l l' : List Int} (h : l.Perm l') (h0 : ∀ x ∈ l, 0 ≤ x) : giveL R s l = giveL R s l' :=
  List.Perm.foldl_eq' h (fun x hx y hy z => giveP_comm z (h0 x hx) (h0 y hy)) (R, s)
end Go.Proofs.Ytoododpeoffieaa
/-
  Many spaces, the program's beside the document's: what holds of both, and what each call leaves (plain).
-/
namespace Go.Proofs.Ytoododpeoffieaa
open Go.ChangeShapes Go.WideShapes Go.ChangeAt Go.RowKit

/-- One space: the program's block, the document's, what it took. -/
structure Itm where
  q : Nat
  o : Nat
  x : RS
  a : Option Addr
  cap : Nat
  l : List Int
  S : SS
/-- The program's half. -/
structure PH (w : World) (b c p : Nat) (R : Nat → Int) (s : MS) (I : List Itm) : Prop where
  me : MemAt w b c s
  po : PoolAt w p b R
  sp : ∀ i ∈ I, SpAt w i.q b p i.S
def PH.fp (b c p : Nat) (I : List Itm) (k : Nat) : Prop := k = b ∨ k = c ∨ k = p ∨ ∃ i ∈ I, k = i.q
theorem PH.far {w w' : World} {b c p : Nat} {R : Nat → Int} {s : MS} {I : List Itm} {S : Nat → Prop} (h : PH w b c p R s I) (t : Touch S w w') (hs : ∀ k, PH.fp b c p I k → ¬ S k) : PH w' b c p R s I :=
  ⟨h.me.touch t (hs b (Or.inl rfl)) (hs c (Or.inr (Or.inl rfl))), h.po.touch t (hs p (Or.inr (Or.inr (Or.inl rfl)))), fun i hi => (h.sp i hi).touch t (hs _ (Or.inr (Or.inr (Or.inr ⟨i, hi, rfl⟩))))⟩
/-- The document's half: one space. -/
structure RI1 (w : World) (y : RW) (cw cc co cr : Nat) (i : Itm) : Prop where
  sp : RSAt w i.o i.x
  wo : RWAt w i.x.W y
  tk : i.x.took = .slice i.a i.l.length i.cap
  nl : NL w i.a i.cap i.l
  ne : ∀ k, blkA i.a k → k ≠ i.o ∧ k ≠ i.x.W ∧ k ≠ y.b ∧ k ≠ y.q ∧ ¬ Turn cw cc co cr k
  kern : i.x.kern = i.S.kern
  user : i.x.user = i.S.user
  own : i.x.own = i.S.own
  li : LI i.S i.l
structure RH (w : World) (W : Nat) (y : RW) (cw cc co cr : Nat) (R : Nat → Int) (s : MS) (I : List Itm) : Prop where
  wo : RWAt w W y
  rm : RM w y cw cc co cr R s
  it : ∀ i ∈ I, RI1 w y cw cc co cr i
def RH.fr (W : Nat) (y : RW) (cw cc co cr : Nat) (I : List Itm) (k : Nat) : Prop := k = W ∨ k = y.b ∨ k = y.q ∨ Turn cw cc co cr k ∨ ∃ i ∈ I, k = i.o ∨ k = i.x.W ∨ blkA i.a k
theorem RI1.far {w w' : World} {y : RW} {cw cc co cr : Nat} {i : Itm} {S : Nat → Prop} (h : RI1 w y cw cc co cr i) (t : Touch S w w') (h1 : ¬ S i.o) (h0 : ¬ S i.x.W) (h2 : ∀ k, blkA i.a k → ¬ S k) : RI1 w' y cw cc co cr i :=
  ⟨h.sp.touch t h1, h.wo.touch t h0, h.tk, h.nl.touch t h2, h.ne, h.kern, h.user, h.own, h.li⟩
theorem RH.far {w w' : World} {W : Nat} {y : RW} {cw cc co cr : Nat} {R : Nat → Int} {s : MS} {I : List Itm} {S : Nat → Prop} (h : RH w W y cw cc co cr R s I) (t : Touch S w w') (hs : ∀ k, RH.fr W y cw cc co cr I k → ¬ S k) : RH w' W y cw cc co cr R s I :=
  ⟨h.wo.touch t (hs W (Or.inl rfl)), h.rm.far t (fun k hk => hs k (by
    rcases hk with e | e | e
    · exact Or.inr (Or.inl e)
    · exact Or.inr (Or.inr (Or.inl e))
    · exact Or.inr (Or.inr (Or.inr (Or.inl e))))), fun i hi => (h.it i hi).far t (hs _ (Or.inr (Or.inr (Or.inr (Or.inr ⟨i, hi, Or.inl rfl⟩))))) (hs _ (Or.inr (Or.inr (Or.inr (Or.inr ⟨i, hi, Or.inr (Or.inl rfl)⟩))))) (fun k hk => hs k (Or.inr (Or.inr (Or.inr (Or.inr ⟨i, hi, Or.inr (Or.inr hk)⟩)))))⟩
/-- The type of a block. -/
def Ty (w : World) (k : Nat) (t : TypeId) : Prop := ∃ n f, w.rowIs k t n f
theorem Ty.one {w : World} {k : Nat} {t t' : TypeId} (h : Ty w k t) (h' : Ty w k t') : t = t' := by
  obtain ⟨n, f, c, hc, _⟩ := h
  obtain ⟨n', f', c', hc', _⟩ := h'
  rw [hc] at hc'
  cases hc'; rfl
theorem Ty.of {w : World} {k n : Nat} {t : TypeId} {f : Nat → Value} (h : w.rowIs k t n f) : Ty w k t := ⟨n, f, h⟩
theorem Ty.has {w : World} {k n : Nat} {t : TypeId} {f : Nat → Value} (h : rowHas w k t n f) : Ty w k t := by
  obtain ⟨m, g, _, h, _⟩ := h; exact ⟨m, g, h⟩
theorem Ty.nl {w : World} {cap : Nat} {a : Option Addr} {l : List Int} (h : NL w a cap l) {k : Nat} (hk : blkA a k) : Ty w k 3 := by
  obtain ⟨o, e⟩ := hk
  rcases h with ⟨h, _⟩ | ⟨g, m, f, h1, h3, h4, h5, h6, h8⟩
  · rw [h] at e; cases e
  · rw [h1] at e; cases e; exact Ty.has h5
def tyP : List TypeId := [66, 69, 91, 96]
def tyR : List TypeId := [42, 85, 113, 3, 55, 61]
theorem ty_apart : ∀ t ∈ tyP, t ∉ tyR := by decide
theorem PH.ty {w : World} {b c p : Nat} {R : Nat → Int} {s : MS} {I : List Itm} (h : PH w b c p R s I) {k : Nat} (hk : PH.fp b c p I k) : ∃ t ∈ tyP, Ty w k t := by
  rcases hk with e | e | e | ⟨i, hi, e⟩
  · subst e; obtain ⟨_, ht⟩ := h.me.top; exact ⟨_, by simp [tyP], Ty.of ht⟩
  · subst e; exact ⟨_, by simp [tyP], Ty.has h.me.row⟩
  · subst e; exact ⟨_, by simp [tyP], Ty.of h.po.row⟩
  · subst e; exact ⟨_, by simp [tyP], Ty.of (h.sp i hi).row⟩
theorem RH.ty {w : World} {W : Nat} {y : RW} {cw cc co cr : Nat} {R : Nat → Int} {s : MS} {I : List Itm} (h : RH w W y cw cc co cr R s I) {k : Nat} (hk : RH.fr W y cw cc co cr I k) : ∃ t ∈ tyR, Ty w k t := by
  rcases hk with e | e | e | e | ⟨i, hi, e | e | e⟩
  · subst e; exact ⟨_, by simp [tyR], Ty.of h.wo⟩
  · subst e; exact ⟨_, by simp [tyR], Ty.of h.rm.me.top⟩
  · subst e; exact ⟨_, by simp [tyR], Ty.of h.rm.po.top⟩
  · rcases e with e | e | e | e
    · subst e; exact ⟨3, by simp [tyR], Ty.of h.rm.po.row⟩
    · subst e; exact ⟨55, by simp [tyR], Ty.of h.rm.me.rw'⟩
    · subst e; exact ⟨3, by simp [tyR], Ty.of h.rm.me.rc⟩
    · subst e; exact ⟨3, by simp [tyR], Ty.of h.rm.me.ro⟩
  · subst e; exact ⟨_, by simp [tyR], Ty.of (h.it i hi).sp⟩
  · subst e; exact ⟨_, by simp [tyR], Ty.of (h.it i hi).wo⟩
  · exact ⟨3, by simp [tyR], Ty.nl (h.it i hi).nl e⟩
/-- No block is of both. -/
theorem cross {w : World} {b c p : Nat} {R : Nat → Int} {s : MS} {I : List Itm} {W : Nat} {y : RW} {cw cc co cr : Nat} {R' : Nat → Int} {s' : MS} (h : PH w b c p R s I) (g : RH w W y cw cc co cr R' s' I) {k : Nat} (hk : PH.fp b c p I k) : ¬ RH.fr W y cw cc co cr I k := fun hr => by
  obtain ⟨t, ht, h1⟩ := h.ty hk
  obtain ⟨t', ht', h2⟩ := g.ty hr
  have e := h1.one h2
  subst e
  exact ty_apart t ht ht'
/-- Both, over one plain state; spaces apart. -/
structure Rl (w0 w : World) (b c p W : Nat) (y : RW) (cw cc co cr : Nat) (R : Nat → Int) (s : MS) (I : List Itm) : Prop where
  ph : PH w b c p R s I
  rh : RH w W y cw cc co cr R s I
  many : Many (I.map (·.S)) R s
  qne : ∀ (j k : Nat) i i', I[j]? = some i → I[k]? = some i' → j ≠ k → i.q ≠ i'.q ∧ i.o ≠ i'.o ∧ ∀ n, blkA i.a n → ¬ blkA i'.a n
  ge : (w0.heap.size ≤ b ∧ w0.heap.size ≤ c ∧ w0.heap.size ≤ p ∧ w0.heap.size ≤ W ∧ w0.heap.size ≤ y.b ∧ w0.heap.size ≤ y.q) ∧ (∀ k, Turn cw cc co cr k → w0.heap.size ≤ k) ∧ ∀ i ∈ I, w0.heap.size ≤ i.q ∧ w0.heap.size ≤ i.o ∧ ∀ n, blkA i.a n → w0.heap.size ≤ n
  t : Touch Nil w0 w
theorem Rl.nil {w0 w w' : World} {b c p W : Nat} {y : RW} {cw cc co cr : Nat} {R : Nat → Int} {s : MS} {I : List Itm} (h : Rl w0 w b c p W y cw cc co cr R s I) (t : Touch Nil w w') : Rl w0 w' b c p W y cw cc co cr R s I :=
  ⟨h.ph.far t (fun _ _ => id), h.rh.far t (fun _ _ => id), h.many, h.qne, h.ge, h.t.trans t⟩
/-- Behind what turns neither half: a list's block, say. -/
theorem Rl.off {w0 w w' : World} {b c p W : Nat} {y : RW} {cw cc co cr : Nat} {R : Nat → Int} {s : MS} {I : List Itm} {S : Nat → Prop} (h : Rl w0 w b c p W y cw cc co cr R s I) (t : Touch S w w') (h1 : ∀ k, S k → w0.heap.size ≤ k) (h2 : ∀ k, PH.fp b c p I k ∨ RH.fr W y cw cc co cr I k → ¬ S k) : Rl w0 w' b c p W y cw cc co cr R s I :=
  ⟨h.ph.far t (fun k hk => h2 k (Or.inl hk)), h.rh.far t (fun k hk => h2 k (Or.inr hk)), h.many, h.qne, h.ge, h.t.transNew t (fun i hi e => by have := h1 i e; omega)⟩
/-- One space of both. -/
theorem Rl.sys {w0 w : World} {b c p W : Nat} {y : RW} {cw cc co cr : Nat} {R : Nat → Int} {s : MS} {I : List Itm} (h : Rl w0 w b c p W y cw cc co cr R s I) {i : Itm} (hi : i ∈ I) : Sys w i.q p b c i.S R s ∧ DS w i.o cw cc co cr i.x y i.a i.cap i.l ⟨i.S, R, s⟩ ∧ YInv ⟨i.S, R, s⟩ ∧ VInv ⟨i.S, R, s⟩ := by
  have r := h.rh.it i hi
  have hS : i.S ∈ I.map (·.S) := List.mem_map_of_mem hi
  exact ⟨⟨h.ph.sp i hi, h.ph.po, h.ph.me⟩, ⟨r.sp, r.wo, h.rh.rm, r.tk, r.nl, r.ne, r.kern, r.user, r.own, r.li⟩, h.many.yi _ hS, h.many.vi _ hS⟩
end Go.Proofs.Ytoododpeoffieaa
/-
  Many spaces, the program's beside the document's: a page set in one, one more, the last one given back (plain).
-/
namespace Go.Proofs.Ytoododpeoffieaa
open Go.ChangeShapes Go.WideShapes Go.ChangeAt Go.RowKit

theorem tyP_int {t : TypeId} (h : t ∈ tyP) : t ≠ 3 := by revert h; revert t; decide
theorem set_get {α : Type} {I : List α} {k j : Nat} {i z : α} (h : (I.set k z)[j]? = some i) (hk : k < I.length) : (j ≠ k ∧ I[j]? = some i) ∨ (j = k ∧ i = z) := by
  rw [List.getElem?_set] at h
  by_cases e : k = j
  · subst e
    rw [if_pos rfl, if_pos hk] at h
    exact Or.inr ⟨rfl, by simpa using h.symm⟩
  · rw [if_neg e] at h
    exact Or.inl ⟨fun q => e q.symm, h⟩
theorem app_get {α : Type} {I : List α} {j : Nat} {i z : α} (h : (I ++ [z])[j]? = some i) : (j < I.length ∧ I[j]? = some i) ∨ (j = I.length ∧ i = z) := by
  by_cases hk : j < I.length
  · rw [List.getElem?_append_left hk] at h
    exact Or.inl ⟨hk, h⟩
  · rw [List.getElem?_append_right (by omega)] at h
    have hk2 : j - I.length = 0 := by
      have := (List.getElem?_eq_some_iff.1 h).1
      simp at this; omega
    rw [hk2] at h
    simp at h
    exact Or.inr ⟨by omega, h.symm⟩
section
variable {w0 w w4 w5 : World} {b c p W : Nat} {y : RW} {cw cc co cr : Nat} {R : Nat → Int} {s : MS} {I : List Itm}
/-- What lies in the document's half alone turns nothing of the program's, and the other way round. -/
theorem Rl.noP (h : Rl w0 w b c p W y cw cc co cr R s I) {k : Nat} (hk : PH.fp b c p I k) : ¬ RH.fr W y cw cc co cr I k := cross h.ph h.rh hk
theorem Rl.set (h : Rl w0 w b c p W y cw cc co cr R s I) {k : Nat} {i : Itm} (hk : I[k]? = some i) {page x : Int} (hm : (⟨i.S, R, s⟩ : YS).may page = true)
    (yp : YAt w4 i.q p b c ((⟨i.S, R, s⟩ : YS).set page x)) (t4 : Touch (fun z => z = i.q ∨ z = p ∨ z = c) w w4) {x' : RS} {a' : Option Addr} {cap' : Nat} {l' : List Int}
    (ds : DS w5 i.o cw cc co cr x' y a' cap' l' ((⟨i.S, R, s⟩ : YS).set page x)) (ha : ∀ n, blkA a' n → blkA i.a n ∨ w4.heap.size ≤ n) (t5 : Touch (fun z => z = i.o ∨ Turn cw cc co cr z ∨ blkA i.a z) w4 w5) :
    Rl w0 w5 b c p W y cw cc co cr ((⟨i.S, R, s⟩ : YS).set page x).R ((⟨i.S, R, s⟩ : YS).set page x).s (I.set k ⟨i.q, i.o, x', a', cap', l', ((⟨i.S, R, s⟩ : YS).set page x).S⟩) := by
  have hi := List.mem_of_getElem? hk
  have hkl : k < I.length := (List.getElem?_eq_some_iff.1 hk).1
  have hM := h.many.set (k := k) (S := i.S) (by rw [List.getElem?_map, hk]; rfl) hm x
  rw [show (I.map (·.S)).set k ((⟨i.S, R, s⟩ : YS).set page x).S = (I.set k ⟨i.q, i.o, x', a', cap', l', ((⟨i.S, R, s⟩ : YS).set page x).S⟩).map (·.S) by rw [List.map_set]] at hM
  have fpq : PH.fp b c p I i.q := Or.inr (Or.inr (Or.inr ⟨i, hi, rfl⟩))
  have fpp : PH.fp b c p I p := Or.inr (Or.inr (Or.inl rfl))
  have fpc : PH.fp b c p I c := Or.inr (Or.inl rfl)
  have inP : ∀ z, (z = i.q ∨ z = p ∨ z = c) → PH.fp b c p I z := fun z hz => by
    rcases hz with e | e | e <;> subst e
    · exact fpq
    · exact fpp
    · exact fpc
  have inR : ∀ z, (z = i.o ∨ Turn cw cc co cr z ∨ blkA i.a z) → RH.fr W y cw cc co cr I z := fun z hz => by
    rcases hz with e | e | e
    · exact Or.inr (Or.inr (Or.inr (Or.inr ⟨i, hi, Or.inl e⟩)))
    · exact Or.inr (Or.inr (Or.inr (Or.inl e)))
    · exact Or.inr (Or.inr (Or.inr (Or.inr ⟨i, hi, Or.inr (Or.inr e)⟩)))
  have noR : ∀ z, RH.fr W y cw cc co cr I z → ¬ (z = i.q ∨ z = p ∨ z = c) := fun z hz e => h.noP (inP z e) hz
  have noP : ∀ z, PH.fp b c p I z → ¬ (z = i.o ∨ Turn cw cc co cr z ∨ blkA i.a z) := fun z hz e => h.noP hz (inR z e)
  have r4 := h.rh.far t4 noR
  have ne := (h.rh.it i hi).ne
  have Wc : ∀ (z : Nat), RWAt w4 z y → ¬ (z = i.o ∨ Turn cw cc co cr z ∨ blkA i.a z) := fun z hz e => by
    have hz' := Ty.of hz
    rcases e with e | (e | e | e | e) | e
    · subst e; exact absurd (hz'.one (Ty.of (r4.it i hi).sp)) (by decide)
    · subst e; exact absurd (hz'.one (Ty.of r4.rm.po.row)) (by decide)
    · subst e; exact absurd (hz'.one (Ty.of r4.rm.me.rw')) (by decide)
    · subst e; exact absurd (hz'.one (Ty.of r4.rm.me.rc)) (by decide)
    · subst e; exact absurd (hz'.one (Ty.of r4.rm.me.ro)) (by decide)
    · exact absurd (hz'.one (Ty.nl (r4.it i hi).nl e)) (by decide)
  have Oc : ∀ (z : Nat) (xx : RS), RSAt w4 z xx → z ≠ i.o → ¬ (z = i.o ∨ Turn cw cc co cr z ∨ blkA i.a z) := fun z xx hz hne e => by
    have hz' := Ty.of hz
    rcases e with e | (e | e | e | e) | e
    · exact hne e
    · subst e; exact absurd (hz'.one (Ty.of r4.rm.po.row)) (by decide)
    · subst e; exact absurd (hz'.one (Ty.of r4.rm.me.rw')) (by decide)
    · subst e; exact absurd (hz'.one (Ty.of r4.rm.me.rc)) (by decide)
    · subst e; exact absurd (hz'.one (Ty.of r4.rm.me.ro)) (by decide)
    · exact absurd (hz'.one (Ty.nl (r4.it i hi).nl e)) (by decide)
  have others : ∀ (j : Nat) (i' : Itm), I[j]? = some i' → j ≠ k → RI1 w5 y cw cc co cr i' ∧ SpAt w5 i'.q b p i'.S := fun j i' hj hne => by
    have hi' := List.mem_of_getElem? hj
    obtain ⟨q1, q2, q3⟩ := h.qne j k i' i hj hk hne
    refine ⟨(r4.it i' hi').far t5 (Oc _ _ (r4.it i' hi').sp q2) (Wc _ (r4.it i' hi').wo) (fun n hn e => ?_), ?_⟩
    · rcases e with e | e | e
      · subst e; exact absurd ((Ty.nl (r4.it i' hi').nl hn).one (Ty.of (r4.it i hi).sp)) (by decide)
      · exact ((h.rh.it i' hi').ne n hn).2.2.2.2 e
      · exact q3 n hn e
    · refine ((h.ph.sp i' hi').touch t4 (fun e => ?_)).touch t5 (noP _ (Or.inr (Or.inr (Or.inr ⟨i', hi', rfl⟩))))
      rcases e with e | e | e
      · exact q1 e
      · have z := h.ph.sp i' hi'
        rw [e] at z
        exact absurd ((Ty.of z.row).one (Ty.of h.ph.po.row)) (by decide)
      · have z := h.ph.sp i' hi'
        rw [e] at z
        exact absurd ((Ty.of z.row).one (Ty.has h.ph.me.row)) (by decide)
  have s4 := t4.size
  have lt4 : ∀ (j : Nat) (i' : Itm), I[j]? = some i' → ∀ n, blkA i'.a n → n < w4.heap.size := fun j i' hj n hn => (r4.it i' (List.mem_of_getElem? hj)).nl.lt hn
  refine ⟨⟨yp.me.touch t5 (noP b (Or.inl rfl)) (noP c fpc), yp.po.touch t5 (noP p fpp), fun z hz => ?_⟩, ⟨r4.wo.touch t5 (Wc _ r4.wo), ds.rm, fun z hz => ?_⟩, hM, fun j j' z z' hz hz' hne => ?_, ⟨h.ge.1, h.ge.2.1, fun z hz => ?_⟩, (h.t.transNew t4 (fun n hn e => ?_)).transNew t5 (fun n hn e => ?_)⟩
  · obtain ⟨j, hj⟩ := List.getElem?_of_mem hz
    rcases set_get hj hkl with ⟨e1, e2⟩ | ⟨e1, e2⟩
    · exact (others j z e2 e1).2
    · subst e2; exact yp.sp.touch t5 (noP _ fpq)
  · obtain ⟨j, hj⟩ := List.getElem?_of_mem hz
    rcases set_get hj hkl with ⟨e1, e2⟩ | ⟨e1, e2⟩
    · exact (others j z e2 e1).1
    · subst e2; exact ⟨ds.sp, ds.wo, ds.tk, ds.nl, ds.ne, ds.kern, ds.user, ds.own, ds.li⟩
  · rcases set_get hz hkl with ⟨e1, e2⟩ | ⟨e1, e2⟩ <;> rcases set_get hz' hkl with ⟨f1, f2⟩ | ⟨f1, f2⟩
    · exact h.qne j j' z z' e2 f2 hne
    · subst f2
      obtain ⟨q1, q2, q3⟩ := h.qne j k z i e2 hk e1
      refine ⟨q1, q2, fun n hn e => ?_⟩
      rcases ha n e with q | q
      · exact q3 n hn q
      · have := lt4 j z e2 n hn; omega
    · subst e2
      obtain ⟨q1, q2, q3⟩ := h.qne k j' i z' hk f2 (fun q => f1 q.symm)
      refine ⟨q1, q2, fun n hn e => ?_⟩
      rcases ha n hn with q | q
      · exact q3 n q e
      · have := lt4 j' z' f2 n e; omega
    · omega
  · obtain ⟨j, hj⟩ := List.getElem?_of_mem hz
    rcases set_get hj hkl with ⟨e1, e2⟩ | ⟨e1, e2⟩
    · exact h.ge.2.2 z (List.mem_of_getElem? e2)
    · subst e2
      obtain ⟨g1, g2, g3⟩ := h.ge.2.2 i hi
      refine ⟨g1, g2, fun n hn => ?_⟩
      rcases ha n hn with q | q
      · exact g3 n q
      · have := h.t.size; omega
  · obtain ⟨g1, g2, g3⟩ := h.ge.2.2 i hi
    rcases e with e | e | e
    · omega
    · have := h.ge.1.2.2.1; omega
    · have := h.ge.1.2.1; omega
  · obtain ⟨g1, g2, g3⟩ := h.ge.2.2 i hi
    rcases e with e | e | e
    · omega
    · have := h.ge.2.1 n e; omega
    · have := g3 n e; omega
theorem Rl.new (h : Rl w0 w b c p W y cw cc co cr R s I) {q o : Nat} {own : Int} {kpti : Bool} {x : RS} {a : Option Addr} {cap : Nat} {l : List Int} (hl : (if kpti = true then 2 else 1) ≤ s.left)
    (hq : w.heap.size ≤ q) (yp : YAt w4 q p b c (YS.new own kpti R s)) (t4 : Touch (fun z => z = p ∨ z = c) w w4) (ho : w4.heap.size ≤ o) (ds : DS w5 o cw cc co cr x y a cap l (YS.new own kpti R s)) (ha : ∀ n, blkA a n → w4.heap.size ≤ n) (t5 : Touch (Turn cw cc co cr) w4 w5) :
    Rl w0 w5 b c p W y cw cc co cr (YS.new own kpti R s).R (YS.new own kpti R s).s (I ++ [⟨q, o, x, a, cap, l, (YS.new own kpti R s).S⟩]) := by
  have hM := h.many.new own kpti hl
  rw [show I.map (·.S) ++ [(YS.new own kpti R s).S] = (I ++ [(⟨q, o, x, a, cap, l, (YS.new own kpti R s).S⟩ : Itm)]).map (·.S) by simp] at hM
  have fpp : PH.fp b c p I p := Or.inr (Or.inr (Or.inl rfl))
  have fpc : PH.fp b c p I c := Or.inr (Or.inl rfl)
  have noR : ∀ z, RH.fr W y cw cc co cr I z → ¬ (z = p ∨ z = c) := fun z hz e => by
    rcases e with e | e <;> subst e
    · exact h.noP fpp hz
    · exact h.noP fpc hz
  have noP : ∀ z, PH.fp b c p I z → ¬ Turn cw cc co cr z := fun z hz e => h.noP hz (Or.inr (Or.inr (Or.inr (Or.inl e))))
  have r4 := h.rh.far t4 noR
  have TC : ∀ (z : Nat) (t : TypeId), Ty w4 z t → t ≠ 3 → t ≠ 55 → ¬ Turn cw cc co cr z := fun z t hz n1 n2 e => by
    rcases e with e | e | e | e
    · subst e; exact n1 (hz.one (Ty.of r4.rm.po.row))
    · subst e; exact n2 (hz.one (Ty.of r4.rm.me.rw'))
    · subst e; exact n1 (hz.one (Ty.of r4.rm.me.rc))
    · subst e; exact n1 (hz.one (Ty.of r4.rm.me.ro))
  have others : ∀ (i' : Itm), i' ∈ I → RI1 w5 y cw cc co cr i' ∧ SpAt w5 i'.q b p i'.S := fun i' hi' => by
    refine ⟨(r4.it i' hi').far t5 (TC _ _ (Ty.of (r4.it i' hi').sp) (by decide) (by decide)) (TC _ _ (Ty.of (r4.it i' hi').wo) (by decide) (by decide)) (fun n hn e => ((h.rh.it i' hi').ne n hn).2.2.2.2 e), ?_⟩
    refine ((h.ph.sp i' hi').touch t4 (fun e => ?_)).touch t5 (noP _ (Or.inr (Or.inr (Or.inr ⟨i', hi', rfl⟩))))
    rcases e with e | e
    · have z := h.ph.sp i' hi'
      rw [e] at z
      exact absurd ((Ty.of z.row).one (Ty.of h.ph.po.row)) (by decide)
    · have z := h.ph.sp i' hi'
      rw [e] at z
      exact absurd ((Ty.of z.row).one (Ty.has h.ph.me.row)) (by decide)
  have s4 := t4.size
  have s0 := h.t.size
  have old : ∀ (i' : Itm), i' ∈ I → i'.q < w.heap.size ∧ i'.o < w4.heap.size ∧ ∀ n, blkA i'.a n → n < w4.heap.size := fun i' hi' => ⟨(h.ph.sp i' hi').lt, (r4.it i' hi').sp.lt, fun n hn => (r4.it i' hi').nl.lt hn⟩
  refine ⟨⟨yp.me.touch t5 (noP b (Or.inl rfl)) (noP c fpc), yp.po.touch t5 (noP p fpp), fun z hz => ?_⟩, ⟨r4.wo.touch t5 (TC _ _ (Ty.of r4.wo) (by decide) (by decide)), ds.rm, fun z hz => ?_⟩, hM, fun j j' z z' hz hz' hne => ?_, ⟨h.ge.1, h.ge.2.1, fun z hz => ?_⟩, (h.t.transNew t4 (fun n hn e => ?_)).transNew t5 (fun n hn e => ?_)⟩
  · rcases List.mem_append.1 hz with e | e
    · exact (others z e).2
    · rw [List.mem_singleton] at e; subst e
      exact yp.sp.touch t5 (TC _ _ (Ty.of yp.sp.row) (by decide) (by decide))
  · rcases List.mem_append.1 hz with e | e
    · exact (others z e).1
    · rw [List.mem_singleton] at e; subst e
      exact ⟨ds.sp, ds.wo, ds.tk, ds.nl, ds.ne, ds.kern, ds.user, ds.own, ds.li⟩
  · rcases app_get hz with ⟨e1, e2⟩ | ⟨e1, e2⟩ <;> rcases app_get hz' with ⟨f1, f2⟩ | ⟨f1, f2⟩
    · exact h.qne j j' z z' e2 f2 hne
    · subst f2
      obtain ⟨o1, o2, o3⟩ := old z (List.mem_of_getElem? e2)
      exact ⟨by show z.q ≠ q; omega, by show z.o ≠ o; omega, fun n hn e => by have := o3 n hn; have := ha n e; omega⟩
    · subst e2
      obtain ⟨o1, o2, o3⟩ := old z' (List.mem_of_getElem? f2)
      exact ⟨by show q ≠ z'.q; omega, by show o ≠ z'.o; omega, fun n hn e => by have := o3 n e; have := ha n hn; omega⟩
    · omega
  · rcases List.mem_append.1 hz with e | e
    · exact h.ge.2.2 z e
    · rw [List.mem_singleton] at e; subst e
      exact ⟨by show w0.heap.size ≤ q; omega, by show w0.heap.size ≤ o; omega, fun n hn => by have := ha n hn; omega⟩
  · rcases e with e | e
    · have := h.ge.1.2.2.1; omega
    · have := h.ge.1.2.1; omega
  · have := h.ge.2.1 n e; omega
theorem giveL_took {S : SS} {l : List Int} (hi : YInv ⟨S, R, s⟩) (li : LI S l) : giveL R s l = giveL R s S.stab := by
  have hp : l.Perm S.stab := li.perm.trans (List.mergeSort_perm _ _).symm
  refine giveL_perm hp (fun x hx => ?_)
  have := hi.itsHad (tabs_its (hp.mem_iff.1 hx))
  have := this.1; omega
theorem Rl.drop {J : List Itm} {i : Itm} (h : Rl w0 w b c p W y cw cc co cr R s (J ++ [i])) {Z : SS}
    (yp : Sys w4 i.q p b c Z (giveL R s i.S.stab).1 (giveL R s i.S.stab).2) (t4 : Touch (fun z => z = i.q ∨ z = p ∨ z = c) w w4)
    (rm : RM w5 y cw cc co cr (giveL R s i.l).1 (giveL R s i.l).2) (t5 : Touch (fun z => z = i.o ∨ Turn cw cc co cr z) w4 w5) :
    Rl w0 w5 b c p W y cw cc co cr (giveL R s i.S.stab).1 (giveL R s i.S.stab).2 J := by
  have hi : i ∈ J ++ [i] := by simp
  have hJ : ∀ z ∈ J, z ∈ J ++ [i] := fun z hz => List.mem_append_left _ hz
  have hM : Many (J.map (·.S)) _ _ := Many.drop (A := i.S) (by have := h.many; rwa [List.map_append] at this)
  have hS : i.S ∈ (J ++ [i]).map (·.S) := List.mem_map_of_mem hi
  rw [giveL_took (h.many.yi _ hS) (h.rh.it i hi).li] at rm
  have atJ : ∀ z ∈ J, ∃ j : Nat, (J ++ [i])[j]? = some z ∧ j ≠ J.length := fun z hz => by
    obtain ⟨j, hj⟩ := List.getElem?_of_mem hz
    have hlt := (List.getElem?_eq_some_iff.1 hj).1
    exact ⟨j, by rw [List.getElem?_append_left hlt]; exact hj, by omega⟩
  have atI : (J ++ [i])[J.length]? = some i := by simp
  have fpq : PH.fp b c p (J ++ [i]) i.q := Or.inr (Or.inr (Or.inr ⟨i, hi, rfl⟩))
  have fpp : PH.fp b c p (J ++ [i]) p := Or.inr (Or.inr (Or.inl rfl))
  have fpc : PH.fp b c p (J ++ [i]) c := Or.inr (Or.inl rfl)
  have noR : ∀ z, RH.fr W y cw cc co cr (J ++ [i]) z → ¬ (z = i.q ∨ z = p ∨ z = c) := fun z hz e => by
    rcases e with e | e | e <;> subst e
    · exact h.noP fpq hz
    · exact h.noP fpp hz
    · exact h.noP fpc hz
  have noP : ∀ z, PH.fp b c p (J ++ [i]) z → ¬ (z = i.o ∨ Turn cw cc co cr z) := fun z hz e => by
    rcases e with e | e
    · exact h.noP hz (Or.inr (Or.inr (Or.inr (Or.inr ⟨i, hi, Or.inl e⟩))))
    · exact h.noP hz (Or.inr (Or.inr (Or.inr (Or.inl e))))
  have r4 := h.rh.far t4 noR
  have TC : ∀ (z : Nat) (t : TypeId), Ty w4 z t → t ≠ 3 → t ≠ 55 → z ≠ i.o → ¬ (z = i.o ∨ Turn cw cc co cr z) := fun z t hz n1 n2 n3 e => by
    rcases e with e | e | e | e | e
    · exact n3 e
    · subst e; exact n1 (hz.one (Ty.of r4.rm.po.row))
    · subst e; exact n2 (hz.one (Ty.of r4.rm.me.rw'))
    · subst e; exact n1 (hz.one (Ty.of r4.rm.me.rc))
    · subst e; exact n1 (hz.one (Ty.of r4.rm.me.ro))
  have WO : ∀ z, RWAt w4 z y → z ≠ i.o := fun z hz e => by
    subst e; exact absurd ((Ty.of hz).one (Ty.of (r4.it i hi).sp)) (by decide)
  refine ⟨⟨yp.me.touch t5 (noP b (Or.inl rfl)) (noP c fpc), yp.po.touch t5 (noP p fpp), fun z hz => ?_⟩, ⟨r4.wo.touch t5 (TC _ _ (Ty.of r4.wo) (by decide) (by decide) (WO _ r4.wo)), rm, fun z hz => ?_⟩, hM, fun j j' z z' hz hz' hne => ?_, ⟨h.ge.1, h.ge.2.1, fun z hz => h.ge.2.2 z (hJ z hz)⟩, (h.t.transNew t4 (fun n hn e => ?_)).transNew t5 (fun n hn e => ?_)⟩
  · obtain ⟨j, hj, hne⟩ := atJ z hz
    obtain ⟨q1, _, _⟩ := h.qne j _ z i hj atI hne
    have hz' := hJ z hz
    refine ((h.ph.sp z hz').touch t4 (fun e => ?_)).touch t5 (noP _ (Or.inr (Or.inr (Or.inr ⟨z, hz', rfl⟩))))
    rcases e with e | e | e
    · exact q1 e
    · have v := h.ph.sp z hz'
      rw [e] at v
      exact absurd ((Ty.of v.row).one (Ty.of h.ph.po.row)) (by decide)
    · have v := h.ph.sp z hz'
      rw [e] at v
      exact absurd ((Ty.of v.row).one (Ty.has h.ph.me.row)) (by decide)
  · obtain ⟨j, hj, hne⟩ := atJ z hz
    obtain ⟨_, q2, _⟩ := h.qne j _ z i hj atI hne
    have hz' := hJ z hz
    have r := r4.it z hz'
    refine r.far t5 (TC _ _ (Ty.of r.sp) (by decide) (by decide) q2) (TC _ _ (Ty.of r.wo) (by decide) (by decide) (WO _ r.wo)) (fun n hn e => ?_)
    rcases e with e | e
    · subst e; exact absurd ((Ty.nl r.nl hn).one (Ty.of (r4.it i hi).sp)) (by decide)
    · exact (r.ne n hn).2.2.2.2 e
  · have hj := (List.getElem?_eq_some_iff.1 hz).1
    have hj' := (List.getElem?_eq_some_iff.1 hz').1
    exact h.qne j j' z z' (by rw [List.getElem?_append_left hj]; exact hz) (by rw [List.getElem?_append_left hj']; exact hz') hne
  · obtain ⟨g1, g2, g3⟩ := h.ge.2.2 i hi
    rcases e with e | e | e
    · omega
    · have := h.ge.1.2.2.1; omega
    · have := h.ge.1.2.1; omega
  · obtain ⟨g1, g2, g3⟩ := h.ge.2.2 i hi
    rcases e with e | e
    · omega
    · have := h.ge.2.1 n e; omega
end
end Go.Proofs.Ytoododpeoffieaa
/-
  What else the walk of SpacePlays holds: its configuration, what all share, its two lists of pointers (plain).
-/
namespace Go.Proofs.Ytoododpeoffieaa
open Go.ChangeShapes Go.WideShapes Go.ChangeAt Go.RowKit

def cfC (N P : Int) (kpti inv : Bool) (i : Nat) : Value := if i = 0 then .int .i64 N else if i = 1 then .int .i64 P else if i = 2 then .bool kpti else .bool inv
def fxC (i : Nat) : Value := if i = 0 then .int .i64 3 else .int .i64 13
structure EX (w0 w : World) (G F : Nat) (N P : Int) (kpti inv : Bool) (ga : Option Addr) (ca : Nat) (gb : Option Addr) (cb : Nat) (QL OL : List Nat) : Prop where
  cf : w.rowIs G 24 4 (cfC N P kpti inv)
  fx : w.rowIs F 33 2 fxC
  pa : PL w 47 ga ca QL
  pb : PL w 50 gb cb OL
  ge : w0.heap.size ≤ G ∧ w0.heap.size ≤ F ∧ (∀ k, blkA ga k → w0.heap.size ≤ k) ∧ ∀ k, blkA gb k → w0.heap.size ≤ k
def EX.fp (G F : Nat) (ga gb : Option Addr) (k : Nat) : Prop := k = G ∨ k = F ∨ blkA ga k ∨ blkA gb k
def tyE : List TypeId := [24, 33, 47, 50]
theorem ty_apartE : (∀ t ∈ tyE, t ∉ tyP ∧ t ∉ tyR) := by decide
theorem Ty.pl {w : World} {e : TypeId} {cap : Nat} {a : Option Addr} {l : List Nat} (h : PL w e a cap l) {k : Nat} (hk : blkA a k) : Ty w k e := by
  obtain ⟨o, q⟩ := hk
  rcases h with ⟨h, _⟩ | ⟨g, m, f, h1, h3, h4, h5, h6, h8⟩
  · rw [h] at q; cases q
  · rw [h1] at q; cases q; exact Ty.has h5
section
variable {w0 w w' : World} {G F : Nat} {N P : Int} {kpti inv : Bool} {ga gb : Option Addr} {ca cb : Nat} {QL OL : List Nat}
theorem EX.ty (h : EX w0 w G F N P kpti inv ga ca gb cb QL OL) {k : Nat} (hk : EX.fp G F ga gb k) : ∃ t ∈ tyE, Ty w k t := by
  rcases hk with e | e | e | e
  · subst e; exact ⟨_, by simp [tyE], Ty.of h.cf⟩
  · subst e; exact ⟨_, by simp [tyE], Ty.of h.fx⟩
  · exact ⟨47, by simp [tyE], Ty.pl h.pa e⟩
  · exact ⟨50, by simp [tyE], Ty.pl h.pb e⟩
theorem EX.far (h : EX w0 w G F N P kpti inv ga ca gb cb QL OL) {S : Nat → Prop} (t : Touch S w w') (hs : ∀ k, EX.fp G F ga gb k → ¬ S k) : EX w0 w' G F N P kpti inv ga ca gb cb QL OL :=
  ⟨t.row h.cf (hs _ (Or.inl rfl)), t.row h.fx (hs _ (Or.inr (Or.inl rfl))), h.pa.touch t (fun k hk => hs k (Or.inr (Or.inr (Or.inl hk)))), h.pb.touch t (fun k hk => hs k (Or.inr (Or.inr (Or.inr hk)))), h.ge⟩
theorem EX.geAll (h : EX w0 w G F N P kpti inv ga ca gb cb QL OL) {k : Nat} (hk : EX.fp G F ga gb k) : w0.heap.size ≤ k := by
  obtain ⟨g1, g2, g3, g4⟩ := h.ge
  rcases hk with e | e | e | e
  · omega
  · omega
  · exact g3 k e
  · exact g4 k e
theorem EX.noP (h : EX w0 w G F N P kpti inv ga ca gb cb QL OL) {b c p : Nat} {R : Nat → Int} {s : MS} {I : List Itm} (g : PH w b c p R s I) {k : Nat} (hk : EX.fp G F ga gb k) : ¬ PH.fp b c p I k := fun q => by
  obtain ⟨t, ht, h1⟩ := h.ty hk
  obtain ⟨t', ht', h2⟩ := g.ty q
  have e := h1.one h2
  subst e
  exact (ty_apartE t ht).1 ht'
theorem EX.noR (h : EX w0 w G F N P kpti inv ga ca gb cb QL OL) {W : Nat} {y : RW} {cw cc co cr : Nat} {R : Nat → Int} {s : MS} {I : List Itm} (g : RH w W y cw cc co cr R s I) {k : Nat} (hk : EX.fp G F ga gb k) : ¬ RH.fr W y cw cc co cr I k := fun q => by
  obtain ⟨t, ht, h1⟩ := h.ty hk
  obtain ⟨t', ht', h2⟩ := g.ty q
  have e := h1.one h2
  subst e
  exact (ty_apartE t ht).2 ht'
end
/-- All that the walk holds. -/
structure Al (w0 w : World) (b c p W : Nat) (y : RW) (cw cc co cr : Nat) (G F : Nat) (N P : Int) (kpti inv : Bool) (ga : Option Addr) (ca : Nat) (gb : Option Addr) (cb : Nat) (R : Nat → Int) (s : MS) (I : List Itm) : Prop where
  rl : Rl w0 w b c p W y cw cc co cr R s I
  ex : EX w0 w G F N P kpti inv ga ca gb cb (I.map (·.q)) (I.map (·.o))
section
variable {w0 w w4 w5 : World} {b c p W : Nat} {y : RW} {cw cc co cr : Nat} {G F : Nat} {N P : Int} {kpti inv : Bool} {ga gb : Option Addr} {ca cb : Nat} {R : Nat → Int} {s : MS} {I : List Itm}
theorem Al.nil (h : Al w0 w b c p W y cw cc co cr G F N P kpti inv ga ca gb cb R s I) (t : Touch Nil w w4) : Al w0 w4 b c p W y cw cc co cr G F N P kpti inv ga ca gb cb R s I :=
  ⟨h.rl.nil t, h.ex.far t (fun _ _ => id)⟩
/-- What turns both halves alone leaves the rest. -/
theorem Al.exStep (h : Al w0 w b c p W y cw cc co cr G F N P kpti inv ga ca gb cb R s I) {S4 S5 : Nat → Prop} (t4 : Touch S4 w w4) (t5 : Touch S5 w4 w5) (h4 : ∀ k, S4 k → PH.fp b c p I k ∨ RH.fr W y cw cc co cr I k) (h5 : ∀ k, S5 k → PH.fp b c p I k ∨ RH.fr W y cw cc co cr I k) :
    EX w0 w5 G F N P kpti inv ga ca gb cb (I.map (·.q)) (I.map (·.o)) := by
  have no : ∀ k, EX.fp G F ga gb k → ¬ (PH.fp b c p I k ∨ RH.fr W y cw cc co cr I k) := fun k hk e => by
    rcases e with e | e
    · exact h.ex.noP h.rl.ph hk e
    · exact h.ex.noR h.rl.rh hk e
  exact (h.ex.far t4 (fun k hk e => no k hk (h4 k e))).far t5 (fun k hk e => no k hk (h5 k e))
theorem Al.set (h : Al w0 w b c p W y cw cc co cr G F N P kpti inv ga ca gb cb R s I) {k : Nat} {i : Itm} (hk : I[k]? = some i) {page x : Int} (hm : (⟨i.S, R, s⟩ : YS).may page = true)
    (yp : YAt w4 i.q p b c ((⟨i.S, R, s⟩ : YS).set page x)) (t4 : Touch (fun z => z = i.q ∨ z = p ∨ z = c) w w4) {x' : RS} {a' : Option Addr} {cap' : Nat} {l' : List Int}
    (ds : DS w5 i.o cw cc co cr x' y a' cap' l' ((⟨i.S, R, s⟩ : YS).set page x)) (ha : ∀ n, blkA a' n → blkA i.a n ∨ w4.heap.size ≤ n) (t5 : Touch (fun z => z = i.o ∨ Turn cw cc co cr z ∨ blkA i.a z) w4 w5) :
    Al w0 w5 b c p W y cw cc co cr G F N P kpti inv ga ca gb cb ((⟨i.S, R, s⟩ : YS).set page x).R ((⟨i.S, R, s⟩ : YS).set page x).s (I.set k ⟨i.q, i.o, x', a', cap', l', ((⟨i.S, R, s⟩ : YS).set page x).S⟩) := by
  have hi := List.mem_of_getElem? hk
  have hkl : k < I.length := (List.getElem?_eq_some_iff.1 hk).1
  refine ⟨h.rl.set hk hm yp t4 ds ha t5, ?_⟩
  have e := h.exStep t4 t5 (fun z hz => Or.inl (by
    rcases hz with e | e | e
    · exact Or.inr (Or.inr (Or.inr ⟨i, hi, e⟩))
    · exact Or.inr (Or.inr (Or.inl e))
    · exact Or.inr (Or.inl e))) (fun z hz => Or.inr (by
    rcases hz with e | e | e
    · exact Or.inr (Or.inr (Or.inr (Or.inr ⟨i, hi, Or.inl e⟩)))
    · exact Or.inr (Or.inr (Or.inr (Or.inl e)))
    · exact Or.inr (Or.inr (Or.inr (Or.inr ⟨i, hi, Or.inr (Or.inr e)⟩)))))
  have hget := (List.getElem?_eq_some_iff.1 hk).2
  have m1 : (I.set k ⟨i.q, i.o, x', a', cap', l', ((⟨i.S, R, s⟩ : YS).set page x).S⟩).map (·.q) = I.map (·.q) := by
    rw [List.map_set]
    apply List.ext_getElem?
    intro j
    rw [List.getElem?_set]
    by_cases q : k = j
    · subst q; simp [hkl, hget]
    · rw [if_neg q]
  have m2 : (I.set k ⟨i.q, i.o, x', a', cap', l', ((⟨i.S, R, s⟩ : YS).set page x).S⟩).map (·.o) = I.map (·.o) := by
    rw [List.map_set]
    apply List.ext_getElem?
    intro j
    rw [List.getElem?_set]
    by_cases q : k = j
    · subst q; simp [hkl, hget]
    · rw [if_neg q]
  rw [m1, m2]; exact e
/-- The last one given back, its pointers cut off. -/
theorem Al.drop {J : List Itm} {i : Itm} (h : Al w0 w b c p W y cw cc co cr G F N P kpti inv ga ca gb cb R s (J ++ [i])) {Z : SS}
    (yp : Sys w4 i.q p b c Z (giveL R s i.S.stab).1 (giveL R s i.S.stab).2) (t4 : Touch (fun z => z = i.q ∨ z = p ∨ z = c) w w4)
    (rm : RM w5 y cw cc co cr (giveL R s i.l).1 (giveL R s i.l).2) (t5 : Touch (fun z => z = i.o ∨ Turn cw cc co cr z) w4 w5) :
    Al w0 w5 b c p W y cw cc co cr G F N P kpti inv ga ca gb cb (giveL R s i.S.stab).1 (giveL R s i.S.stab).2 J := by
  have hi : i ∈ J ++ [i] := by simp
  have e := h.exStep t4 t5 (fun z hz => Or.inl (by
    rcases hz with e | e | e
    · exact Or.inr (Or.inr (Or.inr ⟨i, hi, e⟩))
    · exact Or.inr (Or.inr (Or.inl e))
    · exact Or.inr (Or.inl e))) (fun z hz => Or.inr (by
    rcases hz with e | e
    · exact Or.inr (Or.inr (Or.inr (Or.inr ⟨i, hi, Or.inl e⟩)))
    · exact Or.inr (Or.inr (Or.inr (Or.inl e)))))
  rw [List.map_append, List.map_append] at e
  exact ⟨h.rl.drop yp t4 rm t5, ⟨e.cf, e.fx, PL.cut e.pa, PL.cut e.pb, e.ge⟩⟩
/-- One more, ahead of its pointers. -/
theorem Al.new (h : Al w0 w b c p W y cw cc co cr G F N P kpti inv ga ca gb cb R s I) {q o : Nat} {own : Int} {x : RS} {a : Option Addr} {cap : Nat} {l : List Int} (hl : (if kpti = true then 2 else 1) ≤ s.left)
    (hq : w.heap.size ≤ q) (yp : YAt w4 q p b c (YS.new own kpti R s)) (t4 : Touch (fun z => z = p ∨ z = c) w w4) (ho : w4.heap.size ≤ o) (ds : DS w5 o cw cc co cr x y a cap l (YS.new own kpti R s)) (ha : ∀ n, blkA a n → w4.heap.size ≤ n) (t5 : Touch (Turn cw cc co cr) w4 w5) :
    Rl w0 w5 b c p W y cw cc co cr (YS.new own kpti R s).R (YS.new own kpti R s).s (I ++ [⟨q, o, x, a, cap, l, (YS.new own kpti R s).S⟩]) ∧ EX w0 w5 G F N P kpti inv ga ca gb cb (I.map (·.q)) (I.map (·.o)) :=
  ⟨h.rl.new hl hq yp t4 ho ds ha t5, h.exStep t4 t5 (fun z hz => Or.inl (by
    rcases hz with e | e
    · exact Or.inr (Or.inr (Or.inl e))
    · exact Or.inr (Or.inl e))) (fun z hz => Or.inr (Or.inr (Or.inr (Or.inr (Or.inl hz)))))⟩
end
/-- A pointer more in the first list. -/
theorem EX.appA {w0 w : World} {b c p W : Nat} {y : RW} {cw cc co cr : Nat} {G F : Nat} {N P : Int} {kpti inv : Bool} {ga gb : Option Addr} {ca cb : Nat} {R : Nat → Int} {s : MS} {I : List Itm} {QL OL : List Nat} (h : Rl w0 w b c p W y cw cc co cr R s I) (e : EX w0 w G F N P kpti inv ga ca gb cb QL OL) (few : QL.length ≤ 1000) (x B : Nat) (hB : w.cell? ⟨B, 0, none⟩ = some (pv x)) :
    ∃ g cap' w', (Builtin.append_ #[45, 45] 45 #[.slice ga QL.length ca, .slice (some ⟨B, 0, none⟩) 1 1]).run Try.prog w = .ok (.slice (some ⟨g, 0, none⟩) (QL.length + 1) cap') w' ∧ Rl w0 w' b c p W y cw cc co cr R s I ∧ EX w0 w' G F N P kpti inv (some ⟨g, 0, none⟩) cap' gb cb (QL ++ [x]) OL := by
  obtain ⟨g, cap', w', hr, hP, tP, hg⟩ := e.pa.app Try.underlying45 (by kernel_rfl) few x B hB
  have T := h.t.size
  refine ⟨g, cap', w', hr, h.off tP (fun k hk => e.ge.2.2.1 k hk) (fun k hk q => ?_), ?_⟩
  · rcases hk with hk | hk
    · exact e.noP h.ph (Or.inr (Or.inr (Or.inl q))) hk
    · exact e.noR h.rh (Or.inr (Or.inr (Or.inl q))) hk
  · refine ⟨tP.row e.cf (fun q => ?_), tP.row e.fx (fun q => ?_), hP, e.pb.touch tP (fun k hk q => ?_), ⟨e.ge.1, e.ge.2.1, fun k hk => ?_, e.ge.2.2.2⟩⟩
    · exact absurd ((Ty.of e.cf).one (Ty.pl e.pa q)) (by decide)
    · exact absurd ((Ty.of e.fx).one (Ty.pl e.pa q)) (by decide)
    · exact absurd ((Ty.pl e.pb hk).one (Ty.pl e.pa q)) (by decide)
    · obtain ⟨o, ho⟩ := hk
      cases ho
      rcases hg with q | q
      · exact e.ge.2.2.1 _ q
      · omega
/-- .. in the second one. -/
theorem EX.appB {w0 w : World} {b c p W : Nat} {y : RW} {cw cc co cr : Nat} {G F : Nat} {N P : Int} {kpti inv : Bool} {ga gb : Option Addr} {ca cb : Nat} {R : Nat → Int} {s : MS} {I : List Itm} {QL OL : List Nat} (h : Rl w0 w b c p W y cw cc co cr R s I) (e : EX w0 w G F N P kpti inv ga ca gb cb QL OL) (few : OL.length ≤ 1000) (x B : Nat) (hB : w.cell? ⟨B, 0, none⟩ = some (pv x)) :
    ∃ g cap' w', (Builtin.append_ #[46, 46] 46 #[.slice gb OL.length cb, .slice (some ⟨B, 0, none⟩) 1 1]).run Try.prog w = .ok (.slice (some ⟨g, 0, none⟩) (OL.length + 1) cap') w' ∧ Rl w0 w' b c p W y cw cc co cr R s I ∧ EX w0 w' G F N P kpti inv ga ca (some ⟨g, 0, none⟩) cap' QL (OL ++ [x]) := by
  obtain ⟨g, cap', w', hr, hP, tP, hg⟩ := e.pb.app Try.underlying46 (by kernel_rfl) few x B hB
  have T := h.t.size
  refine ⟨g, cap', w', hr, h.off tP (fun k hk => e.ge.2.2.2 k hk) (fun k hk q => ?_), ?_⟩
  · rcases hk with hk | hk
    · exact e.noP h.ph (Or.inr (Or.inr (Or.inr q))) hk
    · exact e.noR h.rh (Or.inr (Or.inr (Or.inr q))) hk
  · refine ⟨tP.row e.cf (fun q => ?_), tP.row e.fx (fun q => ?_), e.pa.touch tP (fun k hk q => ?_), hP, ⟨e.ge.1, e.ge.2.1, e.ge.2.2.1, fun k hk => ?_⟩⟩
    · exact absurd ((Ty.of e.cf).one (Ty.pl e.pb q)) (by decide)
    · exact absurd ((Ty.of e.fx).one (Ty.pl e.pb q)) (by decide)
    · exact absurd ((Ty.pl e.pa hk).one (Ty.pl e.pb q)) (by decide)
    · obtain ⟨o, ho⟩ := hk
      cases ho
      rcases hg with q | q
      · exact e.ge.2.2.2 _ q
      · omega
end Go.Proofs.Ytoododpeoffieaa
/-
  The document's Boot: a world.
-/
namespace Go.Proofs.Ytoododpeoffieaa
open Go.ChangeShapes Go.WideShapes Go.ChangeAt Go.RowKit

theorem cfg_cells {w wx : World} {G : Nat} {N P : Int} {kpti inv : Bool} (hB : w.heap[G]? = some (.cells #[.int .i64 N, .int .i64 P, .bool kpti, .bool inv] 24 (0, 0))) (S : Nat → Prop) (t : Touch S w wx) (hs : ¬ S G) (lt : G < w.heap.size) :
    wx.cell? ⟨G, 0, none⟩ = some (.int .i64 N) ∧ wx.cell? ⟨G, 1, none⟩ = some (.int .i64 P) ∧ wx.cell? ⟨G, 2, none⟩ = some (.bool kpti) ∧ wx.cell? ⟨G, 3, none⟩ = some (.bool inv) := by
  have h := (t.block G lt hs).trans hB
  simp [World.cell?, h]
set_option maxRecDepth 20000 in
set_option maxHeartbeats 2000000 in
theorem rboot_no (N P : Int) (kpti inv : Bool) (hn : fitB (MS.many N) N P = false) (w : World) :
    Calls Try.prog 7 #[cfV N P kpti inv] w fun e w' => e = .returned (.tuple #[.pointer none, .bool false]) ∧ Touch Nil w w' := by
  have t0 := (Touch.refl Nil w).alloc (.cells #[.int .i64 N, .int .i64 P, .bool kpti, .bool inv] 24)
  have hB := heap_alloc_new w (.cells #[.int .i64 N, .int .i64 P, .bool kpti, .bool inv] 24)
  have lG : w.heap.size < (w.alloc (.cells #[.int .i64 N, .int .i64 P, .bool kpti, .bool inv] 24)).heap.size := by simp
  unfold cfV at *
  go_enter Try.func7, Try.ntmps7
  go_upto_region 1 with fail
  generalize w.alloc (.cells #[.int .i64 N, .int .i64 P, .bool kpti, .bool inv] 24) = W at *
  obtain ⟨a0, a1, a2, a3⟩ := cfg_cells hB Nil (Touch.refl Nil W) id lG
  go_wp2_with fail
  with_reducible refine (rnew_any N W).mono ?_
  rintro e w1 ⟨b, cw, cc, co, rfl, _, _, _, _, m1, t1⟩
  clear a0 a1 a2 a3
  obtain ⟨a0, a1, a2, a3⟩ := cfg_cells hB Nil t1 id lG
  have hS := rbootS_no m1 N P kpti inv hn
  unfold cfV at hS
  go_wp2_with fail
  with_reducible refine hS.mono ?_
  rintro e w2 ⟨rfl, t2⟩
  clear a0 a1 a2 a3
  go_wp2_with fail
  go_ret2
  exact ⟨rfl, (t0.trans t1).trans t2⟩
/-- What a booted world of the document's is. -/
structure RBt (w : World) (w' : World) (W : Nat) (y : RW) (cw cc co cr : Nat) (s : MS) : Prop where
  wo : RWAt w' W y
  rm : RM w' y cw cc co cr (fun _ => 0) s
  ge : w.heap.size ≤ W ∧ w.heap.size ≤ y.b ∧ w.heap.size ≤ y.q ∧ w.heap.size ≤ cw ∧ w.heap.size ≤ cc ∧ w.heap.size ≤ co ∧ w.heap.size ≤ cr
  t : Touch Nil w w'
theorem rbt_of {w w2 V : World} {b cw cc co q cr sw : Nat} {N P : Int} {kpti inv : Bool} {s : MS} (tw : Touch Nil w w2) (m2 : RefAt w2 b cw cc co s) (tV : Touch Nil w2 V) (hpo : RPoolAt V q b cr s.n (fun _ => 0)) (hq : w2.heap.size ≤ q) (hcr : w2.heap.size ≤ cr) (ge : w.heap.size ≤ b ∧ w.heap.size ≤ cw ∧ w.heap.size ≤ cc ∧ w.heap.size ≤ co) :
    RBt w (V.alloc (.cells #[.int .i64 N, .int .i64 P, .bool kpti, .bool inv, .pointer (some ⟨b, 0, none⟩), .pointer (some ⟨q, 0, none⟩), .pointer (some ⟨sw, 0, none⟩), .int .i64 3, .int .i64 13] 42)) V.heap.size ⟨N, P, kpti, inv, b, q, sw⟩ cw cc co cr s := by
  obtain ⟨lb, lw, lc, lo⟩ := m2.lts
  have tA := (Touch.refl Nil V).alloc (.cells #[.int .i64 N, .int .i64 P, .bool kpti, .bool inv, .pointer (some ⟨b, 0, none⟩), .pointer (some ⟨q, 0, none⟩), .pointer (some ⟨sw, 0, none⟩), .int .i64 3, .int .i64 13] 42)
  have s1 := tw.size
  have s2 := tV.size
  refine ⟨?_, ⟨(m2.touch tV id id id id).touch tA id id id id, hpo.touch tA id id, ⟨by show cr ≠ b; omega, by omega, by omega, by omega, by show q ≠ cw; omega, by show q ≠ cc; omega, by show q ≠ co; omega, hpo.qr⟩⟩, ⟨by omega, ge.1, by show w.heap.size ≤ q; omega, ge.2.1, ge.2.2.1, ge.2.2.2, by omega⟩, (tw.trans tV).trans tA⟩
  have := World.rowIs_alloc V #[.int .i64 N, .int .i64 P, .bool kpti, .bool inv, .pointer (some ⟨b, 0, none⟩), .pointer (some ⟨q, 0, none⟩), .pointer (some ⟨sw, 0, none⟩), .int .i64 3, .int .i64 13] 42 (RW.cell ⟨N, P, kpti, inv, b, q, sw⟩) (fun i hi => by
    have hi : i < 9 := hi
    match i, hi with
    | 0, _ | 1, _ | 2, _ | 3, _ | 4, _ | 5, _ | 6, _ | 7, _ | 8, _ => rfl)
  exact this
set_option maxRecDepth 20000 in
set_option maxHeartbeats 4000000 in
theorem rboot_yes (N P : Int) (kpti inv : Bool) (h24 : 24 ≤ N) (h64 : N ≤ 64) (hP : 1 ≤ P ∧ P ≤ 2) (w : World) :
    Calls Try.prog 7 #[cfV N P kpti inv] w fun e w' => ∃ (W : Nat) (y : RW) (cw cc co cr : Nat), e = .returned (.tuple #[.pointer (some ⟨W, 0, none⟩), .bool true]) ∧ y.kpti = kpti ∧ RBt w w' W y cw cc co cr ((MS.fresh N.toNat).boot kpti) := by
  have t0 := (Touch.refl Nil w).alloc (.cells #[.int .i64 N, .int .i64 P, .bool kpti, .bool inv] 24)
  have hB := heap_alloc_new w (.cells #[.int .i64 N, .int .i64 P, .bool kpti, .bool inv] 24)
  have lG : w.heap.size < (w.alloc (.cells #[.int .i64 N, .int .i64 P, .bool kpti, .bool inv] 24)).heap.size := by simp
  unfold cfV at *
  go_enter Try.func7, Try.ntmps7
  go_upto_region 1 with fail
  generalize w.alloc (.cells #[.int .i64 N, .int .i64 P, .bool kpti, .bool inv] 24) = W at *
  obtain ⟨a0, a1, a2, a3⟩ := cfg_cells hB Nil (Touch.refl Nil W) id lG
  go_wp2_with fail
  with_reducible refine (rnew_any N W).mono ?_
  rintro e w1 ⟨b, cw, cc, co, rfl, g1, g2, g3, g4, m1, t1⟩
  have hm : MS.many N = N.toNat := by unfold MS.many; omega
  rw [hm] at m1
  clear a0 a1 a2 a3 hm
  obtain ⟨a0, a1, a2, a3⟩ := cfg_cells hB Nil t1 id lG
  have hS := rbootS_yes m1 P kpti inv (by show 24 ≤ N.toNat; omega) hP
  rw [show (((MS.fresh N.toNat).n : Nat) : Int) = N by show ((N.toNat : Nat) : Int) = N; omega] at hS
  unfold cfV at hS
  go_wp2_with fail
  with_reducible refine hS.mono ?_
  rintro e w2 ⟨rfl, m2, t2⟩
  have T2 : Touch Nil W w2 := t1.transNew t2 (fun i hi e => by rcases e with e | e | e <;> omega)
  clear a0 a1 a2 a3 hS m1 t1 t2
  obtain ⟨s, hs⟩ : ∃ s, Hid ((MS.fresh N.toNat).boot kpti = s) := ⟨_, rfl⟩
  rw [hs.out] at m2
  have HC := fun wx (t : Touch Nil w2 wx) => cfg_cells hB Nil (T2.trans t) id lG
  have hd := HC _ ((Touch.refl Nil w2).drew)
  have hP0 := fun wx (t : Touch Nil w2 wx) => rpnew_any (m2.touch t id id id id)
  have tD : Touch Nil w2 w2.drew := (Touch.refl Nil w2).drew
  have tDA := tD.alloc (.cells Try.zeroCells76 76)
  have hda := HC _ tDA
  go_upto_region 4 with fail
  go_region_held3 (fun wx => wx.cell? ⟨w.heap.size, 0, none⟩ = some (.int .i64 N) ∧ wx.cell? ⟨w.heap.size, 1, none⟩ = some (.int .i64 P) ∧ wx.cell? ⟨w.heap.size, 2, none⟩ = some (.bool kpti) ∧ wx.cell? ⟨w.heap.size, 3, none⟩ = some (.bool inv))
    (first | exact hd | exact hda | exact hd5 | exact HC _ (tD.trans t5) | exact HC _ ((tD.trans t5).alloc _) | exact HC _ (((tD.trans t5).alloc _).alloc _) | exact HC _ (tDA.trans t5) | exact HC _ ((tDA.trans t5).alloc _))
    (first
      | (go_at_call 26; refine (hP0 _ tD).mono ?_; rintro e w5 ⟨q, cr, hx, hq, hcr, hpo, t5⟩; subst hx)
      | (go_at_call 26; refine (hP0 _ tDA).mono ?_; rintro e w5 ⟨q, cr, hx, hq, hcr, hpo, t5⟩; subst hx))
  · have hF := rbt_of (N := N) (P := P) (kpti := kpti) (inv := inv) (sw := w5.heap.size) (t0.trans T2) m2 ((tD.trans t5).alloc (.cells Try.zeroCells76 76)) (hpo.touch ((Touch.refl Nil w5).alloc _) id id) hq hcr (by have := t0.size; omega)
    rw [World.size_alloc] at hF
    go_wp2_with fail
    go_ret2
    exact ⟨_, _, cw, cc, co, cr, rfl, rfl, by rw [hs.out]; exact hF⟩
  · have hq' : w2.heap.size ≤ q := Nat.le_trans tDA.size hq
    have hcr' : w2.heap.size ≤ cr := Nat.le_trans tDA.size hcr
    have hF := rbt_of (N := N) (P := P) (kpti := kpti) (inv := inv) (sw := w2.heap.size) (t0.trans T2) m2 (tDA.trans t5) hpo hq' hcr' (by have := t0.size; omega)
    go_wp2_with fail
    go_ret2
    exact ⟨_, _, cw, cc, co, cr, rfl, rfl, by rw [hs.out]; exact hF⟩
end Go.Proofs.Ytoododpeoffieaa
