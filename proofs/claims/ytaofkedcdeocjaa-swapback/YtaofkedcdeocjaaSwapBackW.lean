/-
  The walk of SwapBack.
-/
import Derived.Test.YtaofkedcdeocjaaSwapD
import Derived.Test.YtaofkedcdeocjaaKeep
import Derived.Test.YtaofkedcdeocjaaListA
import Derived.Test.YtaofkedcdeocjaaSlices
namespace Go.Proofs.Ytaofkedcdeocjaa
open Go.ChangeShapes Go.WideShapes Go.ChangeAt Go.RowKit

/-- The words at the beginning. -/
def bw (z : List Int) (len i : Nat) : Int := IntKind.u64.wrap ((if i < len then z.getD i 0 else (i : Int)) + (i : Int))
/-- Behind f frames that went out. -/
structure BkI (g : Nat → Int) (f : Nat) (q : QS) (s : MS) : Prop where
  n : s.n = 10
  rd : ∀ j : Nat, 8 * f ≤ j → j < 80 → s.rd (j : Int) = g j
  u : ∀ k, 1 ≤ k → k < 8 → q.U k = decide (k ≤ f)
  w : ∀ k o : Nat, 1 ≤ k → k ≤ f → k < 8 → o < 8 → q.W k o = g (8 * (k - 1) + o)
theorem BkI.frame {g : Nat → Int} {f : Nat} {q : QS} {s : MS} (h : BkI g f q s) (hf : f < 10) (o : Nat) (ho : o < 8) : s.frame (f : Int) o = g (8 * f + o) := by
  unfold MS.frame
  rw [show (f : Int) * 8 + (o : Int) = ((8 * f + o : Nat) : Int) by omega]
  exact h.rd _ (by omega) (by omega)
theorem BkI.hasF {g : Nat → Int} {f : Nat} {q : QS} {s : MS} (h : BkI g f q s) (hf : f < 10) : s.hasF (f : Int) = true := (s.hasF_iff _).2 (by have := h.n; omega)
theorem BkI.free {g : Nat → Int} {f : Nat} {q : QS} {s : MS} (h : BkI g f q s) (hf : f < 7) : q.Free (f + 1) :=
  ⟨by omega, by omega, by rw [h.u _ (by omega) (by omega)]; simp, fun k h1 h2 => by rw [h.u _ h1 (by omega)]; simp; omega⟩
theorem BkI.full {g : Nat → Int} {f : Nat} {q : QS} {s : MS} (h : BkI g f q s) (hf : 7 ≤ f) : q.Full := fun k h1 h2 => by rw [h.u _ h1 h2]; simp; omega
theorem BkI.zero {g : Nat → Int} {f : Nat} {q : QS} {s : MS} (h : BkI g f q s) (hf : f < 10) : ∀ j : Nat, 8 * (f + 1) ≤ j → j < 80 → (s.zero (f : Int)).rd (j : Int) = g j := fun j h1 h2 => by
  rw [MS.rd_zero _ _ _ (h.hasF hf) (by omega), if_neg (by omega)]
  exact h.rd j (by omega) h2
theorem BkI.out {g : Nat → Int} {f : Nat} {q : QS} {s : MS} (h : BkI g f q s) (hf : f < 7) : BkI g (f + 1) (q.lay (f + 1) true (s.frame (f : Int))) (s.zero (f : Int)) := by
  refine ⟨(s.zero_n _).trans h.n, h.zero (by omega), fun k k1 k2 => ?_, fun k o k1 k2 k3 ho => ?_⟩
  · rw [QS.lay_U]
    by_cases e : k = f + 1
    · rw [if_pos e, decide_eq_true (by omega)]
    · rw [if_neg e, h.u k k1 k2]; exact decide_eq_decide.2 (by omega)
  · rw [QS.lay_W]
    by_cases e : k = f + 1
    · rw [if_pos e, h.frame (by omega) o ho, e]; rfl
    · rw [if_neg e]; exact h.w k o k1 (by omega) k3 ho
theorem BkI.skip {g : Nat → Int} {f : Nat} {q : QS} {s : MS} (h : BkI g f q s) (hf : 7 ≤ f) (hf2 : f < 10) : BkI g (f + 1) q (s.zero (f : Int)) :=
  ⟨(s.zero_n _).trans h.n, h.zero hf2, fun k k1 k2 => by rw [h.u k k1 k2, decide_eq_true (by omega), decide_eq_true (by omega)], fun k o k1 _ k3 ho => h.w k o k1 (by omega) k3 ho⟩
/-- The slots, in order. -/
def nums (n : Nat) : List Int := (List.range n).map fun i => ((i + 1 : Nat) : Int)
theorem nums_len (n : Nat) : (nums n).length = n := by simp [nums]
theorem nums_succ (n : Nat) : nums (n + 1) = nums n ++ [((n + 1 : Nat) : Int)] := by simp [nums, List.range_succ]
theorem nums_get (n i : Nat) (h : i < n) : (nums n).getD i 0 = ((i + 1 : Nat) : Int) := by simp [nums, List.getD_eq_getElem?_getD, h]
/-- While they come in: the first j did. -/
structure BkJ (g : Nat → Int) (L j : Nat) (q : QS) (s : MS) : Prop where
  n : s.n = 10
  u : ∀ k, 1 ≤ k → k < 8 → q.U k = decide (j < k ∧ k ≤ L)
  w : ∀ k o : Nat, j < k → k ≤ L → o < 8 → q.W k o = g (8 * (k - 1) + o)
theorem BkJ.step {g : Nat → Int} {L j : Nat} {q : QS} {s : MS} (h : BkJ g L j q s) (tt : Int) : BkJ g L (j + 1) (q.lay (j + 1) false (fun _ => 0)) (s.lay tt (q.W (j + 1))) := by
  refine ⟨h.n, fun k k1 k2 => ?_, fun k o k1 k2 ho => ?_⟩
  · rw [QS.lay_U]
    by_cases e : k = j + 1
    · rw [if_pos e, decide_eq_false (by omega)]
    · rw [if_neg e, h.u k k1 k2]; exact decide_eq_decide.2 (by omega)
  · rw [QS.lay_W, if_neg (by omega)]; exact h.w k o (by omega) k2 ho
theorem BkJ.left {g : Nat → Int} {L : Nat} {q : QS} {s : MS} (h : BkJ g L L q s) : q.left = 7 := by
  have hu : ∀ k, 1 ≤ k → k < 8 → q.U k = false := fun k h1 h2 => by rw [h.u k h1 h2, decide_eq_false (by omega)]
  unfold QS.left
  simp [QS.cnt, hu 1, hu 2, hu 3, hu 4, hu 5, hu 6, hu 7]
theorem BkI.left {g : Nat → Int} {f : Nat} {q : QS} {s : MS} (h : BkI g f q s) : q.left = 7 - min f 7 := by
  have hu : ∀ k, 1 ≤ k → k < 8 → q.U k = decide (k ≤ min f 7) := fun k h1 h2 => by rw [h.u k h1 h2]; exact decide_eq_decide.2 (by omega)
  have h7 : min f 7 ≤ 7 := by omega
  generalize min f 7 = L at *
  unfold QS.left
  have : L = 0 ∨ L = 1 ∨ L = 2 ∨ L = 3 ∨ L = 4 ∨ L = 5 ∨ L = 6 ∨ L = 7 := by omega
  rcases this with rfl | rfl | rfl | rfl | rfl | rfl | rfl | rfl <;> simp [QS.cnt, hu 1, hu 2, hu 3, hu 4, hu 5, hu 6, hu 7]

set_option maxRecDepth 20000 in
set_option maxHeartbeats 4000000 in
theorem swapBack_walk (a0 : Option Addr) (len0 cap0 : Nat) (z0 : List Int) (a1 a2 : Int) (w : World) (r0 : Row .u64 w a0 len0 cap0 z0) :
    Calls Try.prog 8 #[.slice a0 len0 cap0, .int .i64 a1, .int .i64 a2] w fun e w' => e = .returned (.bool true) ∧ Touch Nil w w' := by
  obtain ⟨hm0, p0⟩ := r0.plain
  unfold maxLen at hm0
  clear r0
  go_enter Try.func8, Try.ntmps8
  have hN := new_any 10 w
  rw [show MS.many 10 = 10 from rfl] at hN
  go_wp2_with fail
  with_reducible refine hN.mono ?_
  rintro e w1 ⟨rfl, hM, t1, s1⟩
  clear hN
  go_wp2_with fail
  with_reducible refine (snew_any w1).mono ?_
  rintro e w2 ⟨rfl, hQ, t2, s2⟩
  have hM2 := hM.touch t2 (fun h => h) (fun h => h)
  have T2 := t1.trans t2
  have hP2 : w.heap.size + 2 ≤ w1.heap.size := by omega
  clear t1 t2 hM s1
  generalize w1.heap.size = P at *
  have hnn : P ≠ w.heap.size + 1 ∧ P ≠ w.heap.size := by omega
  have hW9 := within_any a1 9 w2 (by decide) (by decide)
  have hW10 := within_any a2 10 w2 (by decide) (by decide)
  obtain ⟨n, hn⟩ : ∃ n : Nat, 1 + a1 % 9 = n := ⟨(1 + a1 % 9).toNat, by omega⟩
  obtain ⟨tt, hto⟩ : ∃ tt : Nat, a2 % 10 = tt := ⟨(a2 % 10).toNat, by omega⟩
  have hn1 : 1 ≤ n := by omega
  have hn9 : n ≤ 9 := by omega
  have hto10 : tt < 10 := by omega
  have a1b : 0 ≤ a1 % 9 ∧ a1 % 9 < 9 := by omega
  rw [hto] at hW10
  clear hto
  go_wp2_with fail
  with_reducible refine hW9.mono ?_
  rintro e wq ⟨rfl, rfl⟩
  go_wp2_with fail
  with_reducible refine hW10.mono ?_
  rintro e wq ⟨rfl, rfl⟩
  go_wp2_with fail
  clear hW9 hW10 a1b
  go_loopg [9] 80 (fun g i wr => ∃ (k : Nat) (s : MS), g + k = 80 ∧ i = .int .i64 k ∧ s.n = 10 ∧ (∀ j : Nat, j < k → s.rd (j : Int) = bw z0 len0 j) ∧ QAt wr P QS.fresh ∧ MemAt wr (w.heap.size + 1) w.heap.size s ∧ Touch Nil w wr)
  case atStart => exact ⟨0, _, by omega, rfl, rfl, fun j h => by omega, hQ, hM2, T2⟩
  case round =>
    clear hQ hM2 T2
    obtain ⟨k, s, hgk, rfl, hsn, hrd, hQ, hM, T⟩ := hrel
    by_cases hk : k < 80
    · have k1 : (k : Int) < 80 := by omega
      have hW := fun V => write_any hM (k : Int) V (by omega)
      have hk64 : IntKind.u64.wrap (k : Int) = (k : Int) := by rw [IntKind.wrap_u64]; omega
      have hst : ∀ V, V = bw z0 len0 k → ∀ j : Nat, j < k + 1 → (s.write (k : Int) V).rd (j : Int) = bw z0 len0 j := fun V hV j hj => by
        rw [MS.rd_write s _ _ _ ((s.hasW_iff _).2 (by omega))]
        by_cases e : j = k
        · rw [if_pos (by omega), hV, e]
        · rw [if_neg (by omega)]; exact hrd j (by omega)
      by_cases hl : k < len0
      · have l1 : (k : Int) < len0 := by omega
        rcases p0 with p0 | ⟨b0, o0, rfl, hb0, hc0⟩
        · omega
        have c0 := Plain.cell hc0 hb0 (T.below (Nat.le_refl _) (fun _ e => e.elim)) k (by omega)
        have hst := hst (IntKind.u64.wrap (z0.getD k 0 + (k : Int))) (by unfold bw; rw [if_pos hl])
        have hW := hW (IntKind.u64.wrap (z0.getD k 0 + (k : Int)))
        have hn' : (s.write (k : Int) (IntKind.u64.wrap (z0.getD k 0 + (k : Int)))).n = 10 := by rw [MS.write_n]; exact hsn
        generalize s.write (k : Int) (IntKind.u64.wrap (z0.getD k 0 + (k : Int))) = s' at *
        clear hrd hc0
        generalize z0.getD k 0 = y0 at *
        go_wp2_with fail
        with_reducible refine hW.mono ?_
        rintro e w4 ⟨rfl, hM4, t4⟩
        go_wp2_with fail
        go_roundg (79 - k)
        case measure => omega
        case rel => exact ⟨k + 1, s', by omega, by go_num, hn', hst, hQ.touch t4 (fun e => hnn.2 e), hM4, T.transNew t4 (fun i hi e => by omega)⟩
      · have l1 : ¬ (k : Int) < len0 := by omega
        have hst := hst (IntKind.u64.wrap ((k : Int) + (k : Int))) (by unfold bw; rw [if_neg hl])
        have hW := hW (IntKind.u64.wrap ((k : Int) + (k : Int)))
        have hn' : (s.write (k : Int) (IntKind.u64.wrap ((k : Int) + (k : Int)))).n = 10 := by rw [MS.write_n]; exact hsn
        have e2 : IntKind.u64.wrap ((k : Int) + (k : Int)) = (k : Int) + (k : Int) := by rw [IntKind.wrap_u64]; omega
        rw [e2] at hst hW hn'
        generalize s.write (k : Int) ((k : Int) + (k : Int)) = s' at *
        clear hrd
        go_wp2_with fail
        with_reducible refine hW.mono ?_
        rintro e w4 ⟨rfl, hM4, t4⟩
        go_wp2_with fail
        go_roundg (79 - k)
        case measure => omega
        case rel => exact ⟨k + 1, s', by omega, by go_num, hn', hst, hQ.touch t4 (fun e => hnn.2 e), hM4, T.transNew t4 (fun i hi e => by omega)⟩
    · have h8 : k = 80 := by omega
      subst h8
      have hI : BkI (bw z0 len0) 0 QS.fresh s := ⟨hsn, fun j _ h => hrd j h, fun k k1 _ => by rw [decide_eq_false (by omega)]; rfl, fun k o k1 k2 => by omega⟩
      clear hrd hsn
      go_wp2_with fail
      have hO : OL wr (P + 1) none 0 (nums (min 0 7)) := World.ownsRow_nil _ _ _ _
      go_loopg [11, 12] n (fun g v i wr => ∃ (f : Nat) (q : QS) (s : MS) (a : Option Addr) (cap : Nat), g + f = n ∧ i = .int .i64 f ∧ v = .slice a (min f 7) cap ∧ BkI (bw z0 len0) f q s ∧ QAt wr P q ∧ MemAt wr (w.heap.size + 1) w.heap.size s ∧ OL wr (P + 1) a cap (nums (min f 7)) ∧ Touch Nil w wr)
      case atStart => exact ⟨0, _, _, _, _, by omega, rfl, rfl, hI, hQ, hM, hO, T⟩
      case round =>
        clear hQ hM T hI hO
        obtain ⟨f, q, s, a, cap, hgf, rfl, rfl, hI, hQ, hM, hO, T⟩ := hrel
        by_cases hf : f < n
        · have f1 : (f : Int) < n := by omega
          have hF := hI.hasF (by omega)
          by_cases h7 : f < 7
          · have f7 : (f : Int) < 7 := by omega
            have hFr := hI.free h7
            have hS := hI.out h7
            have f5 : ((f + 1 : Nat) : Int) = (f : Int) + 1 := by omega
            have hmn : min f 7 = f := by omega
            have hmn2 : min (f + 1) 7 = f + 1 := by omega
            rw [hmn] at hO
            rw [hmn]
            go_wp2_with fail
            with_reducible refine (sout_yes hQ hM hFr (f : Int) hF).mono ?_
            rintro e w5 ⟨rfl, hQ5, t5⟩
            have hM5 := hM.touch t5 (fun e => hnn.1 e.symm) (fun e => hnn.2 e.symm)
            have hO5 := ownsRow_touch hO t5 (fun k e => by omega)
            have T5 := T.transNew t5 (fun i hi e => by omega)
            clear hQ hM hO T t5
            have hZ := fun wx (h : MemAt wx (w.heap.size + 1) w.heap.size s) => zero_any h (f : Int)
            rw [nums_len] at hO5
            have hP5 := hQ5.lt
            obtain ⟨g, c, wN, hrun, hoN, bN⟩ := app_int hO5 (by omega) (by omega) ((f : Int) + 1)
            have tN : Touch (fun x => P + 1 ≤ x) w5 wN := ⟨bN.os, bN.tape, bN.output, bN.size, fun k hk hs => bN.block k (by omega)⟩
            have hQN := hQ5.touch tN (by omega)
            have hMN := hM5.touch tN (by omega) (by omega)
            have TN := T5.transNew tN (fun i hi e => by omega)
            have hON : OL wN (P + 1) (some ⟨g, 0, none⟩) c (nums (f + 1)) := by
              have e : ilist (nums (f + 1)) = ilist (nums f) ++ [.int .i64 ((f : Int) + 1)] := by rw [nums_succ, f5]; simp [ilist]
              unfold OL
              rw [e, nums_len]; exact hoN
            go_wp2_with (refine Lib.wpList_append_run_sl _ rfl _ _ 22 rfl _ _ rfl rfl hrun ?_)
            clear hQ5 hM5 T5 bN hrun hO5 hoN
            with_reducible refine (hZ _ hMN).mono ?_
            rintro e w8 ⟨rfl, hM8, t8⟩
            have hQ8 := hQN.touch t8 (fun e => hnn.2 e)
            have hO8 := ownsRow_touch hON t8 (fun k e => by omega)
            have T8 := TN.transNew t8 (fun i hi e => by omega)
            clear hQN hMN TN hON t8 hZ
            go_wp2_with fail
            go_roundg (n - (f + 1))
            case measure => omega
            case rel => exact ⟨f + 1, _, _, some ⟨g, 0, none⟩, c, by omega, by go_num, by rw [hmn2], hS, hQ8, hM8, by rw [hmn2]; exact hO8, T8⟩
          · have f7 : ¬ (f : Int) < 7 := by omega
            have hFu := hI.full (by omega)
            have hS := hI.skip (by omega) (by omega)
            have hmn : min f 7 = 7 := by omega
            have hmn2 : min (f + 1) 7 = 7 := by omega
            rw [hmn] at hO
            rw [hmn]
            have hZ := fun wx (h : MemAt wx (w.heap.size + 1) w.heap.size s) => zero_any h (f : Int)
            go_wp2_with fail
            with_reducible refine (sout_full hQ hFu (f : Int)).mono ?_
            rintro e wq ⟨rfl, rfl⟩
            go_wp2_with fail
            with_reducible refine (hZ _ hM).mono ?_
            rintro e w8 ⟨rfl, hM8, t8⟩
            have hQ8 := hQ.touch t8 (fun e => hnn.2 e)
            have hO8 := ownsRow_touch hO t8 (fun k e => by omega)
            have T8 := T.transNew t8 (fun i hi e => by omega)
            clear hQ hM hO T t8 hZ
            go_wp2_with fail
            go_roundg (n - (f + 1))
            case measure => omega
            case rel => exact ⟨f + 1, _, _, _, _, by omega, by go_num, by rw [hmn2], hS, hQ8, hM8, by rw [hmn2]; exact hO8, T8⟩
        · obtain rfl : f = n := by omega
          have hl := hI.left
          obtain ⟨L, hL⟩ : ∃ L, min f 7 = L := ⟨_, rfl⟩
          rw [hL] at hO hl
          rw [hL]
          have hL7 : L ≤ 7 ∧ 1 ≤ L := by omega
          have hJ : BkJ (bw z0 len0) L 0 q s := ⟨hI.n, fun k k1 k2 => by rw [hI.u k k1 k2]; exact decide_eq_decide.2 (by omega), fun k o k1 k2 ho => hI.w k o (by omega) (by omega) (by omega) ho⟩
          have hLf := sleft_any hQ
          rw [hl] at hLf
          have hl2 : ((7 - L : Nat) : Int) = 7 - (L : Int) := by omega
          rw [hl2] at hLf
          clear hI hl hl2
          have f1 : ¬ (f : Int) < f := by omega
          go_wp2_with fail
          with_reducible refine hLf.mono ?_
          rintro e wq ⟨rfl, rfl⟩
          rcases hO.cells with h | ⟨g0, rfl, hgb, hgl, hc⟩
          · have := nums_len L; rw [h] at this; simp at this; omega
          have hc' : ∀ j, j < L → wr.heap[g0]? = wr.heap[g0]? ∧ wr.cell? ⟨g0, j, none⟩ = some (.int .i64 ((j : Int) + 1)) := fun j hj => ⟨rfl, by
            have := (hc j (by rw [nums_len]; exact hj)).1
            rw [nums_get _ _ hj] at this; rw [this]; congr 2⟩
          have TW : Touch (fun x => x = P ∨ x = w.heap.size) wr wr := Touch.refl _ _
          generalize wr = W at *
          clear hO hc hLf
          go_wp2_with fail
          go_loopg [99] L (fun g i wr => ∃ (j : Nat) (q : QS) (s : MS), g + j = L ∧ i = .int .i64 j ∧ BkJ (bw z0 len0) L j q s ∧ QAt wr P q ∧ MemAt wr (w.heap.size + 1) w.heap.size s ∧ Touch (fun x => x = P ∨ x = w.heap.size) W wr ∧ Touch Nil w wr)
          case atStart => exact ⟨0, q, s, by omega, rfl, hJ, hQ, hM, TW, T⟩
          case round =>
            clear hQ hM T hJ TW
            obtain ⟨j, q, s, hgj, rfl, hJ, hQ, hM, TW, T⟩ := hrel
            by_cases hj : j < L
            · have j1 : (j : Int) < L := by omega
              have cj : wr.cell? ⟨g0, j, none⟩ = some (.int .i64 ((j : Int) + 1)) := by
                have := (hc' j hj).2
                unfold World.cell? at this ⊢
                rw [TW.block g0 hgl (by omega)]; exact this
              have hF : s.hasF (tt : Int) = true := (s.hasF_iff _).2 (by have := hJ.n; omega)
              have hU : q.U (j + 1) = true := by rw [hJ.u (j + 1) (by omega) (by omega)]; simp; omega
              have hIo : q.isOut ((j + 1 : Nat) : Int) = true := by rw [QS.isOut_at q _ (by omega) (by omega)]; exact hU
              have hS := hJ.step (tt : Int)
              have hIn := sin_yes hQ hM ⟨hnn.1, hnn.2⟩ ((j + 1 : Nat) : Int) (tt : Int) hIo hF
              rw [Int.toNat_natCast] at hIn
              have hrd : ∀ o : Nat, o < 8 → (s.lay (tt : Int) (q.W (j + 1))).rd (8 * (tt : Int) + o) = bw z0 len0 (8 * j + o) := fun o ho => by
                have := s.frame_lay tt tt (q.W (j + 1)) o hF hF ho
                rw [if_pos rfl] at this
                unfold MS.frame at this
                rw [show (8 * (tt : Int) + (o : Int)) = (tt : Int) * 8 + (o : Int) by omega, this, hJ.w (j + 1) o (by omega) (by omega) ho]; rfl
              have hNo : (q.lay (j + 1) false (fun _ => 0)).isOut ((j : Int) + 1) = false := by
                have := QS.isOut_at (q.lay (j + 1) false (fun _ => 0)) (j + 1) (by omega) (by omega)
                rw [show ((j + 1 : Nat) : Int) = (j : Int) + 1 by omega] at this
                rw [this, QS.lay_U, if_pos rfl]
              rw [show ((j + 1 : Nat) : Int) = (j : Int) + 1 by omega] at hIn
              generalize s.lay (tt : Int) (q.W (j + 1)) = s' at *
              generalize q.lay (j + 1) false (fun _ => 0) = q' at *
              clear hJ hU hIo
              go_wp2_with fail
              with_reducible refine hIn.mono ?_
              rintro e w5 ⟨rfl, hQ5, hM5, t5⟩
              have TW5 := TW.trans t5
              have T5 := T.transNew t5 (fun i hi e => by omega)
              clear hQ hM TW T t5 hIn
              have hI2 := sin_no hQ5 hM5 ((j : Int) + 1) (tt : Int) (by rw [hNo, Bool.false_and])
              go_wp2_with fail
              with_reducible refine hI2.mono ?_
              rintro e wq ⟨rfl, rfl⟩
              have hD2 := sdrop_any hQ5 ((j : Int) + 1)
              rw [hNo, if_neg (by decide)] at hD2
              go_wp2_with fail
              with_reducible refine hD2.mono ?_
              rintro e w6 ⟨rfl, hQ6, t6⟩
              have hM6 := hM5.touch t6 (fun e => hnn.1 e.symm) (fun e => hnn.2 e.symm)
              have TW6 := TW5.trans (t6.mono (fun x _ e => Or.inl e))
              have T6 := T5.transNew t6 (fun i hi e => by omega)
              clear hQ5 hM5 TW5 T5 t6 hI2 hD2
              go_wp2_with fail
              go_loopg [17] 8 (fun g i wr => ∃ o : Nat, g + o = 8 ∧ i = .int .i64 o ∧ w6 = wr)
              case atStart => exact ⟨0, by omega, rfl, rfl⟩
              case round =>
                obtain ⟨o, hgo, rfl, rfl⟩ := hrel
                by_cases ho : o < 8
                · have o1 : (o : Int) < 8 := by omega
                  have hR := read_any hM6 (8 * (tt : Int) + o) (by omega)
                  have hb := hrd o ho
                  have hw : s'.hasW (8 * (tt : Int) + o) = true := (s'.hasW_iff _).2 (by have := hS.n; omega)
                  rw [hb, hw] at hR
                  have hk64 : IntKind.u64.wrap (8 * (j : Int) + (o : Int)) = 8 * (j : Int) + (o : Int) := by rw [IntKind.wrap_u64]; omega
                  by_cases hl : 8 * j + o < len0
                  · have l1 : 8 * (j : Int) + (o : Int) < len0 := by omega
                    rcases p0 with p0 | ⟨b0, o0, rfl, hb0, hc0⟩
                    · omega
                    have c0 := Plain.cell hc0 hb0 (T6.below (Nat.le_refl _) (fun _ e => e.elim)) (8 * j + o) hl
                    have eb : bw z0 len0 (8 * j + o) = IntKind.u64.wrap (z0.getD (8 * j + o) 0 + (8 * (j : Int) + (o : Int))) := by
                      unfold bw; rw [if_pos hl]; congr 2
                    rw [eb] at hR
                    clear hrd hc0 hb eb
                    generalize z0.getD (8 * j + o) 0 = y0 at *
                    go_wp2_with fail
                    with_reducible refine hR.mono ?_
                    rintro e wq ⟨rfl, rfl⟩
                    go_wp2_with fail
                    go_roundg (7 - o)
                    case measure => omega
                    case rel => exact ⟨o + 1, by omega, by go_num, rfl⟩
                  · have l1 : ¬ 8 * (j : Int) + (o : Int) < len0 := by omega
                    have eb : bw z0 len0 (8 * j + o) = 8 * (j : Int) + (o : Int) + (8 * (j : Int) + (o : Int)) := by
                      unfold bw; rw [if_neg hl, IntKind.wrap_u64]; omega
                    rw [eb] at hR
                    have e2 : IntKind.u64.wrap (8 * (j : Int) + (o : Int) + (8 * (j : Int) + (o : Int))) = 8 * (j : Int) + (o : Int) + (8 * (j : Int) + (o : Int)) := by rw [IntKind.wrap_u64]; omega
                    clear hrd hb eb
                    go_wp2_with fail
                    with_reducible refine hR.mono ?_
                    rintro e wq ⟨rfl, rfl⟩
                    go_wp2_with fail
                    go_roundg (7 - o)
                    case measure => omega
                    case rel => exact ⟨o + 1, by omega, by go_num, rfl⟩
                · have o1 : ¬ (o : Int) < 8 := by omega
                  go_wp2_with fail
                  go_roundg (L - (j + 1))
                  case measure => omega
                  case rel => exact ⟨j + 1, q', s', by omega, by go_num, hS, hQ6, hM6, TW6, T6⟩
            · obtain rfl : j = L := by omega
              have hl7 := hJ.left
              have hF1 : q.Free 1 := ⟨by omega, by omega, by rw [hJ.u 1 (by omega) (by omega)]; simp, fun k k1 k2 => by omega⟩
              have hN10 : s.hasF 10 = false := by rw [Bool.eq_false_iff, Ne, MS.hasF_iff]; have := hJ.n; omega
              have j1 : ¬ (j : Int) < j := by omega
              have hLf := sleft_any hQ
              rw [hl7] at hLf
              have i0 := q.isOut_off 0 (by omega)
              have i8 := q.isOut_off 8 (by omega)
              go_wp2_with fail
              with_reducible refine (sout_none hQ hM hF1 10 hN10).mono ?_
              rintro e wq ⟨rfl, rfl⟩
              go_wp2_with fail
              with_reducible refine hLf.mono ?_
              rintro e wq ⟨rfl, rfl⟩
              have hD2 := sdrop_any hQ 0
              rw [i0, if_neg (by decide)] at hD2
              go_wp2_with fail
              with_reducible refine hD2.mono ?_
              rintro e w6 ⟨rfl, hQ6, t6⟩
              have T6 := T.transNew t6 (fun i hi e => by omega)
              have hD2 := sdrop_any hQ6 8
              rw [i8, if_neg (by decide)] at hD2
              go_wp2_with fail
              with_reducible refine hD2.mono ?_
              rintro e w7 ⟨rfl, hQ7, t7⟩
              have T7 := T6.transNew t7 (fun i hi e => by omega)
              go_wp2_with fail
              with_reducible refine (wakes10 _).mono ?_
              rintro e w8 ⟨rfl, t8⟩
              go_wp2_with fail
              go_ret
              exact ⟨rfl, T7.trans t8⟩
end Go.Proofs.Ytaofkedcdeocjaa
