/-
  The walk of SchedPlays.
-/
import Derived.Test.YtlhppmhacdoilaaRSchD
import Derived.Test.YtlhppmhacdoilaaSlices
namespace Go.Proofs.Ytlhppmhacdoilaa
open Go.ChangeShapes Go.WideShapes Go.ChangeAt Go.RowKit

/-- The program's scheduler and the document's, side by side. -/
structure SDuo (w : World) (r gO cO gL cL : Nat) (wr : World) (s : Sd) : Prop where
  h : SdAt wr (w.heap.size + 1) w.heap.size s
  k : RSdAt wr r gO cO gL cL s
  g : s.good = true
  r2 : w.heap.size + 1 < r
  o2 : w.heap.size + 1 < gO
  l2 : w.heap.size + 1 < gL
  t : Touch Nil w wr
namespace SDuo
variable {w wr w5 w6 : World} {r gO cO gL cL : Nat} {s s' : Sd}
theorem nil (h : SDuo w r gO cO gL cL wr s) (t : Touch Nil wr w5) : SDuo w r gO cO gL cL w5 s :=
  ⟨h.h.nil t, h.k.nil t, h.g, h.r2, h.o2, h.l2, h.t.trans t⟩
/-- Behind the program's call the document's is as it was .. -/
theorem mid (h : SDuo w r gO cO gL cL wr s) (t : Touch (SdB (w.heap.size + 1) w.heap.size) wr w5) : RSdAt w5 r gO cO gL cL s ∧ Touch Nil w w5 :=
  ⟨h.k.touch t (by have := h.r2; rintro (e | e) <;> omega) (by have := h.o2; rintro (e | e) <;> omega) (by have := h.l2; rintro (e | e) <;> omega), h.t.transNew t (fun i hi e => by rcases e with e | e <;> omega)⟩
/-- .. and behind the document's both have gone on. -/
theorem next (h : SDuo w r gO cO gL cL wr s) (h5 : SdAt w5 (w.heap.size + 1) w.heap.size s') (T5 : Touch Nil w w5) (t : Touch (RSdB r gO gL) w5 w6) (k6 : RSdAt w6 r gO cO gL cL s') (g : s'.good = true) : SDuo w r gO cO gL cL w6 s' := by
  have a := h.r2
  have b := h.o2
  have c := h.l2
  exact ⟨h5.touch t (by rintro (e | e | e) <;> omega) (by rintro (e | e | e) <;> omega), k6, g, a, b, c, T5.transNew t (fun i hi e => by rcases e with e | e | e <;> omega)⟩
end SDuo
set_option maxRecDepth 20000 in
set_option maxHeartbeats 8000000 in
theorem schedPlays_walk (a0 : Int) (a1 : Option Addr) (len1 cap1 : Nat) (z1 : List Int) (w : World) (r1 : Row .i64 w a1 len1 cap1 z1) :
    Calls Try.prog 4 #[.int .i64 a0, .slice a1 len1 cap1] w fun e w' => e = .returned (.bool true) ∧ Touch Nil w w' := by
  obtain ⟨hm1, p1⟩ := r1.plain
  unfold maxLen at hm1
  clear r1
  go_enter Try.func4, Try.ntmps4
  go_upto_if 13 with fail
  go_cut [0] (fun v wx => ∃ c : Int, v = .int .i64 c ∧ w = wx)
  case first =>
    by_cases h5 : a0.tmod 5 = 4
    · go_wp2_with fail
      go_meet
      exact ⟨a0, rfl, rfl⟩
    · have h5' : (a0.tmod 5 != 4) = true := by simpa using h5
      go_wp2_with fail
      with_reducible refine (within_any a0 4 w (by decide) (by decide)).mono ?_
      rintro e wq ⟨rfl, rfl⟩
      go_wp2_with fail
      go_meet
      exact ⟨a0 % 4, rfl, rfl⟩
  case rest =>
    obtain ⟨c, rfl, rfl⟩ := hcut
    go_wp2_with fail
    with_reducible refine (sdNew_any c w).mono ?_
    rintro e w1 ⟨rfl, h1, t1, s1⟩
    go_wp2_with fail
    with_reducible refine (rsNew_any c w1).mono ?_
    rintro e w2 ⟨rfl, ⟨gO, cO, gL, cL, k2, o2, l2⟩, t2⟩
    have hC0 : SDuo w w1.heap.size gO cO gL cL w2 (Sd.fresh (decide (2 ≤ c))) := ⟨h1.nil t2, k2, Sd.good_fresh _, by omega, by omega, by omega, t1.trans t2⟩
    clear h1 k2 o2 l2 t1 t2 s1
    generalize w1.heap.size = r at *
    generalize Sd.fresh (decide (2 ≤ c)) = s at *
    go_wp2_with fail
    go_loopg [7] 80 (fun gk i wr => ∃ (k : Nat) (s : Sd), gk + k = 80 ∧ k % 2 = 0 ∧ i = .int .i64 k ∧ SDuo w r gO cO gL cL wr s)
    case atStart => exact ⟨0, s, by omega, by omega, rfl, hC0⟩
    case round =>
      clear hC0 s
      obtain ⟨k, s, hgk, hk2, rfl, hC⟩ := hrel
      by_cases hgo : k + 1 < len1 ∧ k < 80
      · obtain ⟨hg1, hg2⟩ := hgo
        rcases p1 with p1 | ⟨b0, o0, rfl, hb0, hc0⟩
        · omega
        have hBel := hC.t.below (Nat.le_refl _) (fun _ e => e.elim)
        have c0 := Plain.cell hc0 hb0 hBel k (by omega)
        have c1 := Plain.cell hc0 hb0 hBel (k + 1) (by omega)
        generalize z1.getD k 0 = y0 at c0
        generalize z1.getD (k + 1) 0 = y1 at c1
        have k1 : (k : Int) + 1 < len1 := by omega
        have k2 : (k : Int) < 80 := by omega
        have k5 : (k : Int) < len1 := by omega
        have u1 : (0 : Int) ≤ (k : Int) + 1 := by omega
        clear hBel
        go_wp2_with fail
        with_reducible refine (within_any y1 6 _ (by decide) (by decide)).mono ?_
        rintro e wq ⟨rfl, rfl⟩
        have v0 := Int.emod_nonneg y1 (b := 6) (by decide)
        have v6 := Int.emod_lt_of_pos y1 (b := 6) (by decide)
        generalize y1 % 6 = p0 at *
        go_upto_if 45 with fail
        go_cut [8] (fun v wx => ∃ p : Int, v = .int .i64 p ∧ wr = wx)
        case first =>
          cases h30 : (y0.tmod 31 == 30)
          · go_wp2_with fail
            go_meet
            exact ⟨p0 - 1, rfl, rfl⟩
          · go_wp2_with fail
            go_meet
            exact ⟨y1, rfl, rfl⟩
        case rest =>
        obtain ⟨p, rfl, rfl⟩ := hcut
        clear c1 v0 v6
        go_wp2_with fail
        with_reducible refine (within_any y0 7 _ (by decide) (by decide)).mono ?_
        rintro e wq ⟨rfl, rfl⟩
        have v0 := Int.emod_nonneg y0 (b := 7) (by decide)
        have v7 := Int.emod_lt_of_pos y0 (b := 7) (by decide)
        generalize y0 % 7 = v at *
        clear c0
        go_upto_block 2 with fail
        go_cut [63] (fun _ wx => ∃ s : Sd, SDuo w r gO cO gL cL wx s)
        case first =>
          rcases (by omega : (v = 0 ∨ v = 1) ∨ v = 2 ∨ (v = 3 ∨ v = 4 ∨ v = 5 ∨ v = 6)) with hv | hv | hv
          · have q1 := sdWake_any hC.h p
            have gd := Sd.good_wake hC.g p
            rcases hv with hv | hv <;> subst hv
            all_goals
              go_wp2_with fail
              with_reducible refine q1.mono ?_
              rintro e w5 ⟨rfl, h5, t5⟩
              obtain ⟨k5, T5⟩ := hC.mid t5
              go_wp2_with fail
              with_reducible refine (rsWake_any k5 p).mono ?_
              rintro e w6 ⟨rfl, k6, t6⟩
              go_wp2_with fail
              go_meet
              exact ⟨_, hC.next h5 T5 t6 k6 gd⟩
          · have q1 := sdEnd_any hC.h p
            have gd := Sd.good_fin hC.g p
            subst hv
            go_wp2_with fail
            with_reducible refine q1.mono ?_
            rintro e w5 ⟨rfl, h5, t5⟩
            obtain ⟨k5, T5⟩ := hC.mid t5
            go_wp2_with fail
            with_reducible refine (rsEnd_any k5 hC.g p).mono ?_
            rintro e w6 ⟨rfl, k6, t6⟩
            go_wp2_with fail
            go_meet
            exact ⟨_, hC.next h5 T5 t6 k6 gd⟩
          · have q1 := sdPick_any hC.h p
            have gd := Sd.good_picked hC.g p
            rcases hv with hv | hv | hv | hv <;> subst hv
            all_goals
              go_wp2_with fail
              with_reducible refine q1.mono ?_
              rintro e w5 ⟨rfl, h5, t5⟩
              obtain ⟨k5, T5⟩ := hC.mid t5
              go_wp2_with fail
              with_reducible refine (rsPick_any k5 hC.g p).mono ?_
              rintro e w6 ⟨rfl, k6, t6⟩
              go_wp2_with fail
              go_meet
              exact ⟨_, hC.next h5 T5 t6 k6 gd⟩
        case rest =>
        clear hC s
        obtain ⟨s, hC⟩ := hcut
        obtain ⟨B, hB⟩ : ∃ B, wc.heap.size = B := ⟨_, rfl⟩
        have hO0 : wc.ownsRow B 3 1 (.slice none 0 0) 0 (sints []) := SOwn.nil _ _
        have hB0 : Aside (Below B wc wc) := Below.refl _ _
        go_wp2_with fail
        go_loopg [9, 10] 6 (fun gk vl vq wr => ∃ (j n cap : Nat) (a : Option Addr) (l : List Int), gk + j = 6 ∧ vq = .int .i64 ((j : Int) - 1) ∧ vl = .slice a n cap ∧ Aside (s.liveTo (min (j - 1) 4) = l) ∧ Aside (l.length = n) ∧ wr.ownsRow B 3 1 (.slice a n cap) n (sints l) ∧ Aside (Below B wc wr))
        case atStart => exact ⟨0, 0, 0, none, [], by omega, rfl, rfl, rfl, rfl, hO0, hB0⟩
        case round =>
          clear hO0 hB0
          obtain ⟨j, n, cap, a, l, hgj, rfl, rfl, hl, hn, hO, hW⟩ := hrel
          have tW : Touch Nil wc wr := Touch.ofBelow (by rw [hB]; exact hW.out)
          have hD := hC.nil tW
          have hle : n ≤ 4 := by have := s.liveTo_len (min (j - 1) 4); rw [hl.out, hn.out] at this; omega
          have hsz : B ≤ wr.heap.size := by rw [← hB]; exact tW.size
          by_cases hj : j < 6
          · have j1 : (j : Int) - 1 ≤ 4 := by omega
            have w1 : wrap64 ((j : Int) - 1 + 1) = (j : Int) := by unfold wrap64; omega
            have w2 : IntKind.i64.wrap ((j : Int) - 1 + 1) = (j : Int) := by rw [IntKind.wrap_i64]; omega
            have q1 := sdWhere_any hD.h ((j : Int) - 1)
            have q2 := rsWhere_any hD.k ((j : Int) - 1)
            have q3 := sdOn_any hD.h ((j : Int) - 1)
            have q4 := rsCpu_any hD.k ((j : Int) - 1)
            generalize s.wh ((j : Int) - 1) = x at *
            generalize s.on ((j : Int) - 1) = y at *
            go_wp2_with fail
            with_reducible refine q1.mono ?_
            rintro e wq ⟨rfl, rfl⟩
            go_wp2_with fail
            with_reducible refine q2.mono ?_
            rintro e wq ⟨rfl, rfl⟩
            go_wp2_with fail
            with_reducible refine q3.mono ?_
            rintro e wq ⟨rfl, rfl⟩
            go_wp2_with fail
            with_reducible refine q4.mono ?_
            rintro e wq ⟨rfl, rfl⟩
            clear q1 q2 q3 q4
            rcases (by omega : j = 0 ∨ j = 5 ∨ (1 ≤ j ∧ j < 5)) with h0 | h5 | ⟨h1, h4⟩
            · have hl2 : Aside (s.liveTo (min (j + 1 - 1) 4) = l) := by show _ = _; rw [← hl.out, h0]
              have e0 : (j : Int) - 1 = -1 := by omega
              have e1 : Aside (((j + 1 : Nat) : Int) - 1 = 0) := by show _ = _; omega
              rw [e0]
              clear h0 hl e0 j1 w1 w2
              go_wp2_with fail
              go_roundg (5 - j)
              case measure => omega
              case rel => exact ⟨j + 1, n, cap, a, l, by omega, by rw [e1.out], rfl, hl2, hn, hO, hW⟩
            · have hl2 : Aside (s.liveTo (min (j + 1 - 1) 4) = l) := by show _ = _; rw [← hl.out, h5]; rfl
              have e0 : (j : Int) - 1 = 4 := by omega
              have e1 : Aside (((j + 1 : Nat) : Int) - 1 = 5) := by show _ = _; omega
              rw [e0]
              clear h5 hl e0 j1 w1 w2
              go_wp2_with fail
              go_roundg (5 - j)
              case measure => omega
              case rel => exact ⟨j + 1, n, cap, a, l, by omega, by rw [e1.out], rfl, hl2, hn, hO, hW⟩
            · obtain ⟨i, hi, i4⟩ : ∃ i : Nat, (j : Int) - 1 = (i : Int) ∧ i < 4 := ⟨j - 1, by omega, by omega⟩
              have ij : j = i + 1 := by omega
              have cA := hD.k.aC i i4
              have hnx : s.liveTo (min (j + 1 - 1) 4) = l ++ if s.A i = true then [(i : Int)] else [] := by
                rw [← hl.out, ij, show min (i + 1 + 1 - 1) 4 = i + 1 by omega, show min (i + 1 - 1) 4 = i by omega]
                rfl
              have i5 : (i : Int) < 4 := by omega
              have e1 : Aside (((j + 1 : Nat) : Int) - 1 = (i : Int) + 1) := by show _ = _; omega
              rw [hi]
              clear hl w1 w2 j1 hD hi ij h1 h4
              cases ha : s.A i
              · rw [ha] at cA hnx
                have hl2 : Aside (s.liveTo (min (j + 1 - 1) 4) = l) := by show _ = _; rw [hnx]; simp
                clear hnx ha
                go_wp2_with fail
                go_roundg (5 - j)
                case measure => omega
                case rel => exact ⟨j + 1, n, cap, a, l, by omega, by rw [e1.out], rfl, hl2, hn, hO, hW⟩
              · rw [ha] at cA hnx
                have hl2 : Aside (s.liveTo (min (j + 1 - 1) 4) = l ++ [(i : Int)]) := by show _ = _; rw [hnx]; simp
                have hn2 : Aside ((l ++ [(i : Int)]).length = n + 1) := by show _ = _; rw [List.length_append, hn.out]; rfl
                clear hnx ha hn
                obtain ⟨g', c', wN, hrun, hN, bN⟩ := SOwn.app hO hsz (by omega) (i : Int)
                have hW2 : Aside (Below B wc wN) := hW.out.trans bN
                clear hO hW bN tW hsz
                go_upto_region 29 with fail
                go_wp2_with (at_builtin; refine Lib.wpList_append_run_sl _ rfl _ _ 28 rfl _ _ rfl rfl hrun ?_)
                go_roundg (5 - j)
                case measure => omega
                case rel => exact ⟨j + 1, n + 1, c', some ⟨g', 0, none⟩, _, by omega, by rw [e1.out], rfl, hl2, hn2, hN, hW2⟩
          · have h6 : j = 6 := by omega
            have e6 : (j : Int) - 1 = 5 := by omega
            rw [e6]
            have hll : s.live = l := by rw [← hl.out, h6, ← s.liveTo_four]; rfl
            have hlen : s.live.length = n := by rw [hll, hn.out]
            have q1 := sdAlive_any hD.h
            have hN := SOwn.nums hO hn.out
            rw [← hll] at hN
            clear h6 e6 hj hgj hl hn hO hW tW hsz
            go_wp2_with fail
            with_reducible refine q1.mono ?_
            rintro e w5 ⟨⟨a5, c5, rfl, hO5⟩, t5⟩
            have hN5 := SOwn.nums hO5 rfl
            have hD5 := hD.nil t5
            have hN' := hN.nil t5
            clear hO5
            rw [hlen]
            have q2 := sdSame_any hN5 hN' n hlen (by omega) c5 cap
            clear q1 hD hN hle
            go_wp2_with fail
            with_reducible refine q2.mono ?_
            rintro e w6 ⟨rfl, t6⟩
            have hD6 := hD5.nil t6
            clear q2 hD5 hN5 hN' t5 t6
            go_wp2_with fail
            go_roundg (80 - (k + 2))
            case measure => omega
            case rel => exact ⟨k + 2, s, by omega, by omega, by go_num, hD6⟩
      · have hq : (¬ k + 1 < len1 ∧ decide ((k : Int) + 1 < len1) = false) ∨ (k + 1 < len1 ∧ (k : Int) + 1 < len1 ∧ decide ((k : Int) < 80) = false) := by
          by_cases q : k + 1 < len1
          · exact Or.inr ⟨q, by omega, by simp; omega⟩
          · exact Or.inl ⟨q, by simp; omega⟩
        rcases hq with ⟨q1, q2⟩ | ⟨q1, q3, q2⟩
        all_goals
          go_wp2_with fail
          with_reducible refine (sdWakes_any _).mono ?_
          rintro e w9 ⟨rfl, t9⟩
          go_wp2_with fail
          go_ret
          exact ⟨rfl, hC.t.trans t9⟩
end Go.Proofs.Ytlhppmhacdoilaa
