/-
  The walk of SchedOne.
-/
import Derived.Test.YtlhppmhacdoilaaSchG
namespace Go.Proofs.Ytlhppmhacdoilaa
open Go.ChangeShapes Go.WideShapes Go.ChangeAt Go.RowKit

theorem sdB_old {n b g i : Nat} (h : n ≤ i) (hb : b < n) (hg : g < n) : ¬ SdB b g i := by rintro (h | h) <;> omega
theorem bitA_fin : ∀ al : Fin 16, ∀ k : Fin 4, (bits BinOp.and IntKind.i64 ((al.1 : Int) / 2 ^ k.1) 1 == 1) = Sd.bitA al.1 k.1 := by decide +kernel
theorem bitA_at {al k : Nat} (ha : al < 16) (hk : k < 4) : (bits BinOp.and IntKind.i64 ((al : Int) / 2 ^ k) 1 == 1) = Sd.bitA al k := bitA_fin ⟨al, ha⟩ ⟨k, hk⟩
/-- The list of those that were woken, in the call's own memory. -/
structure OnL (w : World) (al : Nat) (n cap : Nat) (a : Option Addr) (wr : World) : Prop where
  len : (Sd.lsA al 4).length = n
  o : wr.ownsRow (w.heap.size + 2) 3 1 (.slice a n cap) n (sints (Sd.lsA al 4))
  t : Touch Nil w wr
theorem OnL.touch {w wr w5 : World} {al n cap : Nat} {a : Option Addr} (h : OnL w al n cap a wr) (t5 : Touch (SdB (w.heap.size + 1) w.heap.size) wr w5) : OnL w al n cap a w5 :=
  ⟨h.len, ownsRow_touch h.o t5 (fun k e => by rcases e with e | e <;> omega), h.t.transNew t5 (fun i hi e => sdB_new hi (by omega) (by omega) e)⟩
set_option maxRecDepth 20000 in
set_option maxHeartbeats 8000000 in
theorem schedOne_walk (a0 a1 a2 : Int) (w : World) :
    Calls Try.prog 6 #[.int .i64 a0, .int .i64 a1, .int .i64 a2] w fun e w' => e = .returned (.bool true) ∧ Touch Nil w w' := by
  go_enter Try.func6, Try.ntmps6
  go_wp2_with fail
  with_reducible refine (sdNew_any 1 w).mono ?_
  rintro e w1 ⟨rfl, h1, t1, s1⟩
  rw [show decide ((2 : Int) ≤ 1) = false from rfl] at h1
  go_wp2_with fail
  with_reducible refine (within_any a0 16 _ (by decide) (by decide)).mono ?_
  rintro e wq ⟨rfl, rfl⟩
  obtain ⟨al, hal, al16⟩ : ∃ al : Nat, a0 % 16 = al ∧ al < 16 := ⟨(a0 % 16).toNat, by omega, by omega⟩
  rw [hal]
  clear hal
  go_wp2_with fail
  have O0 : w1.ownsRow (w.heap.size + 2) 3 1 (.slice none 0 0) 0 (sints []) := SOwn.nil _ _
  go_loopg [8, 9] 4 (fun gk v i wr => ∃ (k n cap : Nat) (a : Option Addr) (l : List Int), gk + k = 4 ∧ i = .int .i64 k ∧ v = .slice a n cap ∧ Aside (Sd.lsA al k = l) ∧ Aside (l.length = n) ∧ SdAt wr (w.heap.size + 1) w.heap.size (Sd.stA al k) ∧ wr.ownsRow (w.heap.size + 2) 3 1 (.slice a n cap) n (sints l) ∧ Aside (Touch Nil w wr) ∧ Aside (w.heap.size + 2 ≤ wr.heap.size))
  case atStart => exact ⟨0, 0, 0, none, [], by omega, rfl, rfl, rfl, rfl, h1, O0, t1, by show _ ≤ _; omega⟩
  case round =>
    clear h1 O0 t1 s1
    obtain ⟨k, n, cap, a, l, hgk, rfl, rfl, hl, hn, h1, O1, t1, s1⟩ := hrel
    by_cases hk : k < 4
    · have k1 : (k : Int) < 4 := by omega
      have hb := bitA_at al16 hk
      have e1 : Sd.lsA al (k + 1) = if Sd.bitA al k = true then Sd.lsA al k ++ [(k : Int)] else Sd.lsA al k := rfl
      have e2 : Sd.stA al (k + 1) = if Sd.bitA al k = true then (Sd.stA al k).wake k else Sd.stA al k := rfl
      have few : n ≤ 1000 := by have := hn.out; have := hl.out; have := Sd.lsA_len al k; rw [hl.out, hn.out] at this; omega
      cases hq : Sd.bitA al k
      · rw [hq] at hb e1 e2
        have l2 : Aside (Sd.lsA al (k + 1) = l) := by show _ = _; rw [e1]; exact hl.out
        have g2 : Aside (Sd.stA al (k + 1) = Sd.stA al k) := e2
        clear e1 e2 hl
        go_wp2_with fail
        go_roundg (3 - k)
        case measure => omega
        case rel => exact ⟨k + 1, n, cap, a, l, by omega, by go_num, rfl, l2, hn, by rw [g2.out]; exact h1, O1, t1, s1⟩
      · rw [hq] at hb e1 e2
        have l2 : Aside (Sd.lsA al (k + 1) = l ++ [(k : Int)]) := by show _ = _; rw [e1, ← hl.out]; rfl
        have n2 : Aside ((l ++ [(k : Int)]).length = n + 1) := by show _ = _; rw [List.length_append, hn.out]; rfl
        have g2 : Aside (Sd.stA al (k + 1) = (Sd.stA al k).wake k) := e2
        have hW := sdWake_any h1 (k : Int)
        clear e1 e2 hl hn
        go_wp2_with fail
        with_reducible refine hW.mono ?_
        rintro e w5 ⟨rfl, h5, t5⟩
        have T5 := t1.out.transNew t5 (fun i hi e => sdB_new hi (by omega) (by omega) e)
        have O5 := ownsRow_touch O1 t5 (fun k e => by rcases e with e | e <;> omega)
        have S5 := Nat.le_trans s1.out t5.size
        clear hW h1 O1 t1 s1
        obtain ⟨g', c', wN, hrun, hN, bN⟩ := SOwn.app O5 S5 few (k : Int)
        have TN : Touch Nil w wN := T5.transNew (S' := fun i => w.heap.size + 2 ≤ i) ⟨bN.os, bN.tape, bN.output, bN.size, fun i _ hs => bN.block i (by omega)⟩ (fun i hi e => by omega)
        have hN1 : SdAt wN (w.heap.size + 1) w.heap.size ((Sd.stA al k).wake k) := h5.touch (S := fun i => w.heap.size + 2 ≤ i) ⟨bN.os, bN.tape, bN.output, bN.size, fun i _ hs => bN.block i (by omega)⟩ (by omega) (by omega)
        have SN := Nat.le_trans S5 bN.size
        go_upto_region 11 with fail
        go_wp2_with (at_builtin; refine Lib.wpList_append_run_sl _ rfl _ _ 28 rfl _ _ rfl rfl hrun ?_)
        go_roundg (3 - k)
        case measure => omega
        case rel => exact ⟨k + 1, n + 1, c', some ⟨g', 0, none⟩, _, by omega, by go_num, rfl, l2, n2, by rw [g2.out]; exact hN1, hN, TN, SN⟩
    · have h4 : k = 4 := by omega
      have e4 : (k : Int) = 4 := by omega
      rw [e4]
      clear e4 hgk
      subst h4
      have hL : OnL w al n cap a wr := ⟨by rw [hl.out, hn.out], by rw [hl.out]; exact O1, t1.out⟩
      clear hl hn O1 t1 s1 hk
      obtain ⟨lone, live⟩ := Sd.lone_st al16
      have h1 : SdAt wr (w.heap.size + 1) w.heap.size ((Sd.stA al 4).turns 0) := h1
      have n4 : n ≤ 4 := by rw [← hL.len, ← live]; exact Sd.live_few _
      obtain ⟨T, hT, T20⟩ : ∃ T : Nat, a1 % 20 = T ∧ T < 20 := ⟨(a1 % 20).toNat, by omega, by omega⟩
      go_wp2_with fail
      go_loopg [10] 20 (fun gk i wx => ∃ k : Nat, gk + k = 20 ∧ k ≤ T ∧ i = .int .i64 k ∧ SdAt wx (w.heap.size + 1) w.heap.size ((Sd.stA al 4).turns k) ∧ Aside (OnL w al n cap a wx))
      case atStart => exact ⟨0, by omega, by omega, rfl, h1, hL⟩
      case round =>
        clear h1 hL
        obtain ⟨k, hgk, hkT, rfl, h1, hL⟩ := hrel
        go_wp2_with fail
        with_reducible refine (within_any a1 20 _ (by decide) (by decide)).mono ?_
        rintro e wq ⟨rfl, rfl⟩
        rw [hT]
        by_cases hk : k < T
        · have k1 : (k : Int) < T := by omega
          have hw := Sd.one_pick (i := k) al16 (by omega)
          have hwa : Sd.wantA (Sd.lsA al 4) k = if n = 0 then -1 else (Sd.lsA al 4).getD (k % n) 0 := by unfold Sd.wantA; rw [hL.out.len]
          have hp := sdPick_any h1 0
          rw [hw.1] at hp
          have ho := hw.2
          clear hw
          by_cases hn : n = 0
          · rw [if_pos hn] at hwa
            rw [hwa] at hp ho
            have n0 : decide (0 < n) = false := by simp [hn]
            clear hwa hn
            go_wp2_with fail
            with_reducible refine hp.mono ?_
            rintro e w5 ⟨rfl, h5, t5⟩
            have hq := sdOn_any h5 0
            rw [ho] at hq
            have L5 := hL.out.touch t5
            clear hp h1 hL ho
            go_wp2_with fail
            with_reducible refine hq.mono ?_
            rintro e wq ⟨rfl, rfl⟩
            go_wp2_with fail
            go_roundg (19 - k)
            case measure => omega
            case rel => exact ⟨k + 1, by omega, by omega, by go_num, h5, L5⟩
          · rw [if_neg hn] at hwa
            rw [hwa] at hp ho
            have n0 : (0 : Int) < (n : Int) := by omega
            rcases SOwn.nums hL.out.o hL.out.len with hx | ⟨b, o, rfl, hb, hc⟩
            · have := hL.out.len; rw [hx] at this; simp at this; omega
            obtain ⟨r, hr⟩ : ∃ r, k % n = r := ⟨_, rfl⟩
            have em : (k : Int) % (n : Int) = (r : Int) := by rw [← hr]; exact (Int.natCast_emod k n).symm
            have rn : r < n := by rw [← hr]; exact Nat.mod_lt _ (by omega)
            have rn' : (r : Int) < n := by omega
            rw [hr] at hp ho
            have cr := hc r (by rw [hL.out.len]; exact rn)
            generalize (Sd.lsA al 4).getD r 0 = y at *
            clear hwa hc hr
            go_wp2_with fail
            with_reducible refine hp.mono ?_
            rintro e w5 ⟨rfl, h5, t5⟩
            have hq := sdOn_any h5 0
            rw [ho] at hq
            have L5 := hL.out.touch t5
            clear hp h1 hL ho cr
            go_wp2_with fail
            with_reducible refine hq.mono ?_
            rintro e wq ⟨rfl, rfl⟩
            go_wp2_with fail
            go_roundg (19 - k)
            case measure => omega
            case rel => exact ⟨k + 1, by omega, by omega, by go_num, h5, L5⟩
        · have hkT : k = T := by omega
          subst hkT
          generalize hs : (Sd.stA al 4).turns k = s at *
          have hlone : s.lone = true := by rw [← hs]; exact Sd.lone_turns lone k
          have hlive : s.live = Sd.lsA al 4 := by rw [← hs, Sd.live_turns]; exact live
          clear hs hgk hk
          by_cases hn : n = 0
          · have n0 : ((n : Int) == 0) = true := by simp; omega
            have hA := sdAlive_any h1
            rw [show s.live = [] from List.length_eq_zero_iff.1 (by rw [hlive, hL.out.len]; exact hn)] at hA
            go_wp2_with fail
            with_reducible refine hA.mono ?_
            rintro e w5 ⟨⟨a5, c5, rfl, _⟩, t5⟩
            have T5 := hL.out.t.trans t5
            clear hA hL h1
            go_wp2_with fail
            with_reducible refine (sdWakes_any _).mono ?_
            rintro e w9 ⟨rfl, t9⟩
            go_wp2_with fail
            go_ret
            exact ⟨rfl, T5.trans t9⟩
          · have n0 : ((n : Int) == 0) = false := by simp; omega
            rcases SOwn.nums hL.out.o hL.out.len with hx | ⟨b, o, rfl, hb, hc⟩
            · have := hL.out.len; rw [hx] at this; simp at this; omega
            have hlen := hL.out.len
            obtain ⟨r, hr⟩ : ∃ r : Nat, a2 % (n : Int) = r := ⟨(a2 % (n : Int)).toNat, by have := Int.emod_nonneg a2 (show (n : Int) ≠ 0 by omega); omega⟩
            have rn : r < n := by have := Int.emod_lt_of_pos a2 (show (0 : Int) < (n : Int) by omega); omega
            have rn' : (r : Int) < n := by omega
            have cr := hc r (by rw [hlen]; exact rn)
            have hmem : (Sd.lsA al 4).getD r 0 ∈ s.live := by
              rw [hlive, List.getD_eq_getElem?_getD, List.getElem?_eq_getElem (by omega)]
              exact List.getElem_mem _
            generalize (Sd.lsA al 4).getD r 0 = p at *
            have hE := sdEnd_any h1 p
            obtain ⟨pi, pi4, hpi, hfl, _⟩ := s.live_mem hmem
            have hsl : s.live.length = n := by rw [hlive, hlen]
            have hend := fun i => Sd.ended hlone hmem i
            rw [hsl] at hend
            have hfl : (s.fin p).live.length = n - 1 := by omega
            clear hpi hlive hlone hc hmem
            go_wp2_with fail
            with_reducible refine (within_any a2 n _ (by omega) (by omega)).mono ?_
            rintro e wq ⟨rfl, rfl⟩
            rw [hr]
            clear hr
            go_wp2_with fail
            with_reducible refine hE.mono ?_
            rintro e w5 ⟨rfl, h5, t5⟩
            have L5 := hL.out.touch t5
            have T5 := L5.t
            clear hE hL h1 cr L5 t5
            generalize s.fin p = s' at *
            have h5 : SdAt w5 (w.heap.size + 1) w.heap.size (s'.turns 0) := h5
            go_wp2_with fail
            go_loopg [13] 5 (fun gk i wx => ∃ k : Nat, gk + k = 5 ∧ i = .int .i64 k ∧ SdAt wx (w.heap.size + 1) w.heap.size (s'.turns k) ∧ Aside (Touch Nil w wx))
            case atStart => exact ⟨0, by omega, rfl, h5, T5⟩
            case round =>
              clear h5 T5
              obtain ⟨j, hgj, rfl, h5, T5⟩ := hrel
              by_cases hj : j < 5
              · have j1 : (j : Int) < 5 := by omega
                obtain ⟨e1, e2⟩ := hend j
                have hp := sdPick_any h5 0
                generalize (s'.turns j).pick 0 = q at *
                have e3 : ((n : Int) == 1) = decide (q < 0) := by rw [e2]; by_cases h : n = 1 <;> simp [h] <;> omega
                clear e2
                go_wp2_with fail
                with_reducible refine hp.mono ?_
                rintro e w6 ⟨rfl, h6, t6⟩
                have T6 := T5.out.transNew t6 (fun i hi e => sdB_new hi (by omega) (by omega) e)
                clear hp h5 T5 t6
                cases hq : decide (q < 0)
                · rw [hq] at e3
                  go_wp2_with fail
                  go_roundg (4 - j)
                  case measure => omega
                  case rel => exact ⟨j + 1, by omega, by go_num, h6, T6⟩
                · rw [hq] at e3
                  go_wp2_with fail
                  go_roundg (4 - j)
                  case measure => omega
                  case rel => exact ⟨j + 1, by omega, by go_num, h6, T6⟩
              · have hA := sdAlive_any h5
                rw [Sd.live_turns, hfl] at hA
                have v9 : ((n - 1 : Nat) : Int) = (n : Int) - 1 := by omega
                go_wp2_with fail
                with_reducible refine hA.mono ?_
                rintro e w6 ⟨⟨a5, c5, rfl, _⟩, t6⟩
                have T6 := T5.out.trans t6
                clear hA h5 T5
                go_wp2_with fail
                with_reducible refine (sdWakes_any _).mono ?_
                rintro e w9 ⟨rfl, t9⟩
                go_wp2_with fail
                go_ret
                exact ⟨rfl, T6.trans t9⟩
end Go.Proofs.Ytlhppmhacdoilaa
