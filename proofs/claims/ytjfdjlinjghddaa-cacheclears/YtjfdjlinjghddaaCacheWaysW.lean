/-
  The walk of CacheWays.
-/
import Derived.Test.YtjfdjlinjghddaaOwnL
namespace Go.Proofs.Ytjfdjlinjghddaa
open Go.ChangeShapes Go.WideShapes Go.ChangeAt Go.RowKit

/-- Was it met among the first k? -/
def seen (f : Nat → Int) (x : Int) : Nat → Bool
  | 0 => false
  | k + 1 => seen f x k || f k == x
theorem seen_iff (f : Nat → Int) (x : Int) : ∀ k, seen f x k = true ↔ ∃ i, i < k ∧ f i = x
  | 0 => by simp [seen]
  | k + 1 => by
    simp only [seen, Bool.or_eq_true, beq_iff_eq, seen_iff f x k]
    constructor
    · rintro (⟨i, h1, h2⟩ | h)
      · exact ⟨i, by omega, h2⟩
      · exact ⟨k, by omega, h⟩
    · rintro ⟨i, h1, h2⟩
      by_cases e : i = k
      · right; rw [← e]; exact h2
      · left; exact ⟨i, by omega, h2⟩
def lget (l : List Int) (i : Nat) : Int := l.getD i 0
theorem seen_list (l : List Int) (x : Int) : seen (lget l) x l.length = decide (x ∈ l) := by
  rw [show lget l = (fun i => l.getD i 0) from rfl, Bool.eq_iff_iff, seen_iff, decide_eq_true_eq, List.mem_iff_getElem]
  constructor
  · rintro ⟨i, h1, h2⟩
    refine ⟨i, h1, ?_⟩
    rw [List.getD_eq_getElem?_getD, List.getElem?_eq_getElem h1] at h2
    simpa using h2
  · rintro ⟨i, h1, h2⟩
    refine ⟨i, h1, ?_⟩
    rw [List.getD_eq_getElem?_getD, List.getElem?_eq_getElem h1]
    simpa using h2
/-- A line is told by the tags just if it is there. -/
theorem seen_tags {K V : Nat} {S : Sets} (h : SOK K V S) (hK : 1 ≤ K) (hV : 1 ≤ V) (x : Int) (hx : 0 ≤ x) : seen (tg S V) x (K * V) = S.has K x := by
  rw [Bool.eq_iff_iff, seen_iff]
  simp only [Sets.has, decide_eq_true_eq]
  constructor
  · rintro ⟨i, h1, h2⟩
    have hn : 0 ≤ tg S V i := by omega
    have hm : (S (i / V))[i % V]? = some (tg S V i) := by
      unfold tg wy at *
      cases e : (S (i / V))[i % V]? with
      | none => rw [e] at hn; simp at hn
      | some y => simp
    rw [h2] at hm
    have hmem := List.mem_of_getElem? hm
    have := h.mod _ _ hmem
    rw [this, Int.toNat_natCast]
    exact hmem
  · intro hm
    have hlt := List.idxOf_lt_length_of_mem hm
    have hl := h.len (x % (K : Int)).toNat
    have hk : (x % (K : Int)).toNat < K := by
      have := Int.emod_lt_of_pos x (b := (K : Int)) (by omega)
      omega
    have hkV : (x % (K : Int)).toNat * V + V ≤ K * V := by
      have : ((x % (K : Int)).toNat + 1) * V ≤ K * V := Nat.mul_le_mul_right _ hk
      rw [Nat.add_mul, Nat.one_mul] at this; omega
    refine ⟨(x % (K : Int)).toNat * V + (S (x % (K : Int)).toNat).idxOf x, by omega, ?_⟩
    obtain ⟨e1, e2⟩ := kV_in (V := V) (k := (x % (K : Int)).toNat) (i := (x % (K : Int)).toNat * V + (S (x % (K : Int)).toNat).idxOf x) (by omega) (by omega) (by omega)
    unfold tg
    rw [e1, e2, Nat.add_sub_cancel_left]
    exact (idxOf_first hm hx).2.1

/-- CPU 0 has the lines L in set s, and nothing else; CPU 1 has none. -/
structure IW (q : CQ) (s : Nat) (L : List Int) : Prop where
  n : q.n = 2
  a : q.F 0 s = L
  b : ∀ k, k ≠ s → q.F 0 k = []
  c : ∀ k, q.F 1 k = []

namespace IW
variable {q : CQ} {s : Nat} {L : List Int} {N : Int}
theorem may (h : IW q s L) (h0 : 0 ≤ N) : q.may 0 N = true := by simp [CQ.may, CQ.hasC, h.n, h0]
theorem may1 (h : IW q s L) (h0 : 0 ≤ N) : q.may 1 N = true := by simp [CQ.may, CQ.hasC, h.n, h0]
theorem touch (h : IW q s L) (h0 : 0 ≤ N) (hs : (N % 4).toNat = s) : IW (q.touch 0 N) s (sput L N 2) := by
  have hm := h.may h0
  have e : ∀ k, (q.touch 0 N).F 0 k = if k = s then sput (q.F 0 k) N 2 else q.F 0 k := fun k => by
    simp only [CQ.touch, hm, if_true, Int.toNat_zero, Sets.put, Int.cast_ofNat_Int, hs]
  refine ⟨by rw [CQ.touch_n]; exact h.n, ?_, fun k hk => ?_, fun k => ?_⟩
  · rw [e, if_pos rfl, h.a]
  · rw [e, if_neg hk, h.b k hk]
  · rw [q.touch_other 0 N (i := 1) (by decide)]; exact h.c k
theorem near0 (h : IW q s L) (h0 : 0 ≤ N) (hs : (N % 4).toNat = s) : q.near 0 N = decide (N ∈ L) := by
  unfold CQ.near Sets.has
  rw [h.may h0]
  simp only [Int.toNat_zero, Int.cast_ofNat_Int, hs, h.a, Bool.true_and]
theorem near1 (h : IW q s L) : q.near 1 N = false := by
  unfold CQ.near Sets.has
  rw [show (1 : Int).toNat = 1 from rfl, h.c]; simp
theorem evict {T : List Int} (h : IW q s (N :: T)) (h0 : 0 ≤ N) (hs : (N % 4).toNat = s) : IW (q.evict 0 N) s T := by
  have hm := h.may h0
  have e : ∀ k, (q.evict 0 N).F 0 k = if k = s then (q.F 0 k).erase N else q.F 0 k := fun k => by
    simp only [CQ.evict, hm, if_true, Int.toNat_zero, Sets.cut, Int.cast_ofNat_Int, hs]
  refine ⟨by rw [CQ.evict_n]; exact h.n, ?_, fun k hk => ?_, fun k => ?_⟩
  · rw [e, if_pos rfl, h.a]; simp
  · rw [e, if_neg hk, h.b k hk]
  · rw [q.evict_other 0 N (i := 1) (by decide)]; exact h.c k
theorem evict_no (h : IW q s L) (h0 : 0 ≤ N) (hs : (N % 4).toNat = s) (hN : N ∉ L) : IW (q.evict 0 N) s L := by
  have hm := h.may h0
  have e : ∀ k, (q.evict 0 N).F 0 k = if k = s then (q.F 0 k).erase N else q.F 0 k := fun k => by
    simp only [CQ.evict, hm, if_true, Int.toNat_zero, Sets.cut, Int.cast_ofNat_Int, hs]
  refine ⟨by rw [CQ.evict_n]; exact h.n, ?_, fun k hk => ?_, fun k => ?_⟩
  · rw [e, if_pos rfl, h.a]; exact List.erase_of_not_mem hN
  · rw [e, if_neg hk, h.b k hk]
  · rw [q.evict_other 0 N (i := 1) (by decide)]; exact h.c k
theorem clear (h : IW q s L) (h0 : 0 ≤ N) (hs : (N % 4).toNat = s) (hN : N ∉ L) : IW (q.clear N) s L := by
  have e : ∀ i k, i < 2 → (q.clear N).F i k = if k = s then (q.F i k).erase N else q.F i k := fun i k hi => by
    simp only [CQ.clear, h0, if_true, h.n, hi, Sets.cut, Int.cast_ofNat_Int, hs]
  refine ⟨by rw [CQ.clear_n]; exact h.n, ?_, fun k hk => ?_, fun k => ?_⟩
  · rw [e 0 s (by omega), if_pos rfl, h.a]; exact List.erase_of_not_mem hN
  · rw [e 0 k (by omega), if_neg hk, h.b k hk]
  · rw [e 1 k (by omega), h.c k]; simp
theorem cleared (h : IW q s L) (h0 : 0 ≤ N) (hs : (N % 4).toNat = s) (hN : N ∉ L) : q.cleared N = q.Sh.has 8 N := by
  unfold CQ.cleared
  rw [h.n]
  simp only [CQ.anyF, Sets.has, Int.cast_ofNat_Int, hs, h.a, h.c, h0]
  simp [hN]
theorem cleared2 (h : IW q s L) (h0 : 0 ≤ N) (hs : (N % 4).toNat = s) (hN : N ∉ L) (ok : SOK 8 4 q.Sh) : (q.clear N).cleared N = false := by
  rw [(h.clear h0 hs hN).cleared h0 hs hN]
  have : (q.clear N).Sh = q.Sh.cut 8 N := by simp [CQ.clear, h0]
  rw [this]; exact has_cut ok N
theorem has_shared (h : IW q s L) (h0 : 0 ≤ N) : (q.touch 0 N).Sh.has 8 N = true := by
  have : (q.touch 0 N).Sh = q.Sh.put 8 4 N := by simp [CQ.touch, h.may h0]
  rw [this]; exact has_put _ _ _ _ (by omega)
theorem tags (h : IW q s L) (i : Nat) : tg (q.F 0) 2 i = if i / 2 = s ∧ i % 2 < L.length then L.getD (i % 2) 0 else -1 := by
  unfold tg wy
  by_cases e : i / 2 = s
  · rw [e, h.a]
    by_cases e2 : i % 2 < L.length
    · rw [if_pos ⟨rfl, e2⟩, List.getD_eq_getElem?_getD, List.getElem?_eq_getElem e2]; rfl
    · rw [if_neg (fun h => e2 h.2), List.getElem?_eq_none (by omega)]; rfl
  · rw [h.b _ e, if_neg (fun h => e h.1)]; rfl
end IW

set_option maxRecDepth 10000 in
set_option maxHeartbeats 8000000 in
theorem cacheWays_walk (a0 : Int) (a1 : Option Addr) (len1 cap1 : Nat) (z1 : List Int) (w : World) (r1 : Row .i64 w a1 len1 cap1 z1) :
    Calls Try.prog 7 #[.int .i64 a0, .slice a1 len1 cap1] w fun e w' => e = .returned (.bool true) ∧ Below w.heap.size w w' := by
  obtain ⟨hm1, p1⟩ := r1.plain
  unfold maxLen at hm1
  clear r1
  have q0 := Int.emod_nonneg a0 (b := 4) (by omega)
  have q1 := Int.emod_lt_of_pos a0 (b := 4) (by omega)
  obtain ⟨s, hsa⟩ : ∃ s : Nat, a0 % 4 = (s : Int) := ⟨(a0 % 4).toNat, by omega⟩
  have hs4 : s < 4 := by omega
  clear q0 q1
  go_enter Try.func7, Try.ntmps7
  go_wp2_with (first
    | (go_at_call 14; refine (within_any _ _ _ (by omega) (by omega)).mono ?_; rintro e wq ⟨rfl, rfl⟩)
    | (go_at_call 9; refine (cnew_any _ _).mono ?_; rintro e w1 ⟨rfl, hC, hT⟩; rw [many2] at hC; have hlo := hT.size; generalize w.heap.size + 4 = b at hC; obtain ⟨hi, hhi⟩ : ∃ hi, w1.heap.size = hi := ⟨_, rfl⟩; rw [hhi] at hC hlo))
  have hI0 : IW (CQ.fresh 2) s [] := ⟨rfl, rfl, fun _ _ => rfl, fun _ => rfl⟩
  go_loopg [6, 7] 12 (fun g v i wr => ∃ k : Nat, g + k = 12 ∧ i = .int .i64 k ∧ ∃ q L a cap, v = .slice a L.length cap ∧ OwnL wr hi a cap L ∧ L.length ≤ 2 ∧ (∀ x ∈ L, 0 ≤ x ∧ x < 48 ∧ (x % 4).toNat = s) ∧ CAt wr b w.heap.size hi q ∧ IW q s L ∧ Touch Nil w wr ∧ hi ≤ wr.heap.size)
  case atStart => exact ⟨0, by omega, rfl, _, [], none, 0, rfl, OwnL.nil _ _, by simp, by simp, hC, hI0, hT, by omega⟩
  case round =>
    clear hC hT hhi hI0
    obtain ⟨k, hgk, rfl, q, L, a, cap, rfl, hO, hL2, hLm, hC, hI, hT, hz⟩ := hrel
    by_cases hgo : k < len1 ∧ k < 12
    · obtain ⟨hg1, hg2⟩ := hgo
      rcases p1 with p1 | ⟨b1, o1, rfl, hb1, hc1⟩
      · omega
      have c0 := Plain.cell hc1 hb1 (hT.below (Nat.le_refl _) (fun _ e => e.elim)) k (by omega)
      obtain ⟨y0, hy⟩ : ∃ y, z1.getD k 0 = y := ⟨_, rfl⟩
      rw [hy] at c0
      have k1 : (k : Int) < len1 := by omega
      have k2 : (k : Int) < 12 := by omega
      have x1 := Int.emod_nonneg y0 (b := 6) (by omega)
      have x2 := Int.emod_lt_of_pos y0 (b := 6) (by omega)
      obtain ⟨N, hN⟩ : ∃ N, 8 * (y0 % 6) + (s : Int) = N := ⟨_, rfl⟩
      have hN0 : 0 ≤ N := by omega
      have hN1 : N < 48 := by omega
      have hNs : (N % 4).toNat = s := by omega
      have hto := ctouch_any hC 0 N (by omega)
      have e1 := hI.may (N := N) hN0
      have hI2 := hI.touch hN0 hNs
      have e2 := hI2.near0 hN0 hNs
      rw [decide_eq_true (mem_sput_self L N 2 (by omega))] at e2
      have e3 := hI2.near1 (N := N)
      have e4 := hI.has_shared (N := N) hN0
      rw [e1] at hto
      generalize q.touch 0 N = q' at hto hI2 e2 e3 e4
      clear e1
      go_upto_region 13 with (first
        | (go_at_call 14; refine (within_any _ _ _ (by omega) (by omega)).mono ?_; rintro e wq ⟨rfl, rfl⟩)
        | (go_at_call 10; refine hto.mono ?_; rintro e w3 ⟨hx, hC3, t3⟩; subst hx; replace hO := hO.touch t3 (fun k h1 _ h2 => by omega); replace hC := hC3; clear hC3; replace hz := Nat.le_trans hz t3.size; replace hT := hT.transNew t3 (fun i h e => by omega))
        | (go_at_call 15; refine (cnear_t hC _ _ (by omega)).mono ?_; rintro e w4 ⟨rfl, t4⟩; replace hO := hO.touch t4 (fun _ _ _ e => e); replace hC := hC.touch t4 (fun _ _ _ e => e); replace hz := Nat.le_trans hz t4.size; replace hT := hT.trans t4))
      have hLm' : ∀ x ∈ sput L N 2, 0 ≤ x ∧ x < 48 ∧ (x % 4).toNat = s := fun x hx => by
        rcases mem_sput L N x 2 hx with h | rfl
        · exact hLm x h
        · exact ⟨hN0, hN1, hNs⟩
      have hlen' := sput_len L N 2 hL2
      have hmem' := hLm'
      have hsl := seen_list L N
      have hcap := hO.capLe
      unfold maxLen at hcap
      have hO' : Hid (OwnL w4 hi a cap L) := hO
      go_wp2
      go_loop [9, 64] (fun v i => ∃ j : Nat, j ≤ L.length ∧ i = .int .i64 j ∧ v = .bool (seen (lget L) N j)) (fun _ i => L.length - (intOf i).toNat)
      case atStart => exact ⟨0, by omega, rfl, rfl⟩
      case round =>
        obtain ⟨j, hj, rfl, rfl⟩ := hrel
        by_cases hjl : j < L.length
        · rcases hO.cells with rfl | ⟨b2, o2, rfl, hb2, hc2⟩
          · simp at hjl
          have j1 : (j : Int) < L.length := by omega
          have cj : w4.cell? ⟨b2, o2 + j, none⟩ = some (.int .i64 (lget L j)) := hc2 j hjl
          clear hc2
          have hst : Hid (seen (lget L) N (j + 1) = (seen (lget L) N j || lget L j == N)) := rfl
          generalize lget L j = y at cj hst
          cases hsj : seen (lget L) N j
          · go_wp2
            go_round
            case rel => exact ⟨j + 1, by omega, by go_num, by rw [hst.out, hsj]; rfl⟩
            case measure => simp [intOf]; omega
          · go_wp2
            go_round
            case rel => exact ⟨j + 1, by omega, by go_num, by rw [hst.out, hsj]; rfl⟩
            case measure => simp [intOf]; omega
        · have hj2 : j = L.length := by omega
          subst hj2
          by_cases hmem : N ∈ L
          · rw [decide_eq_true hmem] at hsl
            have hsp : sput L N 2 = L := if_pos hmem
            rw [hsp] at hlen' hmem' hI2
            obtain ⟨b2, o2, rfl⟩ : ∃ b2 o2, a = some ⟨b2, o2, none⟩ := by
              rcases hO with ⟨_, _, rfl⟩ | ⟨g, o, _, _, h, _⟩
              · simp at hmem
              · exact ⟨g, o, h⟩
            have hpos : 0 < L.length := List.length_pos_of_mem hmem
            have hmx : max ((L.length : Int) - 2) 0 = 0 := by omega
            have hc0 : ¬ (cap = 0) := by omega
            clear hO'
            go_wp2_with (first
              | (go_at_call 12; refine (cshared_any hC).mono ?_; rintro e w7 ⟨cS, capS, rfl, gS, rS, t7, _, _⟩; replace hO := hO.touch t7 (fun _ _ _ e => e); replace hC := hC.touch t7 (fun _ _ _ e => e); replace hz := Nat.le_trans hz t7.size; replace hT := hT.trans t7))
            have hse := seen_tags hC.oks.2 (by omega) (by omega) N hN0
            rw [e4] at hse
            have hrS : Hid (rowHas w7 cS 3 32 (fun j => .int .i64 (tg q'.Sh 4 j))) := rS
            clear rS
            go_loop [12, 90] (fun v i => ∃ j : Nat, j ≤ 32 ∧ i = .int .i64 j ∧ v = .bool (seen (tg q'.Sh 4) N j)) (fun _ i => 32 - (intOf i).toNat)
            case atStart => exact ⟨0, by omega, rfl, rfl⟩
            case round =>
              obtain ⟨j, hj, rfl, rfl⟩ := hrel
              by_cases hj32 : j < 32
              · have j1 : (j : Int) < 32 := by omega
                have cj := hrS.out.cell (i := j) hj32
                have hst : Hid (seen (tg q'.Sh 4) N (j + 1) = (seen (tg q'.Sh 4) N j || tg q'.Sh 4 j == N)) := rfl
                generalize tg q'.Sh 4 j = y at cj hst
                cases hsj : seen (tg q'.Sh 4) N j
                · go_wp2
                  go_round
                  case rel => exact ⟨j + 1, by omega, by go_num, by rw [hst.out, hsj]; rfl⟩
                  case measure => simp [intOf]; omega
                · go_wp2
                  go_round
                  case rel => exact ⟨j + 1, by omega, by go_num, by rw [hst.out, hsj]; rfl⟩
                  case measure => simp [intOf]; omega
              · have hj2 : j = 32 := by omega
                subst hj2
                go_wp2
                go_roundg (11 - k)
                case measure => omega
                case rel => exact ⟨k + 1, by omega, by go_num, _, L, _, _, rfl, hO, hlen', hmem', hC, hI2, hT, hz⟩
          · rw [decide_eq_false hmem] at hsl
            have hsp : sput L N 2 = (L ++ [N]).drop (L.length + 1 - 2) := if_neg hmem
            have hal : OwnL (w4.alloc (.cells #[.int .i64 N] 3)) hi a cap L := hO.touch ((Touch.refl Nil w4).alloc _) (fun _ _ _ e => e)
            obtain ⟨g, o, cap', w5, hr, hO5, t5⟩ := hal.append (by simp; omega) (by omega) N w4.heap.size (by simp)
            have t5' : Touch (hi ≤ ·) w4 w5 := ((Touch.refl (hi ≤ ·) w4).alloc _).trans t5
            replace hC := hC.touch t5' (fun k _ h1 h2 => by omega)
            replace hz := Nat.le_trans hz t5'.size
            replace hT := hT.transNew t5' (fun i h e => by omega)
            obtain ⟨d, hd⟩ : ∃ d : Nat, L.length + 1 - 2 = d := ⟨_, rfl⟩
            rw [hd] at hsp
            have hd1 : d ≤ 1 := by omega
            have hmx : max ((L.length : Int) + 1 - 2) 0 = (d : Int) := by omega
            have hmx2 : max ((L.length : Int) - 1) 0 = (d : Int) := by omega
            have hdl : (d : Int) ≤ (L.length : Int) + 1 := by omega
            have hcap5 := hO5.capLe
            unfold maxLen at hcap5
            simp only [List.length_append, List.length_singleton] at hcap5
            have hdc : ¬ (cap' = d) := by omega
            have hO6 := hO5.drop d (by simp; omega)
            rw [← hsp] at hO6
            have hle6 : (sput L N 2).length = L.length + 1 - d := by rw [hsp]; simp
            clear hO hO' hal hO5 t5
            have hO := hO6
            clear hO6
            generalize sput L N 2 = L' at *
            have hr' : Hid ((Builtin.append_ #[24, 24] 24 #[.slice a L.length cap, .slice (some ⟨w4.heap.size, 0, none⟩) 1 1]).run Try.prog (w4.alloc (.cells #[.int .i64 N] 3)) = .ok (.slice (some ⟨g, o, none⟩) (L.length + 1) cap') w5) := hr
            clear hr
            go_wp2_with (first
              | (refine Lib.wpList_append_run_sl _ rfl _ _ 24 rfl _ _ rfl rfl hr'.out ?_)
              | (go_at_call 12; refine (cshared_any hC).mono ?_; rintro e w7 ⟨cS, capS, rfl, gS, rS, t7, _, _⟩; replace hO := hO.touch t7 (fun _ _ _ e => e); replace hC := hC.touch t7 (fun _ _ _ e => e); replace hz := Nat.le_trans hz t7.size; replace hT := hT.trans t7))
            have hse := seen_tags hC.oks.2 (by omega) (by omega) N hN0
            rw [e4] at hse
            have hrS : Hid (rowHas w7 cS 3 32 (fun j => .int .i64 (tg q'.Sh 4 j))) := rS
            clear rS
            go_loop [12, 90] (fun v i => ∃ j : Nat, j ≤ 32 ∧ i = .int .i64 j ∧ v = .bool (seen (tg q'.Sh 4) N j)) (fun _ i => 32 - (intOf i).toNat)
            case atStart => exact ⟨0, by omega, rfl, rfl⟩
            case round =>
              obtain ⟨j, hj, rfl, rfl⟩ := hrel
              by_cases hj32 : j < 32
              · have j1 : (j : Int) < 32 := by omega
                have cj := hrS.out.cell (i := j) hj32
                have hst : Hid (seen (tg q'.Sh 4) N (j + 1) = (seen (tg q'.Sh 4) N j || tg q'.Sh 4 j == N)) := rfl
                generalize tg q'.Sh 4 j = y at cj hst
                cases hsj : seen (tg q'.Sh 4) N j
                · go_wp2
                  go_round
                  case rel => exact ⟨j + 1, by omega, by go_num, by rw [hst.out, hsj]; rfl⟩
                  case measure => simp [intOf]; omega
                · go_wp2
                  go_round
                  case rel => exact ⟨j + 1, by omega, by go_num, by rw [hst.out, hsj]; rfl⟩
                  case measure => simp [intOf]; omega
              · have hj2 : j = 32 := by omega
                subst hj2
                go_wp2
                go_roundg (11 - k)
                case measure => omega
                case rel => exact ⟨k + 1, by omega, by go_num, _, L', _, _, by rw [hle6], hO, hlen', hmem', hC, hI2, hT, hz⟩
    · have h1 : q.hasC 0 = true := by rw [CQ.hasC_iff]; have := hI.n; omega
      clear p1
      have hcap := hO.capLe
      unfold maxLen at hcap
      by_cases hl : k < len1
      have k1 : (k : Int) < len1 := by omega
      have k2 : decide ((k : Int) < 12) = false := by simp; omega
      go_upto_region 29 with fail
      rotate_left
      have k1 : decide ((k : Int) < len1) = false := by simp; omega
      go_upto_region 29 with fail
      all_goals
        clear hgo hl k1
        try clear k2
        go_wp2_with (go_at_call 11; refine (ctags_yes hC _ h1).mono ?_; rintro e w2 ⟨cA, capA, rfl, gA, rA, tA, kA1, kA2⟩; replace hO := hO.touch tA (fun _ _ _ e => e); replace hC := hC.touch tA (fun _ _ _ e => e); replace hz := Nat.le_trans hz tA.size; replace hT := hT.trans tA)
        have hrA : Hid (rowHas w2 cA 3 8 (fun j => .int .i64 (tg (q.F 0) 2 j))) := rA
        have htg : Hid (∀ i, tg (q.F 0) 2 i = if i / 2 = s ∧ i % 2 < L.length then L.getD (i % 2) 0 else -1) := hI.tags
        have hOc : Hid (L = [] ∨ ∃ b o, a = some ⟨b, o, none⟩ ∧ b < w2.heap.size ∧ ∀ i, i < L.length → w2.cell? ⟨b, o + i, none⟩ = some (.int .i64 (L.getD i 0))) := hO.cells
        clear rA tA
        go_loop [110] (fun v => ∃ i : Nat, i ≤ 8 ∧ v = .int .i64 i) (fun v => 8 - (intOf v).toNat)
        case atStart => exact ⟨0, by omega, rfl⟩
        case round =>
          obtain ⟨i, hi8, rfl⟩ := hrel
          by_cases hlt : i < 8
          · have i1 : (i : Int) < 8 := by omega
            have ci := hrA.out.cell (i := i) hlt
            have ti := htg.out i
            by_cases hin : i / 2 = s ∧ i % 2 < L.length
            · rw [if_pos hin] at ti
              rw [ti] at ci
              rcases hOc.out with rfl | ⟨b2, o2, rfl, hb2, hc2⟩
              · simp at hin
              have cl := hc2 (i % 2) hin.2
              clear hc2 ti
              have g1 : (i : Int) / 2 = (s : Int) := by omega
              have g2 : (i : Int) % 2 < (L.length : Int) := by omega
              have g3 : 0 ≤ (i : Int) % 2 := by omega
              have g4 : ((i : Int) % 2).toNat = i % 2 := by omega
              generalize L.getD (i % 2) 0 = y at ci cl
              go_wp2
              go_round
              case rel => exact ⟨i + 1, by omega, by go_num⟩
              case measure => simp [intOf]; omega
            · rw [if_neg hin] at ti
              rw [ti] at ci
              clear ti
              by_cases hsi : i / 2 = s
              · have g1 : (i : Int) / 2 = (s : Int) := by omega
                have g2 : decide ((i : Int) % 2 < (L.length : Int)) = false := by simp; omega
                go_wp2
                go_round
                case rel => exact ⟨i + 1, by omega, by go_num⟩
                case measure => simp [intOf]; omega
              · have g1 : ((i : Int) / 2 == (s : Int)) = false := by simp; omega
                go_wp2
                go_round
                case rel => exact ⟨i + 1, by omega, by go_num⟩
                case measure => simp [intOf]; omega
          · have hi2 : i = 8 := by omega
            subst hi2
            go_wp2
            clear hrA htg hOc
            go_loopg [137] L.length (fun g v wr => ∃ j : Nat, g + j = L.length ∧ v = .int .i64 j ∧ ∃ q, CAt wr b w.heap.size hi q ∧ IW q s (L.drop j) ∧ OwnL wr hi a cap L ∧ Touch Nil w wr ∧ hi ≤ wr.heap.size)
            case atStart => exact ⟨0, by omega, rfl, q, hC, hI, hO, hT, hz⟩
            case round =>
              clear hC hI hO hT hz h1
              obtain ⟨j, hgj, rfl, q, hC, hI, hO, hT, hz⟩ := hrel
              by_cases hlt : j < L.length
              · have j1 : (j : Int) < L.length := by omega
                rcases hO.cells with rfl | ⟨b2, o2, rfl, hb2, hc2⟩
                · simp at hlt
                have cj := hc2 j hlt
                clear hc2
                have hmemN : L.getD j 0 ∈ L := by
                  rw [List.getD_eq_getElem?_getD, List.getElem?_eq_getElem hlt]; exact List.getElem_mem _
                obtain ⟨hN0, hN1, hNs⟩ := hLm _ hmemN
                have hdr : L.drop j = L.getD j 0 :: L.drop (j + 1) := by
                  rw [List.getD_eq_getElem?_getD, List.getElem?_eq_getElem hlt]; exact List.drop_eq_getElem_cons hlt
                rw [hdr] at hI
                obtain ⟨ok1, ok2⟩ := hC.oks
                have hnd := (ok1 0).nd s
                rw [hI.a] at hnd
                generalize L.getD j 0 = N at *
                clear hdr hmemN
                have hnot : N ∉ L.drop (j + 1) := (List.nodup_cons.1 hnd).1
                obtain ⟨q1, hq1⟩ : ∃ q1, Hid (q.evict 0 N = q1) := ⟨_, rfl⟩
                obtain ⟨q2, hq2⟩ : ∃ q2, Hid (q1.evict 0 N = q2) := ⟨_, rfl⟩
                obtain ⟨q3, hq3⟩ : ∃ q3, Hid (q2.clear N = q3) := ⟨_, rfl⟩
                obtain ⟨q4, hq4⟩ : ∃ q4, Hid (q3.clear N = q4) := ⟨_, rfl⟩
                have hI1 := hI.evict hN0 hNs
                rw [hq1.out] at hI1
                have hI2 := hI1.evict_no hN0 hNs hnot
                rw [hq2.out] at hI2
                have hI3 := hI2.clear hN0 hNs hnot
                rw [hq3.out] at hI3
                have hI4 := hI3.clear hN0 hNs hnot
                rw [hq4.out] at hI4
                have f1 := hI.near0 hN0 hNs
                rw [decide_eq_true (by simp)] at f1
                have f2 := hI1.near0 hN0 hNs
                rw [decide_eq_false hnot] at f2
                have f3 := hI2.near0 hN0 hNs
                rw [decide_eq_false hnot] at f3
                have ok2' : SOK 8 4 q2.Sh := by rw [← hq2.out, CQ.evict_Sh, ← hq1.out, CQ.evict_Sh]; exact ok2
                have f4 := hI2.cleared hN0 hNs hnot
                have f5 := hI2.cleared2 hN0 hNs hnot ok2'
                rw [hq3.out] at f5
                have hse := seen_tags ok2' (by omega) (by omega) N hN0
                generalize q2.Sh.has 8 N = fb at f4 hse
                clear hI hI1 hI2 hI3 hnd ok1 ok2 ok2' hnot
                go_upto_region 47 with (first
                  | (go_at_call 17; refine (cevict_any hC _ _ (by omega)).mono ?_; rintro e w3 ⟨hx, hC3, t3⟩; subst hx; replace hC := hC3; clear hC3; replace hO := hO.touch t3 (fun k h1 _ h2 => by omega); replace hz := Nat.le_trans hz t3.size; replace hT := hT.transNew t3 (fun i h e => by omega); first | rw [hq1.out] at hC | rw [hq2.out] at hC)
                  | (go_at_call 15; refine (cnear_t hC _ _ (by omega)).mono ?_; rintro e w4 ⟨rfl, t4⟩; replace hO := hO.touch t4 (fun _ _ _ e => e); replace hC := hC.touch t4 (fun _ _ _ e => e); replace hz := Nat.le_trans hz t4.size; replace hT := hT.trans t4))
                go_wp2_with (go_at_call 12; refine (cshared_any hC).mono ?_; rintro e w7 ⟨cS, capS, rfl, gS, rS, t7, _, _⟩; replace hO := hO.touch t7 (fun _ _ _ e => e); replace hC := hC.touch t7 (fun _ _ _ e => e); replace hz := Nat.le_trans hz t7.size; replace hT := hT.trans t7)
                have hrS : Hid (rowHas w7 cS 3 32 (fun j => .int .i64 (tg q2.Sh 4 j))) := rS
                clear rS
                go_loop [21, 158] (fun v i => ∃ j : Nat, j ≤ 32 ∧ i = .int .i64 j ∧ v = .bool (seen (tg q2.Sh 4) N j)) (fun _ i => 32 - (intOf i).toNat)
                case atStart => exact ⟨0, by omega, rfl, rfl⟩
                case round =>
                  obtain ⟨m, hm32, rfl, rfl⟩ := hrel
                  by_cases hj32 : m < 32
                  · have m1 : (m : Int) < 32 := by omega
                    have cm := hrS.out.cell (i := m) hj32
                    have hst : Hid (seen (tg q2.Sh 4) N (m + 1) = (seen (tg q2.Sh 4) N m || tg q2.Sh 4 m == N)) := rfl
                    generalize tg q2.Sh 4 m = y at cm hst
                    cases hsj : seen (tg q2.Sh 4) N m
                    · go_wp2
                      go_round
                      case rel => exact ⟨m + 1, by omega, by go_num, by rw [hst.out, hsj]; rfl⟩
                      case measure => simp [intOf]; omega
                    · go_wp2
                      go_round
                      case rel => exact ⟨m + 1, by omega, by go_num, by rw [hst.out, hsj]; rfl⟩
                      case measure => simp [intOf]; omega
                  · have hm2 : m = 32 := by omega
                    subst hm2
                    have hse' : seen (tg q2.Sh 4) N 32 = fb := hse
                    go_wp2_with (go_at_call 16; refine (cclear_any hC _ (by omega)).mono ?_; rintro e w8 ⟨hx, hC8, t8⟩; subst hx; replace hC := hC8; clear hC8; replace hO := hO.touch t8 (fun k h1 _ h2 => by omega); replace hz := Nat.le_trans hz t8.size; replace hT := hT.transNew t8 (fun i h e => by omega); first | rw [hq3.out] at hC | rw [hq4.out] at hC)
                    go_roundg (L.length - 1 - j)
                    case measure => omega
                    case rel => exact ⟨j + 1, by omega, by go_num, _, hC, hI4, hO, hT, hz⟩
              · have hjn : j = L.length := by omega
                subst hjn
                have n := hI.n
                have e1 : q.hasC 2 = false := by rw [CQ.hasC_no, n]; omega
                have e2 : q.may 2 1 = false := by simp [CQ.may, e1]
                have e3 : Hid (q.touch 2 1 = q) := show _ = _ by simp [CQ.touch, e2]
                have e4 : q.may 0 (-1) = false := by simp [CQ.may]
                have e5 : Hid (q.touch 0 (-1) = q) := show _ = _ by simp [CQ.touch, e4]
                have e6 : q.near (-1) 1 = false := by simp [CQ.near, CQ.may, CQ.hasC]
                go_wp2_with (first
                  | (go_at_call 11; refine (ctags_no hC _ e1).mono ?_; rintro e wq ⟨rfl, rfl⟩)
                  | (go_at_call 10; refine (ctouch_any hC _ _ (by omega)).mono ?_; rintro e w8 ⟨hx, hC8, t8⟩; subst hx; replace hC := hC8; clear hC8; replace hz := Nat.le_trans hz t8.size; replace hT := hT.transNew t8 (fun i h e => by omega); first | rw [e3.out] at hC | rw [e5.out] at hC)
                  | (go_at_call 15; refine (cnear_t hC _ _ (by omega)).mono ?_; rintro e w9 ⟨rfl, t9⟩; replace hC := hC.touch t9 (fun _ _ _ e => e); replace hz := Nat.le_trans hz t9.size; replace hT := hT.trans t9)
                  | (go_at_call 18; refine (wakes4_any _).mono ?_; rintro e w10 ⟨rfl, t10⟩; replace hT := hT.trans t10))
                go_ret
                exact ⟨rfl, hT.below (Nat.le_refl _) (fun _ e => e.elim)⟩
end Go.Proofs.Ytjfdjlinjghddaa
