/-
  The walk of CacheClears.
-/
import Derived.Test.YtjfdjlinjghddaaCacheWaysW
import Derived.Deep.RegionHeld3
namespace Go.Proofs.Ytjfdjlinjghddaa
open Go.ChangeShapes Go.WideShapes Go.ChangeAt Go.RowKit

/-- Of the first m of a row, those of which p holds. -/
def fl (f : Nat → Int) (p : Int → Bool) : Nat → List Int
  | 0 => []
  | m + 1 => fl f p m ++ if p (f m) = true then [f m] else []
theorem fl_len (f : Nat → Int) (p : Int → Bool) : ∀ m, (fl f p m).length ≤ m
  | 0 => Nat.le_refl _
  | m + 1 => by
    have := fl_len f p m
    unfold fl; split <;> simp <;> omega
theorem fl_in (S : Sets) (V : Nat) (p : Int → Bool) (hp : p (-1) = false) (k : Nat) (hl : (S k).length ≤ V) (hV : 1 ≤ V) : ∀ j, j ≤ V → fl (tg S V) p (k * V + j) = fl (tg S V) p (k * V) ++ ((S k).take j).filter p
  | 0, _ => by simp
  | j + 1, hj => by
    obtain ⟨e1, e2⟩ := kV_in (V := V) (k := k) (i := k * V + j) (by omega) (by omega) (by omega)
    have et : tg S V (k * V + j) = wy (S k) j := by unfold tg; rw [e1, e2, Nat.add_sub_cancel_left]
    show fl (tg S V) p (k * V + j) ++ (if p (tg S V (k * V + j)) = true then [tg S V (k * V + j)] else []) = _
    rw [fl_in S V p hp k hl hV j (by omega), et, List.append_assoc]
    congr 1
    by_cases hjl : j < (S k).length
    · have ew : wy (S k) j = (S k)[j] := by unfold wy; rw [List.getElem?_eq_getElem hjl]; rfl
      rw [ew, ← List.take_append_getElem hjl, List.filter_append]
      congr 1
      by_cases hpx : p (S k)[j] = true
      · rw [if_pos hpx]; simp [hpx]
      · rw [if_neg hpx]; simp [hpx]
    · have ew : wy (S k) j = -1 := by unfold wy; rw [List.getElem?_eq_none (by omega)]; rfl
      rw [ew, hp, if_neg (by simp), List.append_nil, List.take_of_length_le (by omega), List.take_of_length_le (by omega)]
theorem fl_set (S : Sets) (V : Nat) (p : Int → Bool) (hp : p (-1) = false) (k : Nat) (hl : (S k).length ≤ V) (hV : 1 ≤ V) : fl (tg S V) p ((k + 1) * V) = fl (tg S V) p (k * V) ++ (S k).filter p := by
  have := fl_in S V p hp k hl hV V (Nat.le_refl _)
  rw [List.take_of_length_le hl] at this
  rw [Nat.add_mul, Nat.one_mul]; exact this

/-- A line. -/
def pK (y : Int) : Bool := decide (0 ≤ y)
/-- .. but x. -/
def pB (x y : Int) : Bool := decide (0 ≤ y) && !(y == x)
theorem fl_cut {K V : Nat} {S : Sets} (h : SOK K V S) (hK : 1 ≤ K) (hV : 1 ≤ V) (x : Int) : ∀ k, fl (tg (S.cut K x) V) pK (k * V) = fl (tg S V) (pB x) (k * V)
  | 0 => by simp [fl]
  | k + 1 => by
    rw [fl_set _ _ pK (by decide) k ((h.cut x).len k) hV, fl_set _ _ (pB x) (by simp [pB]) k (h.len k) hV, fl_cut h hK hV x k]
    congr 1
    unfold Sets.cut
    by_cases e : k = (x % (K : Int)).toNat
    · rw [if_pos e, (h.nd k).erase_eq_filter, List.filter_filter]
      rfl
    · rw [if_neg e]
      refine List.filter_congr fun y hy => ?_
      have hym := h.mod k y hy
      have hne : (y == x) = false := by
        rw [beq_eq_false_iff_ne]
        intro e2
        subst e2
        exact e (by rw [hym, Int.toNat_natCast])
      simp [pK, pB, hne]

/-- The three rows: of both CPUs, and what is shared. -/
def rowT (q : CQ) (i : Nat) : Nat → Int := if i = 0 then tg (q.F 0) 2 else if i = 1 then tg (q.F 1) 2 else tg q.Sh 4
def rowN (i : Nat) : Nat := if i = 0 then 8 else if i = 1 then 8 else 32
def rowHasT (q : CQ) (x : Int) (i : Nat) : Bool := if i = 0 then (q.F 0).has 4 x else if i = 1 then (q.F 1).has 4 x else q.Sh.has 8 x
theorem rowT_seen {q : CQ} (ok1 : ∀ i, SOK 4 2 (q.F i)) (ok2 : SOK 8 4 q.Sh) (x : Int) (hx : 0 ≤ x) (i : Nat) : seen (rowT q i) x (rowN i) = rowHasT q x i := by
  unfold rowT rowN rowHasT
  by_cases h0 : i = 0
  · subst h0; exact seen_tags (ok1 0) (by omega) (by omega) x hx
  · by_cases h1 : i = 1
    · subst h1; exact seen_tags (ok1 1) (by omega) (by omega) x hx
    · rw [if_neg h0, if_neg h1, if_neg h0, if_neg h1, if_neg h0, if_neg h1]
      exact seen_tags ok2 (by omega) (by omega) x hx
theorem rowT_cut {q : CQ} (ok1 : ∀ i, SOK 4 2 (q.F i)) (ok2 : SOK 8 4 q.Sh) (x : Int) (hx : 0 ≤ x) (hn : q.n = 2) (i : Nat) : fl (rowT (q.clear x) i) pK (rowN i) = fl (rowT q i) (pB x) (rowN i) := by
  have e0 : (q.clear x).F 0 = (q.F 0).cut 4 x := by simp [CQ.clear, hx, hn]
  have e1 : (q.clear x).F 1 = (q.F 1).cut 4 x := by simp [CQ.clear, hx, hn]
  have e2 : (q.clear x).Sh = q.Sh.cut 8 x := by simp [CQ.clear, hx]
  unfold rowT rowN
  rw [e0, e1, e2]
  by_cases h0 : i = 0
  · subst h0; exact fl_cut (ok1 0) (by omega) (by omega) x 4
  · by_cases h1 : i = 1
    · subst h1; exact fl_cut (ok1 1) (by omega) (by omega) x 4
    · rw [if_neg h0, if_neg h1, if_neg h0, if_neg h1, if_neg h0, if_neg h1]
      exact fl_cut ok2 (by omega) (by omega) x 8
theorem rowN_b (i : Nat) : 8 ≤ rowN i ∧ rowN i ≤ 32 := by unfold rowN; split <;> (try split) <;> omega
/-- What is found in the first i. -/
def foundT (q : CQ) (x : Int) : Nat → Bool
  | 0 => false
  | i + 1 => foundT q x i || rowHasT q x i
theorem foundT_all (q : CQ) (x : Int) (hx : 0 ≤ x) (hn : q.n = 2) : foundT q x 3 = q.cleared x := by
  unfold CQ.cleared
  rw [hn]
  simp only [foundT, rowHasT, CQ.anyF, hx, decide_true, Bool.true_and, if_true, Nat.one_ne_zero, if_false, Bool.false_or]
  cases (q.F 0).has 4 x <;> cases (q.F 1).has 4 x <;> cases q.Sh.has 8 x <;> rfl

/-- A value that tells a list which lies behind block lo. -/
def LI (w : World) (lo : Nat) (v : Value) (l : List Int) : Prop := ∃ a cap, v = .slice a l.length cap ∧ (l.length = 0 ∨ ∃ b o, a = some ⟨b, o, none⟩ ∧ lo < b ∧ b < w.heap.size ∧ ∀ i, i < l.length → w.cell? ⟨b, o + i, none⟩ = some (.int .i64 (lget l i)))
theorem LI.touch {w w' : World} {lo : Nat} {v : Value} {l : List Int} {S : Nat → Prop} (h : LI w lo v l) (t : Touch S w w') (hs : ∀ k, lo < k → k < w.heap.size → ¬ S k) : LI w' lo v l := by
  obtain ⟨a, cap, h1, h2⟩ := h
  refine ⟨a, cap, h1, ?_⟩
  rcases h2 with h2 | ⟨b, o, e1, e0, e2, e3⟩
  · exact Or.inl h2
  · refine Or.inr ⟨b, o, e1, e0, Nat.lt_of_lt_of_le e2 t.size, fun i hi => ?_⟩
    rw [World.cell?_of_block (t.block b e2 (hs b e0 e2))]
    exact e3 i hi
theorem OwnL.li {w : World} {lo lo' cap : Nat} {a : Option Addr} {l : List Int} (h : OwnL w lo a cap l) (hl : lo' < lo) : LI w lo' (.slice a l.length cap) l := by
  refine ⟨a, cap, rfl, ?_⟩
  rcases h with ⟨_, _, rfl⟩ | ⟨g, o, m, f, h1, h2, h3, h4, h5, h6, h8⟩
  · exact Or.inl rfl
  · exact Or.inr ⟨g, o, h1, by omega, h5.lt, fun i hi => by rw [h5.cell (by omega), h8 i hi]; rfl⟩
theorem OwnL.ints {w : World} {lo cap : Nat} {a : Option Addr} {l : List Int} (h : OwnL w lo a cap l) : Ints w a l.length (lget l) := by
  rcases h.cells with rfl | ⟨b, o, h1, h2, h3⟩
  · exact Or.inl rfl
  · exact Or.inr ⟨b, o, h1, h2, h3⟩

/-- Three rows T lie behind a list of headers; of the lists that are wanted the first i are G. -/
structure CL (w wr : World) (b hi : Nat) (q : CQ) (Wb HB : Nat) (cT capT : Nat → Nat) (T : Nat → Nat → Int) (G : Nat → List Int) (i : Nat) (Wv : Nat → Value) : Prop where
  c : CAt wr b w.heap.size hi q
  t : Touch Nil w wr
  lo : w.heap.size ≤ hi
  wb : hi ≤ Wb
  hb : Wb < HB
  ct : ∀ j, j < 3 → Wb < cT j
  hdr : rowHas wr HB 24 3 (fun j => .slice (some ⟨cT j, 0, none⟩) (rowN j) (capT j))
  rows : ∀ j, j < 3 → rowHas wr (cT j) 3 (rowN j) (fun m => .int .i64 (T j m))
  want : rowHas wr Wb 40 3 Wv
  done : ∀ j, j < i → LI wr Wb (Wv j) (G j)
  rest : ∀ j, i ≤ j → Wv j = .slice none 0 0

namespace CL
variable {w wr wz : World} {b hi : Nat} {q : CQ} {Wb HB : Nat} {cT capT : Nat → Nat} {T : Nat → Nat → Int} {G : Nat → List Int} {i : Nat} {Wv : Nat → Value}
/-- Behind what turns new blocks alone. -/
theorem touch {S : Nat → Prop} (h : CL w wr b hi q Wb HB cT capT T G i Wv) (t : Touch S wr wz) (hs : ∀ k, k < wr.heap.size → ¬ S k) : CL w wz b hi q Wb HB cT capT T G i Wv :=
  { h with
    c := h.c.touch (t.mono (S' := fun k => wr.heap.size ≤ k) (fun k hk e => (hs k hk e).elim)) (fun k _ h2 e => by have := h.want.lt; have := h.wb; omega)
    t := h.t.transNew t (fun k hk e => hs k (Nat.lt_of_lt_of_le hk h.t.size) e)
    hdr := h.hdr.touch t (hs _ h.hdr.lt)
    rows := fun j hj => (h.rows j hj).touch t (hs _ (h.rows j hj).lt)
    want := h.want.touch t (hs _ h.want.lt)
    done := fun j hj => (h.done j hj).touch t (fun k _ hk => hs k hk) }
/-- One more list is there. -/
theorem step (h : CL w wr b hi q Wb HB cT capT T G i Wv) (t : Touch (fun k => k = Wb ∨ wr.heap.size ≤ k) wr wz) {v : Value} (hv : rowHas wz Wb 40 3 (fun j => if j = i then v else Wv j)) (hl : LI wz Wb v (G i)) : CL w wz b hi q Wb HB cT capT T G (i + 1) (fun j => if j = i then v else Wv j) := by
  have hwb := h.wb
  have hlo := h.lo
  refine { h with c := h.c.touch t (fun k _ h2 e => by have := h.want.lt; omega), t := h.t.transNew t (fun k hk e => by have := h.t.size; omega), hdr := h.hdr.touch t (fun e => by have := h.hdr.lt; have := h.hb; omega), rows := fun j hj => (h.rows j hj).touch t (fun e => by have := (h.rows j hj).lt; have := h.ct j hj; omega), want := hv, done := fun j hj => ?_, rest := fun j hj => ?_ }
  · show LI wz Wb (if j = i then v else Wv j) (G j)
    by_cases e : j = i
    · rw [if_pos e, e]; exact hl
    · rw [if_neg e]; exact (h.done j (by omega)).touch t (fun k h1 h2 e => by omega)
  · show (if j = i then v else Wv j) = _
    rw [if_neg (by omega)]; exact h.rest j (by omega)
/-- Behind a call that turns the caches alone. -/
theorem turn {q' : CQ} (h : CL w wr b hi q Wb HB cT capT T G i Wv) (t : Touch (fun y => w.heap.size ≤ y ∧ y < hi) wr wz) (c : CAt wz b w.heap.size hi q') : CL w wz b hi q' Wb HB cT capT T G i Wv := by
  have hwb := h.wb
  exact { h with
    c := c
    t := h.t.transNew t (fun k hk e => by omega)
    hdr := h.hdr.touch t (fun e => by have := h.hb; omega)
    rows := fun j hj => (h.rows j hj).touch t (fun e => by have := h.ct j hj; omega)
    want := h.want.touch t (fun e => by omega)
    done := fun j hj => (h.done j hj).touch t (fun k h1 _ e => by omega) }
end CL
theorem near_clear {q : CQ} (ok1 : ∀ i, SOK 4 2 (q.F i)) (hn : q.n = 2) (x : Int) (u : Nat) (hu : u < 2) : (q.clear x).near (u : Int) x = false := by
  unfold CQ.near
  by_cases hx : 0 ≤ x
  · have e : (q.clear x).F u = (q.F u).cut 4 x := by simp [CQ.clear, hx, hn, hu]
    rw [Int.toNat_natCast, e, has_cut (ok1 u), Bool.and_false]
  · have : (q.clear x).may (u : Int) x = false := by simp [CQ.may, hx]
    rw [this]; rfl
theorem cleared_clear {q : CQ} (ok1 : ∀ i, SOK 4 2 (q.F i)) (ok2 : SOK 8 4 q.Sh) (hn : q.n = 2) (x : Int) (hx : 0 ≤ x) : (q.clear x).cleared x = false := by
  have e0 : (q.clear x).F 0 = (q.F 0).cut 4 x := by simp [CQ.clear, hx, hn]
  have e1 : (q.clear x).F 1 = (q.F 1).cut 4 x := by simp [CQ.clear, hx, hn]
  have e2 : (q.clear x).Sh = q.Sh.cut 8 x := by simp [CQ.clear, hx]
  unfold CQ.cleared
  rw [CQ.clear_n, hn]
  simp only [CQ.anyF, e0, e1, e2, has_cut (ok1 0), has_cut (ok1 1), has_cut ok2, Bool.or_false, Bool.and_false]

set_option maxRecDepth 10000 in
set_option maxHeartbeats 8000000 in
theorem cacheClears_walk (a0 : Option Addr) (len0 cap0 : Nat) (z0 : List Int) (a1 : Int) (w : World) (r0 : Row .i64 w a0 len0 cap0 z0) :
    Calls Try.prog 8 #[.slice a0 len0 cap0, .int .i64 a1] w fun e w' => e = .returned (.bool true) ∧ Below w.heap.size w w' := by
  obtain ⟨hm0, p0⟩ := r0.plain
  unfold maxLen at hm0
  clear r0
  have q0 := Int.emod_nonneg a1 (b := 24) (by omega)
  have q1 := Int.emod_lt_of_pos a1 (b := 24) (by omega)
  obtain ⟨x, hxa⟩ : ∃ x, a1 % 24 = x := ⟨_, rfl⟩
  rw [hxa] at q0 q1
  go_enter Try.func8, Try.ntmps8
  go_wp2_with (go_at_call 9; refine (cnew_any _ _).mono ?_; rintro e w1 ⟨rfl, hC, hT⟩; rw [many2] at hC; have hlo := hT.size; generalize w.heap.size + 4 = b at hC; obtain ⟨hi, hhi⟩ : ∃ hi, w1.heap.size = hi := ⟨_, rfl⟩; rw [hhi] at hC hlo)
  go_loopg [6] 30 (fun g i wr => ∃ k : Nat, g + k = 30 ∧ i = .int .i64 k ∧ ∃ q, CAt wr b w.heap.size hi q ∧ q.n = 2 ∧ Touch Nil w wr ∧ hi ≤ wr.heap.size)
  case atStart => exact ⟨0, by omega, rfl, _, hC, rfl, hT, by omega⟩
  case round =>
    clear hC hT hhi
    obtain ⟨k, hgk, rfl, q, hC, hn, hT, hz⟩ := hrel
    by_cases hgo : k < len0 ∧ k < 30
    · obtain ⟨hg1, hg2⟩ := hgo
      rcases p0 with p0 | ⟨b1, o1, rfl, hb1, hc1⟩
      · omega
      have c0 := Plain.cell hc1 hb1 (hT.below (Nat.le_refl _) (fun _ e => e.elim)) k (by omega)
      have f0 := bounds_i64 (hc1 k (by omega)).2
      obtain ⟨y0, hy⟩ : ∃ y, z0.getD k 0 = y := ⟨_, rfl⟩
      rw [hy] at c0 f0
      have k1 : (k : Int) < len0 := by omega
      have k2 : (k : Int) < 30 := by omega
      have v1 : IntKind.i64.wrap (y0.tdiv 2) = y0.tdiv 2 := by
        have := tdiv_two y0 2 (by omega)
        rw [IntKind.wrap_i64]; omega
      have x1 := Int.emod_nonneg (y0.tdiv 2) (b := 24) (by omega)
      have x2 := Int.emod_lt_of_pos (y0.tdiv 2) (b := 24) (by omega)
      have hto := ctouch_any (hC.drewN 1) (y0 % 2) (y0.tdiv 2 % 24) (by omega)
      have hb2 : b1 < wr.heap.size := Nat.lt_of_lt_of_le hb1 hT.size
      go_wp2
      go_region_held3 (fun wx => wx.cell? ⟨b1, o1 + k, none⟩ = some (.int .i64 y0)) (first | exact c0 | exact c5)
        (first
          | (go_at_call 14; refine (within_any _ _ _ (by omega) (by omega)).mono ?_; rintro e wq ⟨rfl, rfl⟩)
          | (go_at_call 10; refine hto.mono ?_; rintro e w3 ⟨hx, hC3, t3⟩; subst hx; have t3' : Touch (fun y => w.heap.size ≤ y ∧ y < hi) wr w3 := ((Touch.refl _ wr).drew).trans t3; have c5 := (World.cell?_of_block (a := ⟨b1, o1 + k, none⟩) (t3'.block b1 hb2 (fun e => by omega))).trans c0))
      all_goals
        go_wp2
        go_roundg (29 - k)
        case measure => omega
        case rel => exact ⟨k + 1, by omega, by go_num, _, hC3, by rw [CQ.touch_n]; exact hn, hT.transNew t3' (fun i h e => by omega), Nat.le_trans hz t3'.size⟩
    · clear p0
      obtain ⟨ok1, ok2⟩ := hC.oks
      have h1 : q.hasC 0 = true := by rw [CQ.hasC_iff]; omega
      have h2 : q.hasC 1 = true := by rw [CQ.hasC_iff]; omega
      by_cases hl : k < len0
      have k1 : (k : Int) < len0 := by omega
      have k2 : decide ((k : Int) < 30) = false := by simp; omega
      go_upto_region 8 with fail
      rotate_left
      have k1 : decide ((k : Int) < len0) = false := by simp; omega
      go_upto_region 8 with fail
      all_goals
        clear hgo hl k1
        try clear k2
        go_wp2_with (go_at_call 14; refine (within_any _ _ _ (by omega) (by omega)).mono ?_; rintro e wq ⟨rfl, rfl⟩)
        have hW0 : rowHas (wr.alloc (.cells #[.slice none 0 0, .slice none 0 0, .slice none 0 0] 40)) wr.heap.size 40 3 (fun _ => .slice none 0 0) := rowHas_alloc wr _ _ 3 _ (by simp) (fun i hi => by
          have : i = 0 ∨ i = 1 ∨ i = 2 := by omega
          rcases this with rfl | rfl | rfl <;> rfl)
        have t0 : Touch Nil wr (wr.alloc (.cells #[.slice none 0 0, .slice none 0 0, .slice none 0 0] 40)) := (Touch.refl Nil wr).alloc _
        replace hC := hC.touch t0 (fun _ _ _ e => e)
        replace hT := hT.trans t0
        have hz0 : wr.heap.size < (wr.alloc (.cells #[.slice none 0 0, .slice none 0 0, .slice none 0 0] 40)).heap.size := by simp
        clear t0
        generalize wr.alloc (.cells #[.slice none 0 0, .slice none 0 0, .slice none 0 0] 40) = w0 at *
        generalize wr.heap.size = Wb at *
        go_wp2_with (first
          | (go_at_call_has 11 (Value.int .i64 0); refine (ctags_yes hC 0 h1).mono ?_; rintro e w2 ⟨cA, capA, rfl, gA, rA, tA, _, _⟩; replace hC := hC.touch tA (fun _ _ _ e => e); replace hT := hT.trans tA; replace hW0 := hW0.touch tA id; have zA := tA.size)
          | (go_at_call_has 11 (Value.int .i64 1); refine (ctags_yes hC 1 h2).mono ?_; rintro e w3 ⟨cB, capB, rfl, gB, rB, tB, _, _⟩; replace hC := hC.touch tB (fun _ _ _ e => e); replace hT := hT.trans tB; replace hW0 := hW0.touch tB id; replace rA := rA.touch tB id; have zB := tB.size)
          | (go_at_call 12; refine (cshared_any hC).mono ?_; rintro e w4 ⟨cS, capS, rfl, gS, rS, tS, _, _⟩; replace hC := hC.touch tS (fun _ _ _ e => e); replace hT := hT.trans tS; replace hW0 := hW0.touch tS id; replace rA := rA.touch tS id; replace rB := rB.touch tS id; have zS := tS.size))
        have hCL : CL w (w4.alloc (.cells #[.slice (some ⟨cA, 0, none⟩) 8 capA, .slice (some ⟨cB, 0, none⟩) 8 capB, .slice (some ⟨cS, 0, none⟩) 32 capS] 24)) b hi q Wb w4.heap.size (fun j => if j = 0 then cA else if j = 1 then cB else cS) (fun j => if j = 0 then capA else if j = 1 then capB else capS) (rowT q) (fun j => fl (rowT q j) (pB x) (rowN j)) 0 (fun _ => .slice none 0 0) :=
          ⟨hC.touch ((Touch.refl Nil w4).alloc _) (fun _ _ _ e => e), hT.alloc _, hlo, hz, by omega, fun j hj => by
              show Wb < (if j = 0 then cA else if j = 1 then cB else cS)
              rcases (show j = 0 ∨ j = 1 ∨ j = 2 by omega) with rfl | rfl | rfl
              · show Wb < cA; omega
              · show Wb < cB; omega
              · show Wb < cS; omega,
            rowHas_alloc w4 _ _ 3 _ (by simp) (fun j hj => by
              rcases (show j = 0 ∨ j = 1 ∨ j = 2 by omega) with rfl | rfl | rfl <;> rfl),
            fun j hj => by
              rcases (show j = 0 ∨ j = 1 ∨ j = 2 by omega) with rfl | rfl | rfl
              · exact rA.alloc _
              · exact rB.alloc _
              · exact rS.alloc _,
            hW0.alloc _, fun j hj => by omega, fun j _ => rfl⟩
        clear hC hT hz hW0 hz0 rA rB rS gA gB gS tA tB tS zA zB zS
        generalize w4.alloc (.cells #[.slice (some ⟨cA, 0, none⟩) 8 capA, .slice (some ⟨cB, 0, none⟩) 8 capB, .slice (some ⟨cS, 0, none⟩) 32 capS] 24) = w5 at *
        generalize (fun j : Nat => if j = 0 then cA else if j = 1 then cB else cS) = cT at hCL
        generalize (fun j : Nat => if j = 0 then capA else if j = 1 then capB else capS) = capT at hCL
        generalize w4.heap.size = HB at *
        go_loopg [8, 54] 3 (fun g fv v wr => ∃ i : Nat, g + i = 3 ∧ v = .int .i64 i ∧ fv = .bool (foundT q x i) ∧ ∃ Wv, CL w wr b hi q Wb HB cT capT (rowT q) (fun j => fl (rowT q j) (pB x) (rowN j)) i Wv)
        case atStart => exact ⟨0, by omega, rfl, rfl, _, hCL⟩
        case round =>
          clear hCL
          obtain ⟨i, hgi, rfl, rfl, Wv, hL⟩ := hrel
          generalize wr = ws at *
          by_cases hi3 : i < 3
          · have i1 : (i : Int) < 3 := by omega
            have ch := hL.hdr.cell (i := i) hi3
            obtain ⟨n1, n2⟩ := rowN_b i
            have hse := rowT_seen ok1 ok2 x q0 i
            have hfo : Hid (foundT q x (i + 1) = (foundT q x i || rowHasT q x i)) := rfl
            rw [← hse] at hfo
            have hrow : Hid (rowHas ws (cT i) 3 (rowN i) (fun m => .int .i64 (rowT q i m))) := hL.rows i hi3
            have hwant : Hid (rowHas ws Wb 40 3 Wv) := hL.want
            have hWi := hL.rest i (Nat.le_refl _)
            have hwlt := hL.want.lt
            have hcti := hL.ct i hi3
            have hclt := (hL.rows i hi3).lt
            obtain ⟨base, hbase⟩ : ∃ base, ws.heap.size = base := ⟨_, rfl⟩
            generalize hn : rowN i = n at *
            generalize hf : rowT q i = f at *
            go_wp2
            go_loopw [8, 61] (fun fv v wz => ∃ m : Nat, m ≤ n ∧ v = .int .i64 m ∧ fv = .bool (foundT q x i || seen f x m) ∧ ∃ a cap, OwnL wz base a cap (fl f (pB x) m) ∧ rowHas wz Wb 40 3 (fun j => if j = i then .slice a (fl f (pB x) m).length cap else Wv j) ∧ Touch (fun k => k = Wb ∨ base ≤ k) ws wz) (fun _ v _ => n - (intOf v).toNat)
            case atStart =>
              refine ⟨0, by omega, rfl, by simp [seen], none, 0, OwnL.nil _ _, hwant.out.congr fun j _ => ?_, Touch.refl _ _⟩
              by_cases e : j = i
              · rw [if_pos e, e]; exact hWi
              · rw [if_neg e]
            case round =>
              obtain ⟨m, hm, rfl, rfl, a, cap, hO, hwr, ht⟩ := hrel
              by_cases hmn : m < n
              · have m1 : (m : Int) < n := by omega
                have cm := (hrow.out.touch ht (fun e => by omega)).cell (i := m) hmn
                have hst : Hid (seen f x (m + 1) = (seen f x m || f m == x)) := rfl
                have hfl : Hid (fl f (pB x) (m + 1) = fl f (pB x) m ++ if pB x (f m) = true then [f m] else []) := rfl
                have hlen := fl_len f (pB x) m
                generalize f m = y at cm hst hfl
                obtain ⟨fv, hfv⟩ : ∃ fv, (foundT q x i || seen f x m) = fv := ⟨_, rfl⟩
                rw [hfv]
                have hfv2 : Hid ((foundT q x i || seen f x (m + 1)) = (fv || y == x)) := by
                  show _ = _
                  rw [hst.out, ← Bool.or_assoc, hfv]
                clear hst
                by_cases hyx : y = x
                · subst hyx
                  have hfl' : fl f (pB y) (m + 1) = fl f (pB y) m := by rw [hfl.out, if_neg (by simp [pB]), List.append_nil]
                  have hfv3 : Hid ((foundT q y i || seen f y (m + 1)) = true) := by show _ = _; rw [hfv2.out]; simp
                  clear hfl hfv2 hfv
                  cases fv
                  · go_wp2
                    go_roundw
                    case rel => exact ⟨m + 1, by omega, by go_num, by rw [hfv3.out], a, cap, by rw [hfl']; exact hO, by rw [hfl']; exact hwr, ht⟩
                    case measure => simp [intOf]; omega
                  · go_wp2
                    go_roundw
                    case rel => exact ⟨m + 1, by omega, by go_num, by rw [hfv3.out], a, cap, by rw [hfl']; exact hO, by rw [hfl']; exact hwr, ht⟩
                    case measure => simp [intOf]; omega
                · have hyx1 : (y == x) = false := by simpa using hyx
                  have hyx2 : (y != x) = true := by simpa using hyx
                  have hfv3 : Hid ((foundT q x i || seen f x (m + 1)) = fv) := by show _ = _; rw [hfv2.out, hyx1, Bool.or_false]
                  clear hfv2 hfv
                  by_cases hy0 : 0 ≤ y
                  · have hfl' : fl f (pB x) (m + 1) = fl f (pB x) m ++ [y] := by rw [hfl.out, if_pos (by simp [pB, hy0, hyx])]
                    clear hfl
                    have cw : wr.cell? ⟨Wb, i, none⟩ = some (.slice a (fl f (pB x) m).length cap) := by
                      have := hwr.cell hi3
                      simpa using this
                    generalize fl f (pB x) m = l at *
                    have hal : OwnL (wr.alloc (.cells #[.int .i64 y] 3)) base a cap l := hO.touch ((Touch.refl Nil wr).alloc _) (fun _ _ _ e => e)
                    have hbz : base ≤ wr.heap.size := by have := ht.size; omega
                    obtain ⟨g, o, cap', w', hr, hO', t'⟩ := hal.append (by simp; omega) (by omega) y wr.heap.size (by simp)
                    have hwr' := (hwr.alloc (.cells #[.int .i64 y] 3)).touch t' (by show ¬ base ≤ Wb; omega)
                    have cw' := hwr'.cell hi3
                    have fz' := hwr'.frozen i
                    have hwn := hwr'.set i (.slice (some ⟨g, o, none⟩) (l.length + 1) cap')
                    have tn : Touch (fun k => k = Wb ∨ base ≤ k) ws (w'.setCell ⟨Wb, i, none⟩ (.slice (some ⟨g, o, none⟩) (l.length + 1) cap')) := ((ht.alloc _).trans (t'.mono fun _ _ e => Or.inr e)).setCell (p := ⟨Wb, i, none⟩) (Or.inl rfl) _
                    have hOn : OwnL (w'.setCell ⟨Wb, i, none⟩ (.slice (some ⟨g, o, none⟩) (l.length + 1) cap')) base (some ⟨g, o, none⟩) cap' (l ++ [y]) := hO'.touch ((Touch.refl (· = Wb) w').setCell (p := ⟨Wb, i, none⟩) rfl _) (fun k h1 _ h2 => by have : k = Wb := h2; omega)
                    have hr' : Hid ((Builtin.append_ #[24, 24] 24 #[.slice a l.length cap, .slice (some ⟨wr.heap.size, 0, none⟩) 1 1]).run Try.prog (wr.alloc (.cells #[.int .i64 y] 3)) = .ok (.slice (some ⟨g, o, none⟩) (l.length + 1) cap') w') := hr
                    clear hr hal hwr'
                    cases fv
                    · go_wp2_with (refine Lib.wpList_append_run_sl _ rfl _ _ 24 rfl _ _ rfl rfl hr'.out ?_)
                      go_roundw
                      case rel =>
                        refine ⟨m + 1, by omega, by go_num, by rw [hfv3.out], some ⟨g, o, none⟩, cap', by rw [hfl']; exact hOn, ?_, tn⟩
                        rw [hfl', List.length_append]
                        refine hwn.congr fun j _ => ?_
                        by_cases e : j = i
                        · rw [if_pos e, if_pos e]; rfl
                        · rw [if_neg e, if_neg e, if_neg e]
                      case measure => simp [intOf]; omega
                    · go_wp2_with (refine Lib.wpList_append_run_sl _ rfl _ _ 24 rfl _ _ rfl rfl hr'.out ?_)
                      go_roundw
                      case rel =>
                        refine ⟨m + 1, by omega, by go_num, by rw [hfv3.out], some ⟨g, o, none⟩, cap', by rw [hfl']; exact hOn, ?_, tn⟩
                        rw [hfl', List.length_append]
                        refine hwn.congr fun j _ => ?_
                        by_cases e : j = i
                        · rw [if_pos e, if_pos e]; rfl
                        · rw [if_neg e, if_neg e, if_neg e]
                      case measure => simp [intOf]; omega
                  · have hfl' : fl f (pB x) (m + 1) = fl f (pB x) m := by rw [hfl.out, if_neg (by simp [pB, hy0]), List.append_nil]
                    have hy1 : decide (0 ≤ y) = false := by simpa using hy0
                    clear hfl
                    cases fv
                    · go_wp2
                      go_roundw
                      case rel => exact ⟨m + 1, by omega, by go_num, by rw [hfv3.out], a, cap, by rw [hfl']; exact hO, by rw [hfl']; exact hwr, ht⟩
                      case measure => simp [intOf]; omega
                    · go_wp2
                      go_roundw
                      case rel => exact ⟨m + 1, by omega, by go_num, by rw [hfv3.out], a, cap, by rw [hfl']; exact hO, by rw [hfl']; exact hwr, ht⟩
                      case measure => simp [intOf]; omega
              · have hmn2 : m = n := by omega
                subst hmn2
                rw [← hbase] at hO ht
                have hLn := hL.step ht hwr (by
                  show LI wr Wb _ (fl (rowT q i) (pB x) (rowN i))
                  rw [hf, hn]
                  exact hO.li (by omega))
                rw [← hfo.out]
                go_wp2
                go_roundg (2 - i)
                case measure => omega
                case rel => exact ⟨i + 1, by omega, by go_num, rfl, _, hLn⟩
          · have hi32 : i = 3 := by omega
            subst hi32
            rw [foundT_all q x q0 hn]
            have hcut := rowT_cut ok1 ok2 x q0 hn
            have f1 := near_clear ok1 hn x 0 (by omega)
            have f2 := near_clear ok1 hn x 1 (by omega)
            have f3 := cleared_clear ok1 ok2 hn x q0
            have hn' : (q.clear x).n = 2 := by rw [CQ.clear_n]; exact hn
            have hcl := cclear_any hL.c x (by omega)
            obtain ⟨cv, hcv⟩ : ∃ cv, q.cleared x = cv := ⟨_, rfl⟩
            rw [hcv] at hcl ⊢
            obtain ⟨q', hq'⟩ : ∃ q', Hid (q.clear x = q') := ⟨_, rfl⟩
            rw [hq'.out] at f1 f2 f3 hn' hcl
            have hcut' : Hid (∀ i, fl (rowT q' i) pK (rowN i) = fl (rowT q i) (pB x) (rowN i)) := by
              show ∀ i, _ = _
              rw [← hq'.out]; exact hcut
            have h1' : q'.hasC 0 = true := by rw [CQ.hasC_iff]; omega
            have h2' : q'.hasC 1 = true := by rw [CQ.hasC_iff]; omega
            have f1' : q'.near 0 x = false := f1
            have f2' : q'.near 1 x = false := f2
            clear f1 f2 hcut ok1 ok2 h1 h2 hn hcv
            go_upto_region 24 with (first
              | (go_at_call 16; refine hcl.mono ?_; rintro e w6 ⟨hx6, hC6, t6⟩; subst hx6; replace hL := hL.turn t6 hC6)
              | (go_at_call 15; refine (cnear_t hL.c _ _ (by omega)).mono ?_; rintro e w7 ⟨rfl, t7⟩; replace hL := hL.touch t7 (fun _ _ e => e)))
            go_wp2_with (first
              | (go_at_call_has 11 (Value.int .i64 0); refine (ctags_yes hL.c 0 h1').mono ?_; rintro e w8 ⟨cA', capA', rfl, gA, rA, tA, _, _⟩; replace gA := Nat.lt_of_lt_of_le hL.want.lt gA; replace hL := hL.touch tA (fun _ _ e => e))
              | (go_at_call_has 11 (Value.int .i64 1); refine (ctags_yes hL.c 1 h2').mono ?_; rintro e w9 ⟨cB', capB', rfl, gB, rB, tB, _, _⟩; replace gB := Nat.lt_of_lt_of_le hL.want.lt gB; replace hL := hL.touch tB (fun _ _ e => e); replace rA := rA.touch tB id)
              | (go_at_call 12; refine (cshared_any hL.c).mono ?_; rintro e w10 ⟨cS', capS', rfl, gS, rS, tS, _, _⟩; replace gS := Nat.lt_of_lt_of_le hL.want.lt gS; replace hL := hL.touch tS (fun _ _ e => e); replace rA := rA.touch tS id; replace rB := rB.touch tS id))
            have hLa := hL.touch ((Touch.refl Nil w10).alloc (.cells #[.slice (some ⟨cA', 0, none⟩) 8 capA', .slice (some ⟨cB', 0, none⟩) 8 capB', .slice (some ⟨cS', 0, none⟩) 32 capS'] 24)) (fun _ _ e => e)
            have hwlt := hL.want.lt
            have hCL : CL w (w10.alloc (.cells #[.slice (some ⟨cA', 0, none⟩) 8 capA', .slice (some ⟨cB', 0, none⟩) 8 capB', .slice (some ⟨cS', 0, none⟩) 32 capS'] 24)) b hi q' Wb w10.heap.size (fun j => if j = 0 then cA' else if j = 1 then cB' else cS') (fun j => if j = 0 then capA' else if j = 1 then capB' else capS') (rowT q') (fun j => fl (rowT q j) (pB x) (rowN j)) 3 Wv :=
              { hLa with
                hb := by omega
                ct := fun j hj => by
                  show Wb < (if j = 0 then cA' else if j = 1 then cB' else cS')
                  rcases (show j = 0 ∨ j = 1 ∨ j = 2 by omega) with rfl | rfl | rfl
                  · exact gA
                  · exact gB
                  · exact gS
                hdr := rowHas_alloc w10 _ _ 3 _ (by simp) (fun j hj => by
                  rcases (show j = 0 ∨ j = 1 ∨ j = 2 by omega) with rfl | rfl | rfl <;> rfl)
                rows := fun j hj => by
                  rcases (show j = 0 ∨ j = 1 ∨ j = 2 by omega) with rfl | rfl | rfl
                  · exact rA.alloc _
                  · exact rB.alloc _
                  · exact rS.alloc _ }
            clear hL hLa rA rB rS gA gB gS tA tB tS hwlt
            generalize w10.alloc (.cells #[.slice (some ⟨cA', 0, none⟩) 8 capA', .slice (some ⟨cB', 0, none⟩) 8 capB', .slice (some ⟨cS', 0, none⟩) 32 capS'] 24) = w11 at *
            generalize (fun j : Nat => if j = 0 then cA' else if j = 1 then cB' else cS') = cU at hCL
            generalize (fun j : Nat => if j = 0 then capA' else if j = 1 then capB' else capS') = capU at hCL
            generalize w10.heap.size = HC at *
            go_loopg [111] 3 (fun g v wr => ∃ i : Nat, g + i = 3 ∧ v = .int .i64 i ∧ CL w wr b hi q' Wb HC cU capU (rowT q') (fun j => fl (rowT q j) (pB x) (rowN j)) 3 Wv)
            case atStart => exact ⟨0, by omega, rfl, hCL⟩
            case round =>
              clear hCL
              obtain ⟨i, hgi, rfl, hL⟩ := hrel
              generalize wr = wu at *
              by_cases hi3 : i < 3
              · have i1 : (i : Int) < 3 := by omega
                have ch := hL.hdr.cell (i := i) hi3
                obtain ⟨n1, n2⟩ := rowN_b i
                have hrow : Hid (rowHas wu (cU i) 3 (rowN i) (fun m => .int .i64 (rowT q' i m))) := hL.rows i hi3
                have hdone := hL.done i hi3
                rw [← hcut'.out i] at hdone
                have hclt := (hL.rows i hi3).lt
                obtain ⟨base, hbase⟩ : ∃ base, wu.heap.size = base := ⟨_, rfl⟩
                generalize hnn : rowN i = n at *
                generalize hff : rowT q' i = f at *
                go_wp2
                go_loopw [15, 118] (fun hv v wz => ∃ m : Nat, m ≤ n ∧ v = .int .i64 m ∧ ∃ a cap, hv = .slice a (fl f pK m).length cap ∧ OwnL wz base a cap (fl f pK m) ∧ Touch (fun k => base ≤ k) wu wz) (fun _ v _ => n - (intOf v).toNat)
                case atStart => exact ⟨0, by omega, rfl, none, 0, rfl, OwnL.nil _ _, Touch.refl _ _⟩
                case round =>
                  obtain ⟨m, hm, rfl, a, cap, rfl, hO, ht⟩ := hrel
                  by_cases hmn : m < n
                  · have m1 : (m : Int) < n := by omega
                    have cm := (hrow.out.touch ht (fun e => by omega)).cell (i := m) hmn
                    have hfl : Hid (fl f pK (m + 1) = fl f pK m ++ if pK (f m) = true then [f m] else []) := rfl
                    have hlen := fl_len f pK m
                    generalize f m = y at cm hfl
                    by_cases hy0 : 0 ≤ y
                    · have hfl' : fl f pK (m + 1) = fl f pK m ++ [y] := by rw [hfl.out, if_pos (by simp [pK, hy0])]
                      clear hfl
                      generalize fl f pK m = l at *
                      have hal : OwnL (wr.alloc (.cells #[.int .i64 y] 3)) base a cap l := hO.touch ((Touch.refl Nil wr).alloc _) (fun _ _ _ e => e)
                      have hbz : base ≤ wr.heap.size := by have := ht.size; omega
                      obtain ⟨g, o, cap', w', hr, hO', t'⟩ := hal.append (by simp; omega) (by omega) y wr.heap.size (by simp)
                      have tn : Touch (fun k => base ≤ k) wu w' := (ht.alloc _).trans t'
                      have hr' : Hid ((Builtin.append_ #[24, 24] 24 #[.slice a l.length cap, .slice (some ⟨wr.heap.size, 0, none⟩) 1 1]).run Try.prog (wr.alloc (.cells #[.int .i64 y] 3)) = .ok (.slice (some ⟨g, o, none⟩) (l.length + 1) cap') w') := hr
                      clear hr hal
                      go_wp2_with (refine Lib.wpList_append_run_sl _ rfl _ _ 24 rfl _ _ rfl rfl hr'.out ?_)
                      go_roundw
                      case rel => exact ⟨m + 1, by omega, by go_num, some ⟨g, o, none⟩, cap', by rw [hfl', List.length_append]; rfl, by rw [hfl']; exact hO', tn⟩
                      case measure => simp [intOf]; omega
                    · have hfl' : fl f pK (m + 1) = fl f pK m := by rw [hfl.out, if_neg (by simp [pK, hy0]), List.append_nil]
                      have hy1 : decide (0 ≤ y) = false := by simpa using hy0
                      clear hfl
                      go_wp2
                      go_roundw
                      case rel => exact ⟨m + 1, by omega, by go_num, a, cap, by rw [hfl'], by rw [hfl']; exact hO, ht⟩
                      case measure => simp [intOf]; omega
                  · have hmn2 : m = n := by omega
                    subst hmn2
                    replace hL := hL.touch ht (fun k hk e => by omega)
                    replace hdone := hdone.touch ht (fun k _ hk e => by omega)
                    have cw := hL.want.cell hi3
                    obtain ⟨a2, cap2, hv2, hc2⟩ := hdone
                    rw [hv2] at cw
                    have hI2 : Ints wr a2 (fl f pK m).length (lget (fl f pK m)) := by
                      rcases hc2 with h | ⟨b2, o2, e1, _, e2, e3⟩
                      · exact Or.inl h
                      · exact Or.inr ⟨b2, o2, e1, e2, e3⟩
                    have hlen := fl_len f pK m
                    clear hc2 hv2
                    go_wp2_with (go_at_call 13; refine (isame_t hO.ints hI2 (by omega) (fun _ _ => rfl)).mono ?_; rintro e w12 ⟨rfl, t12⟩; replace hL := hL.touch t12 (fun _ _ e => e))
                    go_roundg (2 - i)
                    case measure => omega
                    case rel => exact ⟨i + 1, by omega, by go_num, hL⟩
              · have hi32 : i = 3 := by omega
                subst hi32
                have hcl2 := cclear_any hL.c x (by omega)
                rw [f3] at hcl2
                have e1 : ∀ q : CQ, q.cleared (-1) = false := fun q => by simp [CQ.cleared]
                go_wp2_with (first
                  | (go_at_call_has 16 (Value.int .i64 x); refine hcl2.mono ?_; rintro e w13 ⟨hx13, hC13, t13⟩; subst hx13; replace hL := hL.turn t13 hC13)
                  | (go_at_call_has 16 (Value.int .i64 (-1)); refine (cclear_any hL.c _ (by omega)).mono ?_; rintro e w14 ⟨hx14, hC14, t14⟩; subst hx14; replace hL := hL.turn t14 hC14)
                  | (go_at_call 18; refine (wakes4_any _).mono ?_; rintro e w15 ⟨rfl, t15⟩; replace hL := hL.touch t15 (fun _ _ e => e)))
                go_ret
                exact ⟨rfl, hL.t.below (Nat.le_refl _) (fun _ e => e.elim)⟩
end Go.Proofs.Ytjfdjlinjghddaa
