/-
  walk: To.
-/
import Derived.Test.YtfbmjagchjhddabWalkB
namespace Go.Proofs.Ytfbmjagchjhddab
open Go.ChangeShapes Go.WideShapes Go.ChangeAt Go.RowKit

/-- Where a walk came to. -/
structure WS where
  pl : List Int
  bits : Int
  wr : Bool
  us : Bool
  gl : Bool
  fr : Int
def WS.zero : WS := ⟨[], 0, false, false, false, 0⟩
/-- One level. -/
def wstep (s : MS) (page : Int) (l : Nat) (a : WS) : WS × Int :=
  let q := a.fr * 8 + pidx page l
  let x := s.rd q
  if folF s.n x = 0 then (⟨a.pl ++ [q], x, a.wr && unB x 2, a.us && unB x 4, unB x 256, unF x⟩, 0) else (⟨a.pl ++ [q], x, false, false, false, 0⟩, folF s.n x)
def wgo (s : MS) (page : Int) : Nat → WS → WS × Int
  | 0, a => (a, 0)
  | f + 1, a => if (wstep s page (2 - f) a).2 = 0 then wgo s page f (wstep s page (2 - f) a).1 else wstep s page (2 - f) a
def toP (s : MS) (root page : Int) : WS × Int :=
  if 0 ≤ page ∧ page < 512 then (if s.hasF root = true then wgo s page 3 ⟨[], 0, true, true, false, root⟩ else (WS.zero, 4)) else (WS.zero, 3)
def stepV (a : Option Addr) (cap : Nat) (x : WS) : Value := .agg #[.slice a x.pl.length cap, .int .u64 x.bits, .bool x.wr, .bool x.us, .bool x.gl, .int .i64 x.fr]

theorem setb6 {w : World} {X : Nat} {cs : Array Value} {t : TypeId} {fr : Nat × Nat} (h : w.heap[X]? = some (.cells cs t fr)) (i : Nat) (v : Value) : (w.setCell ⟨X, i, none⟩ v).heap[X]? = some (.cells (cs.setIfInBounds i v) t fr) := by
  simp [World.setCell, Array.getElem?_modify, h]
/-- The step's six cells (X), the answer's (R). -/
structure XB (w : World) (R X : Nat) (v0 v1 v2 v3 v4 v5 : Value) : Prop where
  x : w.heap[X]? = some (.cells #[v0, v1, v2, v3, v4, v5] 42 (0, 0))
  r : w.heap[R]? = some (.cells #[.slice none 0 0, .int .u64 0, .bool false, .bool false, .bool false, .int .i64 0] 42 (0, 0))
  ne : R ≠ X
namespace XB
variable {w w' : World} {R X : Nat} {v0 v1 v2 v3 v4 v5 : Value}
theorem c0 (h : XB w R X v0 v1 v2 v3 v4 v5) : w.cell? ⟨X, 0, none⟩ = some v0 := by simp [World.cell?, h.x]
theorem c1 (h : XB w R X v0 v1 v2 v3 v4 v5) : w.cell? ⟨X, 1, none⟩ = some v1 := by simp [World.cell?, h.x]
theorem c2 (h : XB w R X v0 v1 v2 v3 v4 v5) : w.cell? ⟨X, 2, none⟩ = some v2 := by simp [World.cell?, h.x]
theorem c3 (h : XB w R X v0 v1 v2 v3 v4 v5) : w.cell? ⟨X, 3, none⟩ = some v3 := by simp [World.cell?, h.x]
theorem c4 (h : XB w R X v0 v1 v2 v3 v4 v5) : w.cell? ⟨X, 4, none⟩ = some v4 := by simp [World.cell?, h.x]
theorem c5 (h : XB w R X v0 v1 v2 v3 v4 v5) : w.cell? ⟨X, 5, none⟩ = some v5 := by simp [World.cell?, h.x]
theorem xf (h : XB w R X v0 v1 v2 v3 v4 v5) (i : Nat) : w.frozen? ⟨X, i, none⟩ = false := by simp [World.frozen?, h.x]
theorem rc (h : XB w R X v0 v1 v2 v3 v4 v5) : w.cell? ⟨R, 0, none⟩ = some (.slice none 0 0) ∧ w.cell? ⟨R, 1, none⟩ = some (.int .u64 0) ∧ w.cell? ⟨R, 2, none⟩ = some (.bool false) ∧ w.cell? ⟨R, 3, none⟩ = some (.bool false) ∧ w.cell? ⟨R, 4, none⟩ = some (.bool false) ∧ w.cell? ⟨R, 5, none⟩ = some (.int .i64 0) ∧ ∀ i, w.frozen? ⟨R, i, none⟩ = false := by simp [World.cell?, World.frozen?, h.r]
theorem below (h : XB w R X v0 v1 v2 v3 v4 v5) {B : Nat} (b : Below B w w') (hx : X < B) (hr : R < B) : XB w' R X v0 v1 v2 v3 v4 v5 := ⟨(b.block X hx).trans h.x, (b.block R hr).trans h.r, h.ne⟩
theorem s0 (h : XB w R X v0 v1 v2 v3 v4 v5) (v : Value) : XB (w.setCell ⟨X, 0, none⟩ v) R X v v1 v2 v3 v4 v5 := ⟨setb6 h.x 0 v, (Below.heap_setCell _ _ _ _ h.ne).trans h.r, h.ne⟩
theorem s1 (h : XB w R X v0 v1 v2 v3 v4 v5) (v : Value) : XB (w.setCell ⟨X, 1, none⟩ v) R X v0 v v2 v3 v4 v5 := ⟨setb6 h.x 1 v, (Below.heap_setCell _ _ _ _ h.ne).trans h.r, h.ne⟩
theorem s2 (h : XB w R X v0 v1 v2 v3 v4 v5) (v : Value) : XB (w.setCell ⟨X, 2, none⟩ v) R X v0 v1 v v3 v4 v5 := ⟨setb6 h.x 2 v, (Below.heap_setCell _ _ _ _ h.ne).trans h.r, h.ne⟩
theorem s3 (h : XB w R X v0 v1 v2 v3 v4 v5) (v : Value) : XB (w.setCell ⟨X, 3, none⟩ v) R X v0 v1 v2 v v4 v5 := ⟨setb6 h.x 3 v, (Below.heap_setCell _ _ _ _ h.ne).trans h.r, h.ne⟩
theorem s4 (h : XB w R X v0 v1 v2 v3 v4 v5) (v : Value) : XB (w.setCell ⟨X, 4, none⟩ v) R X v0 v1 v2 v3 v v5 := ⟨setb6 h.x 4 v, (Below.heap_setCell _ _ _ _ h.ne).trans h.r, h.ne⟩
theorem s5 (h : XB w R X v0 v1 v2 v3 v4 v5) (v : Value) : XB (w.setCell ⟨X, 5, none⟩ v) R X v0 v1 v2 v3 v4 v := ⟨setb6 h.x 5 v, (Below.heap_setCell _ _ _ _ h.ne).trans h.r, h.ne⟩
end XB
theorem OL.set {w : World} {base cap : Nat} {a : Option Addr} {l : List Int} (h : OL w base a cap l) {p : Addr} (hp : p.block < base) (v : Value) : OL (w.setCell p v) base a cap l := by
  have hg : w.grownBy (w.setCell p v) (some p.block) := ⟨rfl, rfl, rfl, by simp [World.setCell], fun k _ hk => Below.heap_setCell _ _ _ _ (fun e => hk (by rw [e]))⟩
  refine h.kept hg ?_
  cases hv : (Value.slice a l.length cap).ownBlock with
  | none => exact Or.inl rfl
  | some g => exact Or.inr (fun e => by have := (h.lt g hv).1; simp at e; omega)
theorem OL.later {w w' : World} {base cap : Nat} {a : Option Addr} {l : List Int} (h : OL w base a cap l) (b : Below w.heap.size w w') : OL w' base a cap l := by
  refine h.kept (row := none) ⟨b.os, b.tape, b.output, b.size, fun k hk _ => b.block k hk⟩ ?_
  cases hv : (Value.slice a l.length cap).ownBlock with
  | none => exact Or.inl rfl
  | some g => exact Or.inr (by simp)
theorem OL.low {w : World} {base base' cap : Nat} {a : Option Addr} {l : List Int} (h : OL w base a cap l) (hb : base' ≤ base) : OL w base' a cap l := by
  obtain ⟨h1, h2⟩ := h
  refine ⟨h1, ?_⟩
  rcases h2 with h2 | ⟨g, c, cur, hv, hgb, hr⟩
  · exact Or.inl h2
  · exact Or.inr ⟨g, c, cur, hv, Nat.le_trans hb hgb, hr⟩

set_option maxRecDepth 20000 in
set_option maxHeartbeats 4000000 in
theorem to_any {w : World} {b c : Nat} {s : MS} (m : MemAt w b c s) (hW : ∀ a, 0 ≤ s.rd a ∧ s.rd a < 18446744073709551616) (root page : Int) :
    Calls Try.prog 12 #[.pointer (some ⟨b, 0, none⟩), .int .i64 root, .int .i64 page] w fun e w' => ∃ a cap, e = .returned (.tuple #[stepV a cap (toP s root page).1, .int .i64 (toP s root page).2]) ∧ OL w' w.heap.size a cap (toP s root page).1.pl ∧ Below w.heap.size w w' := by
  obtain ⟨r, hr⟩ : ∃ r, Hid (toP s root page = r) := ⟨_, rfl⟩
  rw [hr.out]
  have hle := m.le
  have t0 := (Below.refl w.heap.size w).alloc (Nat.le_refl _) (.cells #[.slice none 0 0, .int .u64 0, .bool false, .bool false, .bool false, .int .i64 0] 42)
  have hR0 : (w.alloc (.cells #[.slice none 0 0, .int .u64 0, .bool false, .bool false, .bool false, .int .i64 0] 42)).heap[w.heap.size]? = some (.cells #[.slice none 0 0, .int .u64 0, .bool false, .bool false, .bool false, .int .i64 0] 42 (0, 0)) := heap_alloc_new w _
  have hsz : (w.alloc (.cells #[.slice none 0 0, .int .u64 0, .bool false, .bool false, .bool false, .int .i64 0] 42)).heap.size = w.heap.size + 1 := by simp
  have MM : ∀ wx, Below w.heap.size w wx → MemAt wx b c s := fun wx bx => m.touch (S := Nil) (Touch.ofBelow bx) (fun h => h) (fun h => h)
  go_enter Try.func12, Try.ntmps12
  go_upto_region 1 with fail
  generalize w.alloc (.cells #[.slice none 0 0, .int .u64 0, .bool false, .bool false, .bool false, .int .i64 0] 42) = W at *
  have R0 : W.cell? ⟨w.heap.size, 0, none⟩ = some (.slice none 0 0) ∧ W.cell? ⟨w.heap.size, 1, none⟩ = some (.int .u64 0) ∧ W.cell? ⟨w.heap.size, 2, none⟩ = some (.bool false) ∧ W.cell? ⟨w.heap.size, 3, none⟩ = some (.bool false) ∧ W.cell? ⟨w.heap.size, 4, none⟩ = some (.bool false) ∧ W.cell? ⟨w.heap.size, 5, none⟩ = some (.int .i64 0) := by simp [World.cell?, hR0]
  obtain ⟨z0, z1, z2, z3, z4, z5⟩ := R0
  have zf : ∀ i, W.frozen? ⟨w.heap.size, i, none⟩ = false := fun i => by simp [World.frozen?, hR0]
  have hS6 : ∀ (wx : World) (v0 v1 v2 v3 v4 v5 : Value), Below w.heap.size w wx → Below w.heap.size w ((((((wx.setCell ⟨w.heap.size, 0, none⟩ v0).setCell ⟨w.heap.size, 1, none⟩ v1).setCell ⟨w.heap.size, 2, none⟩ v2).setCell ⟨w.heap.size, 3, none⟩ v3).setCell ⟨w.heap.size, 4, none⟩ v4).setCell ⟨w.heap.size, 5, none⟩ v5) := fun wx v0 v1 v2 v3 v4 v5 bx =>
    (((((bx.setCell (p := ⟨w.heap.size, 0, none⟩) (Nat.le_refl _) v0).setCell (p := ⟨w.heap.size, 1, none⟩) (Nat.le_refl _) v1).setCell (p := ⟨w.heap.size, 2, none⟩) (Nat.le_refl _) v2).setCell (p := ⟨w.heap.size, 3, none⟩) (Nat.le_refl _) v3).setCell (p := ⟨w.heap.size, 4, none⟩) (Nat.le_refl _) v4).setCell (p := ⟨w.heap.size, 5, none⟩) (Nat.le_refl _) v5
  have hP := fun wx => wispage_any page wx
  have hret : ∀ (wx : World) (f : Int), wx = ((((((W.setCell ⟨w.heap.size, 0, none⟩ (.slice none 0 0)).setCell ⟨w.heap.size, 1, none⟩ (.int .u64 0)).setCell ⟨w.heap.size, 2, none⟩ (.bool false)).setCell ⟨w.heap.size, 3, none⟩ (.bool false)).setCell ⟨w.heap.size, 4, none⟩ (.bool false)).setCell ⟨w.heap.size, 5, none⟩ (.int .i64 0)) → Hid (r = (WS.zero, f)) → ∃ a cap, Ending.returned (.tuple #[.agg #[.slice none 0 0, .int .u64 0, .bool false, .bool false, .bool false, .int .i64 0], .int .i64 f]) = .returned (.tuple #[stepV a cap r.1, .int .i64 r.2]) ∧ OL wx w.heap.size a cap r.1.pl ∧ Below w.heap.size w wx := fun wx f hx hf => by
    subst hx
    rw [hf.out]
    exact ⟨none, 0, rfl, World.ownsRow_nil _ _ _ _, hS6 _ _ _ _ _ _ _ t0⟩
  by_cases hp : 0 ≤ page ∧ page < 512
  · simp only [decide_eq_true hp] at hP
    have hH := whas_any (MM _ t0) root
    cases hrt : s.hasF root
    · have e : Hid (r = (WS.zero, 4)) := by show _ = _; rw [← hr.out]; unfold toP; rw [if_pos hp, if_neg (by rw [hrt]; decide)]
      rw [hrt] at hH
      go_wp2_with (first | (go_at_call 32; refine (hP _).mono ?_; rintro e wq ⟨rfl, rfl⟩) | (go_at_call 33; refine hH.mono ?_; rintro e wq ⟨rfl, rfl⟩))
      exact bodyPost_ret (v := .tuple #[.agg #[.slice none 0 0, .int .u64 0, .bool false, .bool false, .bool false, .int .i64 0], .int .i64 4]) (by simp [results, Try.results12, go_sem, z0, z1, z2, z3, z4, z5]) rfl (hret _ 4 rfl e)
    · have e : Hid (wgo s page 3 ⟨[], 0, true, true, false, root⟩ = r) := by show _ = _; rw [← hr.out]; unfold toP; rw [if_pos hp, if_pos hrt]
      obtain ⟨hr0, hr1⟩ := (s.hasF_iff root).1 hrt
      rw [hrt] at hH
      go_upto_region 6 with (first | (go_at_call 32; refine (hP _).mono ?_; rintro e wq ⟨rfl, rfl⟩) | (go_at_call 33; refine hH.mono ?_; rintro e wq ⟨rfl, rfl⟩))
      have hX0 : XB (W.alloc (.cells #[.slice none 0 0, .int .u64 0, .bool true, .bool true, .bool false, .int .i64 root] 42)) w.heap.size (w.heap.size + 1) (.slice none 0 0) (.int .u64 0) (.bool true) (.bool true) (.bool false) (.int .i64 root) := by
        have := heap_alloc_new W (.cells #[.slice none 0 0, .int .u64 0, .bool true, .bool true, .bool false, .int .i64 root] 42)
        rw [hsz] at this
        exact ⟨this, (Below.heap_alloc _ _ _ (by omega)).trans hR0, by omega⟩
      have b1 := t0.alloc (by omega) (.cells #[.slice none 0 0, .int .u64 0, .bool true, .bool true, .bool false, .int .i64 root] 42)
      have hs1 : (W.alloc (.cells #[.slice none 0 0, .int .u64 0, .bool true, .bool true, .bool false, .int .i64 root] 42)).heap.size = w.heap.size + 2 := by rw [World.size_alloc, hsz]
      generalize W.alloc (.cells #[.slice none 0 0, .int .u64 0, .bool true, .bool true, .bool false, .int .i64 root] 42) = W1 at *
      clear z0 z1 z2 z3 z4 z5 zf hR0 hsz t0 hret hH hP hr
      go_wp2_with fail
      go_loopg [24] 3 (fun g i wr => ∃ (k : Nat) (a : WS) (A : Option Addr) (cap : Nat), g + k = 3 ∧ i = .int .i64 k ∧ Hid (wgo s page (3 - k) a = r) ∧ XB wr w.heap.size (w.heap.size + 1) (.slice A a.pl.length cap) (.int .u64 a.bits) (.bool a.wr) (.bool a.us) (.bool a.gl) (.int .i64 a.fr) ∧ OL wr (w.heap.size + 2) A cap a.pl ∧ Hid (a.pl.length ≤ k) ∧ 0 ≤ a.fr ∧ a.fr < 64 ∧ w.heap.size + 2 ≤ wr.heap.size ∧ Below w.heap.size w wr)
      case atStart => exact ⟨0, ⟨[], 0, true, true, false, root⟩, none, 0, by omega, rfl, e, hX0, World.ownsRow_nil _ _ _ _, Nat.le_refl 0, hr0, by show root < 64; omega, by omega, b1⟩
      case round =>
        clear e hX0 b1 hs1
        obtain ⟨k, a, A, cap, hg, rfl, hgo, hX, hO, hpl, f0, f1, hws, hB⟩ := hrel
        by_cases hk : k < 3
        · have k1 : (k : Int) < 3 := by omega
          obtain ⟨ix, hix⟩ : ∃ ix, Hid (pidx page (k : Int) = ix) := ⟨_, rfl⟩
          have hixb : 0 ≤ ix ∧ ix < 8 := by
            rw [← hix.out]; unfold pidx
            rw [if_pos ⟨hp.1, hp.2, by omega, k1⟩]
            split
            · omega
            · split <;> omega
          have hI : ∀ n, Calls Try.prog 21 #[.int .i64 page, .int .i64 (k : Int)] (wr.drewN n) fun e w' => e = .returned (.int .i64 ix) ∧ w' = wr.drewN n := fun n => by
            have := windex_any page (k : Int) (wr.drewN n)
            rw [hix.out] at this
            exact this.mono (fun e w' h => ⟨h.1, h.2.symm⟩)
          obtain ⟨q, hq⟩ : ∃ q, Hid (a.fr * 8 + ix = q) := ⟨_, rfl⟩
          have hqb : 0 ≤ q ∧ q < 1000 := by rw [← hq.out]; omega
          have hw8 : IntKind.i64.wrap (a.fr * 8) = a.fr * 8 := by rw [IntKind.wrap_i64]; omega
          have hw9 : IntKind.i64.wrap (a.fr * 8 + ix) = q := by rw [IntKind.wrap_i64, hq.out]; omega
          obtain ⟨x, hx⟩ : ∃ x, Hid (s.rd q = x) := ⟨_, rfl⟩
          have hxb := hW q
          rw [hx.out] at hxb
          have hstep : Hid (wstep s page (2 - (3 - (k + 1))) a = (if folF s.n x = 0 then (⟨a.pl ++ [q], x, a.wr && unB x 2, a.us && unB x 4, unB x 256, unF x⟩, 0) else (⟨a.pl ++ [q], x, false, false, false, 0⟩, folF s.n x))) := by
            show _ = _
            unfold wstep
            rw [show 2 - (3 - (k + 1)) = k by omega]
            simp only [hix.out, hq.out, hx.out]
          have hgo2 : Hid ((if (wstep s page (2 - (3 - (k + 1))) a).2 = 0 then wgo s page (3 - (k + 1)) (wstep s page (2 - (3 - (k + 1))) a).1 else wstep s page (2 - (3 - (k + 1))) a) = r) := by
            show _ = _
            rw [← hgo.out, show 3 - k = (3 - (k + 1)) + 1 by omega]; rfl
          clear hgo
          have c5 := hX.c5
          go_upto_region 9 with fail
          go_cut [10] (fun v wx => v = .int .i64 q ∧ Below wr.heap.size wr wx)
          case first =>
            go_quiet ((go_at_call 21; with_reducible exact Calls.quiet_of_same (hI _)))
            go_wp2
            go_meet
            exact ⟨rfl, ⟨rfl, rfl, rfl, Nat.le_refl _, fun _ _ => rfl⟩⟩
          case rest =>
            obtain ⟨rfl, bq⟩ := hcut
            have hX1 := hX.below bq (by omega) (by omega)
            have hO1 := hO.later bq
            have hB1 := hB.trans (bq.mono hB.size)
            have hs1 : w.heap.size + 2 ≤ wc.heap.size := Nat.le_trans hws bq.size
            clear hX hO hB hws bq c5 hI hw8 hw9
            have c0 := hX1.c0
            obtain ⟨g', c', wN, hrun, hON, bN⟩ := app_int hO1 hs1 (by have := hpl.out; omega) q
            have hXN := hX1.below bN (by omega) (by omega)
            have n0 := hXN.c0
            have nf := hXN.xf 0
            have hBN : Below w.heap.size w wN := hB1.trans (bN.mono (by omega))
            have hsN := bN.size
            go_upto_region 11 with (refine Lib.wpList_append_run_sl _ rfl _ _ 22 rfl _ _ rfl rfl hrun ?_)
            have hX2 := hXN.s0 (.slice (some ⟨g', 0, none⟩) (a.pl.length + 1) c')
            have hOl : OL wN (w.heap.size + 2) (some ⟨g', 0, none⟩) c' (a.pl ++ [q]) := by
              have : ilist (a.pl ++ [q]) = ilist a.pl ++ [.int .i64 q] := by simp [ilist]
              rw [OL, this, List.length_append]; exact hON
            have hO2 := hOl.set (p := ⟨w.heap.size + 1, 0, none⟩) (by show w.heap.size + 1 < _; omega) (.slice (some ⟨g', 0, none⟩) (a.pl.length + 1) c')
            have hB2 := hBN.setCell (p := ⟨w.heap.size + 1, 0, none⟩) (Nat.le_succ _) (.slice (some ⟨g', 0, none⟩) (a.pl.length + 1) c')
            have hs2 : w.heap.size + 2 ≤ (wN.setCell ⟨w.heap.size + 1, 0, none⟩ (.slice (some ⟨g', 0, none⟩) (a.pl.length + 1) c')).heap.size := by rw [World.size_setCell]; omega
            clear hX1 hO1 hB1 c0 hrun hON bN hXN n0 nf hBN hOl hsN
            generalize wN.setCell ⟨w.heap.size + 1, 0, none⟩ (.slice (some ⟨g', 0, none⟩) (a.pl.length + 1) c') = W2 at *
            have hRd := read_any (MM _ hB2) q (by omega)
            rw [hx.out] at hRd
            have n1 := hX2.c1
            have nf := hX2.xf 1
            go_upto_region 12 with (go_at_call 34; refine hRd.mono ?_; rintro e wq ⟨rfl, rfl⟩)
            have hX3 := hX2.s1 (.int .u64 x)
            have hO3 := hO2.set (p := ⟨w.heap.size + 1, 1, none⟩) (by show w.heap.size + 1 < _; omega) (.int .u64 x)
            have hB3 := hB2.setCell (p := ⟨w.heap.size + 1, 1, none⟩) (Nat.le_succ _) (.int .u64 x)
            have hs3 : w.heap.size + 2 ≤ (W2.setCell ⟨w.heap.size + 1, 1, none⟩ (.int .u64 x)).heap.size := by rw [World.size_setCell]; exact hs2
            clear hX2 hO2 hB2 hRd n1 nf hs2
            generalize W2.setCell ⟨w.heap.size + 1, 1, none⟩ (.int .u64 x) = W3 at *
            have hF := follow_any (MM _ hB3) x hxb.1 hxb.2
            have c1 := hX3.c1
            by_cases hz : folF s.n x = 0
            · have hv : folV s.n x = .agg #[.bool true, .bool (unB x 2), .bool (unB x 4), .bool (unB x 256), .int .i64 (unF x)] := by unfold folV; rw [if_pos hz]
              have hfn : 0 ≤ unF x ∧ unF x < 64 := by
                have : unF x < s.n := by
                  unfold folF at hz
                  split at hz
                  · cases hz
                  · split at hz
                    · rename_i hh; exact hh.2
                    · cases hz
                exact ⟨unF_nn, by omega⟩
              rw [hz, hv] at hF
              have hst := hstep.out
              rw [if_pos hz] at hst
              have hg3 := hgo2.out
              rw [hst] at hg3
              have hg4 : Hid (wgo s page (3 - (k + 1)) ⟨a.pl ++ [q], x, a.wr && unB x 2, a.us && unB x 4, unB x 256, unF x⟩ = r) := by show _ = _; simpa using hg3
              clear hst hg3 hstep hgo2 hz hv
              go_upto_region 13 with (go_at_call 35; refine hF.mono ?_; rintro e w4 ⟨rfl, t4⟩)
              have b4 : Below W3.heap.size W3 w4 := t4.below (Nat.le_refl _) (fun _ h => h.elim)
              have b4a := b4.alloc b4.size (.cells #[.bool true, .bool (unB x 2), .bool (unB x 4), .bool (unB x 256), .int .i64 (unF x)] 36)
              have hE : (w4.alloc (.cells #[.bool true, .bool (unB x 2), .bool (unB x 4), .bool (unB x 256), .int .i64 (unF x)] 36)).heap[w4.heap.size]? = some (.cells #[.bool true, .bool (unB x 2), .bool (unB x 4), .bool (unB x 256), .int .i64 (unF x)] 36 (0, 0)) := heap_alloc_new w4 _
              have hX4 := hX3.below b4a (by omega) (by omega)
              have hO4 := hO3.later b4a
              have hB4 := hB3.trans (b4a.mono hB3.size)
              have hs4 := Nat.le_trans hs3 b4a.size
              have hEl : w.heap.size + 2 ≤ w4.heap.size := Nat.le_trans hs3 b4.size
              clear hX3 hO3 hB3 hs3 c1 hF t4 b4 b4a
              generalize w4.alloc (.cells #[.bool true, .bool (unB x 2), .bool (unB x 4), .bool (unB x 256), .int .i64 (unF x)] 36) = W4 at *
              generalize w4.heap.size = E at *
              have HE : ∀ (wx : World), wx.heap[E]? = W4.heap[E]? → wx.cell? ⟨E, 1, none⟩ = some (.bool (unB x 2)) ∧ wx.cell? ⟨E, 2, none⟩ = some (.bool (unB x 4)) ∧ wx.cell? ⟨E, 3, none⟩ = some (.bool (unB x 256)) ∧ wx.cell? ⟨E, 4, none⟩ = some (.int .i64 (unF x)) := fun wx hx => by
                have := hx.trans hE
                simp [World.cell?, this]
              have nE : E ≠ w.heap.size + 1 := by omega
              have c2 := hX4.c2
              have xf2 := hX4.xf 2
              obtain ⟨q1, q2, q3, q4⟩ := HE W4 rfl
              go_upto_region 15 with fail
              go_cut [67] (fun _ wx => wx = W4.setCell ⟨w.heap.size + 1, 2, none⟩ (.bool (a.wr && unB x 2)))
              case first =>
                cases hwr : a.wr
                · rw [hwr] at c2
                  go_wp2_with fail
                  go_meet
                  rw [hwr]; rfl
                · rw [hwr] at c2
                  go_wp2_with fail
                  go_meet
                  rw [hwr]; rfl
              case rest =>
                subst hcut
                have hX5 := hX4.s2 (.bool (a.wr && unB x 2))
                have hO5 := hO4.set (p := ⟨w.heap.size + 1, 2, none⟩) (by show w.heap.size + 1 < _; omega) (.bool (a.wr && unB x 2))
                have hB5 := hB4.setCell (p := ⟨w.heap.size + 1, 2, none⟩) (Nat.le_succ _) (.bool (a.wr && unB x 2))
                have hE5 : (W4.setCell ⟨w.heap.size + 1, 2, none⟩ (.bool (a.wr && unB x 2))).heap[E]? = W4.heap[E]? := Below.heap_setCell _ _ _ _ nE
                have hs5 : w.heap.size + 2 ≤ (W4.setCell ⟨w.heap.size + 1, 2, none⟩ (.bool (a.wr && unB x 2))).heap.size := by rw [World.size_setCell]; exact hs4
                obtain ⟨q1, q2, q3, q4⟩ := HE _ hE5
                clear hX4 hO4 hB4 hs4 c2 xf2
                generalize W4.setCell ⟨w.heap.size + 1, 2, none⟩ (.bool (a.wr && unB x 2)) = W5 at *
                have c3 := hX5.c3
                have xf3 := hX5.xf 3
                go_upto_region 16 with fail
                go_cut [74] (fun _ wx => wx = W5.setCell ⟨w.heap.size + 1, 3, none⟩ (.bool (a.us && unB x 4)))
                case first =>
                  cases hus : a.us
                  · rw [hus] at c3
                    go_wp2_with fail
                    go_meet
                    rw [hus]; rfl
                  · rw [hus] at c3
                    go_wp2_with fail
                    go_meet
                    rw [hus]; rfl
                case rest =>
                  subst hcut
                  have hX6 := hX5.s3 (.bool (a.us && unB x 4))
                  have hO6 := hO5.set (p := ⟨w.heap.size + 1, 3, none⟩) (by show w.heap.size + 1 < _; omega) (.bool (a.us && unB x 4))
                  have hB6 := hB5.setCell (p := ⟨w.heap.size + 1, 3, none⟩) (Nat.le_succ _) (.bool (a.us && unB x 4))
                  have hE6 : (W5.setCell ⟨w.heap.size + 1, 3, none⟩ (.bool (a.us && unB x 4))).heap[E]? = W4.heap[E]? := (Below.heap_setCell _ _ _ _ nE).trans hE5
                  have hs6 : w.heap.size + 2 ≤ (W5.setCell ⟨w.heap.size + 1, 3, none⟩ (.bool (a.us && unB x 4))).heap.size := by rw [World.size_setCell]; exact hs5
                  obtain ⟨q1, q2, q3, q4⟩ := HE _ hE6
                  clear hX5 hO5 hB5 hs5 c3 xf3 hE5
                  generalize W5.setCell ⟨w.heap.size + 1, 3, none⟩ (.bool (a.us && unB x 4)) = W6 at *
                  have c4 := hX6.c4
                  have xf4 := hX6.xf 4
                  have hX7 := hX6.s4 (.bool (unB x 256))
                  have hO7 := hO6.set (p := ⟨w.heap.size + 1, 4, none⟩) (by show w.heap.size + 1 < _; omega) (.bool (unB x 256))
                  have hB7 := hB6.setCell (p := ⟨w.heap.size + 1, 4, none⟩) (Nat.le_succ _) (.bool (unB x 256))
                  have hE7 : (W6.setCell ⟨w.heap.size + 1, 4, none⟩ (.bool (unB x 256))).heap[E]? = W4.heap[E]? := (Below.heap_setCell _ _ _ _ nE).trans hE6
                  have hs7 : w.heap.size + 2 ≤ (W6.setCell ⟨w.heap.size + 1, 4, none⟩ (.bool (unB x 256))).heap.size := by rw [World.size_setCell]; exact hs6
                  go_upto_region 18 with fail
                  obtain ⟨q1', q2', q3', q4'⟩ := HE _ hE7
                  clear hX6 hO6 hB6 hs6 c4 xf4 hE6 q1 q2 q3 q4
                  generalize W6.setCell ⟨w.heap.size + 1, 4, none⟩ (.bool (unB x 256)) = W7 at *
                  have c5 := hX7.c5
                  have xf5 := hX7.xf 5
                  go_wp2_with fail
                  go_roundg (3 - (k + 1))
                  case measure => omega
                  case rel => exact ⟨k + 1, ⟨a.pl ++ [q], x, a.wr && unB x 2, a.us && unB x 4, unB x 256, unF x⟩, some ⟨g', 0, none⟩, c', by omega, by go_num, hg4, by have := hX7.s5 (.int .i64 (unF x)); simpa using this, hO7.set (p := ⟨w.heap.size + 1, 5, none⟩) (by show w.heap.size + 1 < _; omega) _, by show _ ≤ _; have := hpl.out; simp; omega, hfn.1, hfn.2, by rw [World.size_setCell]; exact hs7, hB7.setCell (p := ⟨w.heap.size + 1, 5, none⟩) (Nat.le_succ _) _⟩
            · have hv : folV s.n x = .agg #[.bool false, .bool false, .bool false, .bool false, .int .i64 0] := by unfold folV; rw [if_neg hz]
              have hz' : (folF s.n x != 0) = true := by simpa using hz
              rw [hv] at hF
              have hst := hstep.out
              rw [if_neg hz] at hst
              have hg3 := hgo2.out
              rw [hst, if_neg hz] at hg3
              have er : Hid (r = (⟨a.pl ++ [q], x, false, false, false, 0⟩, folF s.n x)) := hg3.symm
              clear hst hg3 hstep hgo2 hv hz
              generalize folF s.n x = ff at *
              go_upto_region 13 with (go_at_call 35; refine hF.mono ?_; rintro e w4 ⟨rfl, t4⟩)
              have b4 : Below W3.heap.size W3 w4 := t4.below (Nat.le_refl _) (fun _ h => h.elim)
              have b4a := b4.alloc b4.size (.cells #[.bool false, .bool false, .bool false, .bool false, .int .i64 0] 36)
              have hX4 := hX3.below b4a (by omega) (by omega)
              have hO4 := hO3.later b4a
              have hB4 := hB3.trans (b4a.mono hB3.size)
              clear hX3 hO3 hB3 hs3 c1 hF t4 b4 b4a
              generalize w4.alloc (.cells #[.bool false, .bool false, .bool false, .bool false, .int .i64 0] 36) = W4 at *
              obtain ⟨r0, r1, r2, r3, r4, r5, rfz⟩ := hX4.rc
              have c0 := hX4.c0
              have c1 := hX4.c1
              go_wp2_with fail
              refine bodyPost_ret (v := .tuple #[stepV (some ⟨g', 0, none⟩) c' ⟨a.pl ++ [q], x, false, false, false, 0⟩, .int .i64 ff]) (by simp [results, Try.results12, go_sem, stepV, r0, r1, r2, r3, r4, r5]) rfl ⟨some ⟨g', 0, none⟩, c', by rw [er.out], ?_, hS6 _ _ _ _ _ _ _ hB4⟩
              rw [er.out]
              exact ((((((hO4.set (p := ⟨w.heap.size, 0, none⟩) (by show w.heap.size < _; omega) _).set (p := ⟨w.heap.size, 1, none⟩) (by show w.heap.size < _; omega) _).set (p := ⟨w.heap.size, 2, none⟩) (by show w.heap.size < _; omega) _).set (p := ⟨w.heap.size, 3, none⟩) (by show w.heap.size < _; omega) _).set (p := ⟨w.heap.size, 4, none⟩) (by show w.heap.size < _; omega) _).set (p := ⟨w.heap.size, 5, none⟩) (by show w.heap.size < _; omega) _).low (by omega)
        · have k1 : ¬ ((k : Int) < 3) := by omega
          obtain rfl : k = 3 := by omega
          have er : Hid (r = (a, 0)) := by show _ = _; rw [← hgo.out]; rfl
          obtain ⟨r0, r1, r2, r3, r4, r5, rfz⟩ := hX.rc
          have c0 := hX.c0
          have c1 := hX.c1
          have c2 := hX.c2
          have c3 := hX.c3
          have c4 := hX.c4
          have c5 := hX.c5
          go_wp2_with fail
          refine bodyPost_ret (v := .tuple #[stepV A cap a, .int .i64 0]) (by simp [results, Try.results12, go_sem, stepV, r0, r1, r2, r3, r4, r5]) rfl ⟨A, cap, by rw [er.out], ?_, hS6 _ _ _ _ _ _ _ hB⟩
          rw [er.out]
          exact ((((((hO.set (p := ⟨w.heap.size, 0, none⟩) (by show w.heap.size < _; omega) _).set (p := ⟨w.heap.size, 1, none⟩) (by show w.heap.size < _; omega) _).set (p := ⟨w.heap.size, 2, none⟩) (by show w.heap.size < _; omega) _).set (p := ⟨w.heap.size, 3, none⟩) (by show w.heap.size < _; omega) _).set (p := ⟨w.heap.size, 4, none⟩) (by show w.heap.size < _; omega) _).set (p := ⟨w.heap.size, 5, none⟩) (by show w.heap.size < _; omega) _).low (by omega)
  · have e : Hid (r = (WS.zero, 3)) := by show _ = _; rw [← hr.out]; unfold toP; rw [if_neg hp]
    simp only [decide_eq_false hp] at hP
    go_wp2_with (go_at_call 32; refine (hP _).mono ?_; rintro e wq ⟨rfl, rfl⟩)
    exact bodyPost_ret (v := .tuple #[.agg #[.slice none 0 0, .int .u64 0, .bool false, .bool false, .bool false, .int .i64 0], .int .i64 3]) (by simp [results, Try.results12, go_sem, z0, z1, z2, z3, z4, z5]) rfl (hret _ 3 rfl e)
end Go.Proofs.Ytfbmjagchjhddab
