/-
  The document's example (wakes of law 8).
-/
import Derived.Test.YtfbmjagchjhddaaDoorRegG
namespace Go.Proofs.YtfbmjagchjhddaaDoor
open Go.ChangeShapes Go.WideShapes Go.ChangeAt Go.RowKit

theorem IsL.new (w : World) (cur : Array Value) (e : TypeId) (l : List Ins) (h : cur.toList = flatI l) : IsL (w.alloc (.cells cur e)) (some ⟨w.heap.size, 0, none⟩) l := Or.inr ⟨_, rfl, IRow.lit w cur e l h⟩
theorem plain_some {w : World} {s s' : RS} {a : Option Addr} {c n : Nat} {l : List Ins} (hn : n = l.length) (hp : plainP l s = some s') (h : IsL w a l) (hl : l.length ≤ 1000) (hpc : -9223372036854775808 ≤ s.pc) (hV : Sh w) :
    Calls Tryd.prog 17 #[stV s a n c] w fun e w' => ∃ a' c', e = .returned (.tuple #[stV s' a' n c', .bool true]) ∧ IsN w' w.heap.size a' l ∧ Below w.heap.size w w' := by
  subst hn
  refine (plain_any (c := c) s h hl hpc hV).mono ?_
  rintro e w' ⟨hb, he⟩
  rw [hp] at he
  obtain ⟨a', c', he, hi⟩ := he
  exact ⟨a', c', he, hi, hb⟩
theorem plain_none {w : World} {s : RS} {a : Option Addr} {c n : Nat} {l : List Ins} (hn : n = l.length) (hp : plainP l s = none) (h : IsL w a l) (hl : l.length ≤ 1000) (hpc : -9223372036854775808 ≤ s.pc) (hV : Sh w) :
    Calls Tryd.prog 17 #[stV s a n c] w fun e w' => e = .returned (.tuple #[stV RS.zero none 0 0, .bool false]) ∧ Below w.heap.size w w' := by
  subst hn
  refine (plain_any (c := c) s h hl hpc hV).mono ?_
  rintro e w' ⟨hb, he⟩
  rw [hp] at he
  exact ⟨he, hb⟩

theorem next_some {w : World} {s : RS} {a : Option Addr} {c n : Nat} {l : List Ins} {o : Option Ins} (hn : n = l.length) (ho : nextP l s.pc = o) (h : IsL w a l) (hl : l.length ≤ 1000) (hV : Sh w) :
    Calls Tryd.prog 15 #[stV s a n c] w fun e w' => e = .returned (nextV o) ∧ Below w.heap.size w w' := by
  subst hn; subst ho
  exact next_any (c := c) s h hl hV
theorem same_n {w : World} {a b : Option Addr} {l : List Ins} {n c d : Nat} (hn : n = l.length) (ha : IsL w a l) (hb : IsL w b l) (hl : l.length ≤ 1000) :
    Calls Tryd.prog 8 #[.slice a n c, .slice b n d] w fun e w' => e = .returned (.bool true) ∧ Below w.heap.size w w' := by
  subst hn
  exact same_eq ha hb hl
/-- A state in ten cells of a block. -/
def SB (w : World) (B : Nat) (s : RS) (a : Option Addr) (n c : Nat) : Prop :=
  w.heap[B]? = some (.cells #[.int .u64 (s.r 0), .int .u64 (s.r 1), .int .u64 (s.r 2), .int .u64 (s.r 3), .int .u64 (s.r 4), .int .u64 (s.r 5), .int .u64 (s.r 6), .int .u64 (s.r 7), .slice a n c, .int .i64 s.pc] 45 (0, 0))

theorem SB.lt {w : World} {B : Nat} {s : RS} {a : Option Addr} {n c : Nat} (h : SB w B s a n c) : B < w.heap.size := lt_of_block h
theorem SB.later {w w' : World} {B : Nat} {s : RS} {a : Option Addr} {n c : Nat} (h : SB w B s a n c) (b : Below w.heap.size w w') : SB w' B s a n c := cells_of h b
theorem setb {w : World} {X : Nat} {cs : Array Value} {t : TypeId} {fr : Nat × Nat} (h : w.heap[X]? = some (.cells cs t fr)) (i : Nat) (v : Value) : (w.setCell ⟨X, i, none⟩ v).heap[X]? = some (.cells (cs.setIfInBounds i v) t fr) := by
  simp [World.setCell, Array.getElem?_modify, h]
theorem SB.put {w : World} {B : Nat} {s : RS} {a : Option Addr} {n c : Nat} (h : SB w B s a n c) (s' : RS) (a' : Option Addr) (n' c' : Nat) : SB (put10 w B s' a' n' c') B s' a' n' c' := by
  have := setb (setb (setb (setb (setb (setb (setb (setb (setb (setb h 0 (.int .u64 (s'.r 0))) 1 (.int .u64 (s'.r 1))) 2 (.int .u64 (s'.r 2))) 3 (.int .u64 (s'.r 3))) 4 (.int .u64 (s'.r 4))) 5 (.int .u64 (s'.r 5))) 6 (.int .u64 (s'.r 6))) 7 (.int .u64 (s'.r 7))) 8 (.slice a' n' c')) 9 (.int .i64 s'.pc)
  simpa [SB] using this
theorem nat8 {k : Nat} (h : k < 8) : k = 0 ∨ k = 1 ∨ k = 2 ∨ k = 3 ∨ k = 4 ∨ k = 5 ∨ k = 6 ∨ k = 7 := by omega
theorem SB.cell {w : World} {B : Nat} {s : RS} {a : Option Addr} {n c : Nat} (h : SB w B s a n c) {k : Nat} (hk : k < 8) : w.cell? ⟨B, k, none⟩ = some (.int .u64 (s.r k)) := by
  have := SCells.of h
  obtain ⟨c0, c1, c2, c3, c4, c5, c6, c7, _, _⟩ := this
  rcases nat8 hk with rfl | rfl | rfl | rfl | rfl | rfl | rfl | rfl <;> assumption
theorem SB.setR {w : World} {B : Nat} {s : RS} {a : Option Addr} {n c : Nat} (h : SB w B s a n c) {k : Nat} (hk : k < 8) (v : Int) : SB (w.setCell ⟨B, k, none⟩ (.int .u64 v)) B ⟨fun j => if j = k then v else s.r j, s.pc⟩ a n c := by
  have := setb h k (.int .u64 v)
  rcases nat8 hk with rfl | rfl | rfl | rfl | rfl | rfl | rfl | rfl <;> simpa [SB] using this
theorem SB.setC {w : World} {B : Nat} {s : RS} {a : Option Addr} {n c : Nat} (h : SB w B s a n c) (a' : Option Addr) (n' c' : Nat) : SB (w.setCell ⟨B, 8, none⟩ (.slice a' n' c')) B s a' n' c' := by
  have := setb h 8 (.slice a' n' c')
  simpa [SB] using this
theorem SB.setPC {w : World} {B : Nat} {s : RS} {a : Option Addr} {n c : Nat} (h : SB w B s a n c) (p : Int) : SB (w.setCell ⟨B, 9, none⟩ (.int .i64 p)) B ⟨s.r, p⟩ a n c := by
  have := setb h 9 (.int .i64 p)
  simpa [SB] using this
/-- Its code stands in another block. -/
def IsF (w : World) (B : Nat) (a : Option Addr) (l : List Ins) : Prop := l = [] ∨ ∃ g, g ≠ B ∧ a = some ⟨g, 0, none⟩ ∧ IRow w g l
theorem IsF.toL {w : World} {B : Nat} {a : Option Addr} {l : List Ins} (h : IsF w B a l) : IsL w a l := by
  rcases h with h | ⟨g, _, h1, h2⟩
  · exact Or.inl h
  · exact Or.inr ⟨g, h1, h2⟩
theorem IsF.set {w : World} {B : Nat} {a : Option Addr} {l : List Ins} (h : IsF w B a l) (i : Nat) (v : Value) : IsF (w.setCell ⟨B, i, none⟩ v) B a l := by
  rcases h with h | ⟨g, hg, h1, c, e, f, h2, h3⟩
  · exact Or.inl h
  · exact Or.inr ⟨g, hg, h1, c, e, f, (Below.heap_setCell _ _ _ _ hg).trans h2, h3⟩
theorem IsF.put {w : World} {B : Nat} {a : Option Addr} {l : List Ins} (h : IsF w B a l) (s : RS) (a' : Option Addr) (n c : Nat) : IsF (put10 w B s a' n c) B a l := by
  unfold put10
  repeat (with_reducible refine IsF.set ?_ _ _)
  exact h
theorem SB.other {w : World} {B B' : Nat} {s : RS} {a : Option Addr} {n c : Nat} (h : SB w B' s a n c) (hne : B' ≠ B) (s' : RS) (a' : Option Addr) (n' c' : Nat) : SB (put10 w B s' a' n' c') B' s a n c := (put10_block hne).trans h
theorem SB.zero {w : World} {B : Nat} (h : w.heap[B]? = some (.cells zCells 45 (0, 0))) : SB w B RS.zero none 0 0 := h
theorem IsF.of {w : World} {B : Nat} {a : Option Addr} {l : List Ins} (h : IsL w a l) (hb : ∀ g, a = some ⟨g, 0, none⟩ → g ≠ B) : IsF w B a l := by
  rcases h with h | ⟨g, h1, h2⟩
  · exact Or.inl h
  · exact Or.inr ⟨g, hb g h1, h1, h2⟩
theorem IsN.alloc {w : World} {B : Nat} {a : Option Addr} {l : List Ins} (h : IsN w B a l) (o : Obj) : IsN (w.alloc o) B a l := by
  rcases h with h | ⟨g, hg, h1, h2⟩
  · exact Or.inl h
  · exact Or.inr ⟨g, hg, h1, h2.later ((Below.refl _ w).alloc (Nat.le_refl _) o)⟩

/-- Eight words in a block. -/
def RB (w : World) (B : Nat) (r : Nat → Int) : Prop :=
  w.heap[B]? = some (.cells #[.int .u64 (r 0), .int .u64 (r 1), .int .u64 (r 2), .int .u64 (r 3), .int .u64 (r 4), .int .u64 (r 5), .int .u64 (r 6), .int .u64 (r 7)] 43 (0, 0))
theorem RB.later {w w' : World} {B : Nat} {r : Nat → Int} (h : RB w B r) (b : Below w.heap.size w w') : RB w' B r := cells_of h b
theorem RB.lt {w : World} {B : Nat} {r : Nat → Int} (h : RB w B r) : B < w.heap.size := lt_of_block h
theorem RB.all {w : World} {B : Nat} {r : Nat → Int} (h : RB w B r) : w.cell? ⟨B, 0, none⟩ = some (.int .u64 (r 0)) ∧ w.cell? ⟨B, 1, none⟩ = some (.int .u64 (r 1)) ∧ w.cell? ⟨B, 2, none⟩ = some (.int .u64 (r 2)) ∧ w.cell? ⟨B, 3, none⟩ = some (.int .u64 (r 3)) ∧ w.cell? ⟨B, 4, none⟩ = some (.int .u64 (r 4)) ∧ w.cell? ⟨B, 5, none⟩ = some (.int .u64 (r 5)) ∧ w.cell? ⟨B, 6, none⟩ = some (.int .u64 (r 6)) ∧ w.cell? ⟨B, 7, none⟩ = some (.int .u64 (r 7)) := by
  have := cells_at h
  exact ⟨this 0, this 1, this 2, this 3, this 4, this 5, this 6, this 7⟩
theorem RB.cell {w : World} {B : Nat} {r : Nat → Int} (h : RB w B r) {k : Nat} (hk : k < 8) : w.cell? ⟨B, k, none⟩ = some (.int .u64 (r k)) := by
  obtain ⟨c0, c1, c2, c3, c4, c5, c6, c7⟩ := h.all
  rcases nat8 hk with rfl | rfl | rfl | rfl | rfl | rfl | rfl | rfl <;> assumption
theorem RB.setR {w : World} {B : Nat} {r : Nat → Int} (h : RB w B r) {k : Nat} (hk : k < 8) (v : Int) : RB (w.setCell ⟨B, k, none⟩ (.int .u64 v)) B (fun j => if j = k then v else r j) := by
  have := setb h k (.int .u64 v)
  rcases nat8 hk with rfl | rfl | rfl | rfl | rfl | rfl | rfl | rfl <;> simpa [RB] using this
/-- Eight words that are the same. -/
theorem eq8 (a0 a1 a2 a3 a4 a5 a6 a7 : Int) (w : World) : (Op.equalIn 10000 43 (.agg #[.int .u64 a0, .int .u64 a1, .int .u64 a2, .int .u64 a3, .int .u64 a4, .int .u64 a5, .int .u64 a6, .int .u64 a7]) (.agg #[.int .u64 a0, .int .u64 a1, .int .u64 a2, .int .u64 a3, .int .u64 a4, .int .u64 a5, .int .u64 a6, .int .u64 a7])).run Tryd.prog w = .ok true w := by
  have u3 := Tryd.underlying42
  have a3' := Tryd.isAgg42
  have z3 := Tryd.sizeOf42
  rw [show (10000 : Nat) = 9999 + 1 from rfl, Op.equalIn]
  simp only [Sem.run_bind, run_underlying Tryd.underlying43, Result.andThen_ok]
  simp only [Std.Legacy.Range.forIn_eq_forIn_range', Std.Legacy.Range.size, Nat.sub_zero, Nat.add_sub_cancel, Nat.div_one, List.range'_succ, List.range'_zero, List.forIn_cons, List.forIn_nil]
  go_simp
theorem stepAppend {P : Program} {ops : Array Oper} {oo : Oper} {a : Act} {w : World} {K : Act → World → Prop} {Q : Exit → Act → World → Prop} {E : Prop} (hgd : oo.guard = none) (s x : Operand) (t : TypeId)
    (ho : oo.op = .call { callee := .builtin .append, args := #[s, x], argTypes := #[t, t] }) (va vb : Value) (hs : a.eval s = va) (hx : a.eval x = vb) (ty : TypeId) (hty : oo.type = ty) {v' : Value} {w' : World} (hrun : (Builtin.append_ #[t, t] ty #[va, vb]).run P w = .ok v' w')
    (h : K (a.put oo.dst v') w') : if Region.wanted oo (yielded ops a.tmps) = true then Oper.wp P oo a w K Q else E := by
  have hw : Region.wanted oo (yielded ops a.tmps) = true := by simp [Region.wanted, hgd]
  rw [if_pos hw]
  subst hty
  unfold Oper.wp
  simp [execOp, ho, resolve, invoke, builtin, hs, hx, hrun, Result.andThen]
  exact h

/-- One more, its cells just made. -/
theorem app_one {wp : World} {base cap : Nat} {a : Option Addr} {acc : List Ins} (h0 : wp.ownsRow base 32 4 (.slice a acc.length cap) acc.length (flatI acc)) (hb : base ≤ wp.heap.size) (few : acc.length ≤ 1000) (x : Ins) :
    ∃ g c wN, (Builtin.append_ #[24, 24] 24 #[.slice a acc.length cap, .slice (some ⟨wp.heap.size, 0, none⟩) 1 1]).run Tryd.prog (wp.alloc (.cells #[.int .i64 x.op, .int .i64 x.a, .int .i64 x.b, .int .i64 x.n] 32)) = .ok (.slice (some ⟨g, 0, none⟩) (acc.length + 1) c) wN ∧
      wN.ownsRow base 32 4 (.slice (some ⟨g, 0, none⟩) (acc ++ [x]).length c) (acc ++ [x]).length (flatI (acc ++ [x])) ∧ Below base wp wN := by
  obtain ⟨i, hi, hzz⟩ := Option.map_eq_some_iff.1 (show (Tryd.prog.info? 32).map (fun i => (i.zero, i.size, i.bytes)) = some (some (insV ⟨0, 0, 0, 0⟩), 4, 32) by kernel_rfl)
  simp only [Prod.mk.injEq] at hzz
  obtain ⟨hz0, hz1, hz2⟩ := hzz
  have bA := (Below.refl wp.heap.size wp).alloc (Nat.le_refl _) (.cells #[.int .i64 x.op, .int .i64 x.a, .int .i64 x.b, .int .i64 x.n] 32)
  have h1 := own_later h0 bA
  have hnews : ∀ j u, x.vs[j]? = some u → (wp.alloc (.cells #[.int .i64 x.op, .int .i64 x.a, .int .i64 x.b, .int .i64 x.n] 32)).cell? ((⟨wp.heap.size, 0, none⟩ : Addr).add j) = some u := fun j u hu => by
    have hj : j < 4 := (List.getElem?_eq_some_iff.1 hu).1
    rcases (by omega : j = 0 ∨ j = 1 ∨ j = 2 ∨ j = 3) with rfl | rfl | rfl | rfl <;> (cases hu; simp [go_sem])
  obtain ⟨v', wN, hr, ho, hg, hn⟩ := run_append_own (P := Tryd.prog) _ base 24 24 32 i (insV ⟨0, 0, 0, 0⟩) 4 32 Tryd.underlying24 hi hz0 hz1 hz2 rfl (by decide) (.slice a acc.length cap) acc.length (flatI acc) h1 ⟨wp.heap.size, 0, none⟩ 1 1 x.vs rfl hnews
    (fun u hu => by simp [Ins.vs] at hu; rcases hu with rfl | rfl | rfl | rfl <;> rfl) (by unfold maxLen; omega) (by omega) (by simp; omega)
  have hfl : flatI acc ++ x.vs = flatI (acc ++ [x]) := by simp [flatI]
  have hll : (acc ++ [x]).length = acc.length + 1 := by simp
  obtain ⟨ho1, ho2⟩ := ho
  rcases ho2 with ⟨_, h00⟩ | ⟨g, c, cur, rfl, hgb, hcur, hc1, hc2, hc3, hc4⟩
  · omega
  · refine ⟨g, c, wN, hr, ?_, ?_⟩
    · rw [hll, ← hfl]; exact ⟨ho1, Or.inr ⟨g, c, cur, rfl, hgb, hcur, hc1, hc2, hc3, hc4⟩⟩
    · exact (bA.mono hb).grown hg (by simp; omega) (fun k hk => (h1.lt k hk).1)
theorem own_set {w : World} {base cap : Nat} {a : Option Addr} {l : List Ins} (h : w.ownsRow base 32 4 (.slice a l.length cap) l.length (flatI l)) {p : Addr} (hp : p.block < base) (v : Value) : (w.setCell p v).ownsRow base 32 4 (.slice a l.length cap) l.length (flatI l) := by
  have hg : w.grownBy (w.setCell p v) (some p.block) := ⟨rfl, rfl, rfl, by simp [World.setCell], fun k _ hk => Below.heap_setCell _ _ _ _ (fun e => hk (by rw [e]))⟩
  refine h.kept hg ?_
  cases hv : (Value.slice a l.length cap).ownBlock with
  | none => exact Or.inl rfl
  | some g => exact Or.inr (fun e => by have := (h.lt g hv).1; simp at e; omega)
theorem IsF.own {w : World} {base cap B : Nat} {a : Option Addr} {l : List Ins} (h : w.ownsRow base 32 4 (.slice a l.length cap) l.length (flatI l)) (hB : B < base) : IsF w B a l := by
  refine IsF.of (IsL.own h) (fun g hg => ?_)
  subst hg
  have := (h.lt g rfl).1
  omega
/-- append of a list to none. -/
theorem app_nil {wp : World} {g c : Nat} {l : List Ins} (h : IRow wp g l) (hn : l ≠ []) (hl : l.length ≤ 1000) :
    ∃ g' c' wN, (Builtin.append_ #[24, 24] 24 #[.slice none 0 0, .slice (some ⟨g, 0, none⟩) l.length c]).run Tryd.prog wp = .ok (.slice (some ⟨g', 0, none⟩) l.length c') wN ∧ IsN wN wp.heap.size (some ⟨g', 0, none⟩) l ∧ Below wp.heap.size wp wN := by
  obtain ⟨i, hi, hzz⟩ := Option.map_eq_some_iff.1 (show (Tryd.prog.info? 32).map (fun i => (i.zero, i.size, i.bytes)) = some (some (insV ⟨0, 0, 0, 0⟩), 4, 32) by kernel_rfl)
  simp only [Prod.mk.injEq] at hzz
  obtain ⟨hz0, hz1, hz2⟩ := hzz
  have hpos := List.length_pos_iff.2 hn
  obtain ⟨cur, te, fr, h1, h2⟩ := h
  obtain ⟨v', wN, hr, ho, hg, hnn⟩ := run_append_own (P := Tryd.prog) wp wp.heap.size 24 24 32 i (insV ⟨0, 0, 0, 0⟩) 4 32 Tryd.underlying24 hi hz0 hz1 hz2 rfl (by decide) (.slice none 0 0) 0 [] (World.ownsRow_nil wp _ _ _) ⟨g, 0, none⟩ l.length c (flatI l) (flatI_len l)
    (fun j u hu => by rw [Addr.add_mid, Nat.zero_add]; simp [World.cell?, h1, h2 j u hu])
    (fun u hu => by
      simp only [flatI, List.mem_flatMap] at hu
      obtain ⟨x, _, hu⟩ := hu
      simp [Ins.vs] at hu; rcases hu with rfl | rfl | rfl | rfl <;> rfl) (by unfold maxLen; omega) (by omega) (Nat.le_refl _)
  rw [Nat.zero_add, List.nil_append] at ho
  obtain ⟨ho1, ho2⟩ := ho
  rcases ho2 with ⟨_, h00⟩ | ⟨g', c', cur', rfl, hgb, hcur, hc1, hc2, hc3, hc4⟩
  · omega
  · rcases IsL.own (base := wp.heap.size) ⟨ho1, Or.inr ⟨g', c', cur', rfl, hgb, hcur, hc1, hc2, hc3, hc4⟩⟩ with hL | ⟨g2, hg2, hL⟩
    · exact absurd hL hn
    · cases hg2
      exact ⟨g', c', wN, hr, Or.inr ⟨g', hgb, rfl, hL⟩, ⟨hg.os, hg.tape, hg.output, hg.size, fun k hk => hg.block k hk (by simp [Value.ownBlock])⟩⟩

set_option maxRecDepth 20000 in
set_option maxHeartbeats 2000000 in
theorem wakes8 (w : World) (hV : Sh w) :
    Calls Tryd.prog 16 #[] w fun e w' => e = .returned (.bool true) ∧ Below w.heap.size w w' := by
  have hp : plainP [⟨1, 3, 0, 7⟩] RS.zero = some ((RS.zero.set 3 7).on 1) := by
    have : nextP [⟨1, 3, 0, 7⟩] 0 = some ⟨1, 3, 0, 7⟩ := by decide +kernel
    unfold plainP
    rw [show RS.zero.pc = 0 from rfl, this]; rfl
  have hb := (Below.refl _ w).alloc (Nat.le_refl _) (.cells #[.int .i64 1, .int .i64 3, .int .i64 0, .int .i64 7] 32)
  have hI := IsL.new w #[.int .i64 1, .int .i64 3, .int .i64 0, .int .i64 7] 32 [⟨1, 3, 0, 7⟩] rfl
  have hP := plain_some (n := 1) (c := 1) rfl hp hI (by decide) (by decide) (hV.later hb)
  go_enter Tryd.func16, Tryd.ntmps16
  go_wp2_with fail
  refine hP.mono ?_
  rintro e w1 ⟨a', c', rfl, hI1, b1⟩
  have B1 := past hb b1
  clear hP hI1 b1
  unfold stV
  simp only [RS.set, RS.on, RS.go, RS.zero]
  go_wp2_with fail
  go_ret
  exact ⟨rfl, B1.alloc B1.size _⟩
end Go.Proofs.YtfbmjagchjhddaaDoor
