/-
  The document's example; an item of a number; two lists alike.
-/
import Derived.Test.YtleeodpnamnnfaaTlbG
import Derived.LoopTactic
import Derived.Deep.QuietTactic
namespace Go.Proofs.Ytleeodpnamnnfaa
open Go.ChangeShapes Go.WideShapes Go.ChangeAt Go.RowKit

/-- A variable of the caller's: an item in a block that is none of the TLB's. -/
structure Box (w : World) (P : Nat) (g : Option Nat) (B : Nat) (x : It) : Prop where
  out : ¬ own P g B
  at' : w.rangeAt B 0 x.vs
  th : w.there B 0 6
namespace Box
variable {w w' : World} {P B : Nat} {g g' : Option Nat} {x : It}
theorem six (h : Box w P g B x) : w.cell? ⟨B, 0, none⟩ = some (.int .i64 x.pc) ∧ w.cell? ⟨B, 1, none⟩ = some (.int .i64 x.pg) ∧ w.cell? ⟨B, 2, none⟩ = some (.int .i64 x.fr) ∧ w.cell? ⟨B, 3, none⟩ = some (.bool x.wr) ∧ w.cell? ⟨B, 4, none⟩ = some (.bool x.us) ∧ w.cell? ⟨B, 5, none⟩ = some (.bool x.gl) := by
  have e := h.at'
  refine ⟨?_, ?_, ?_, ?_, ?_, ?_⟩
  · simpa using e 0 _ rfl
  · simpa using e 1 _ rfl
  · simpa using e 2 _ rfl
  · simpa using e 3 _ rfl
  · simpa using e 4 _ rfl
  · simpa using e 5 _ rfl
theorem lt (h : Box w P g B x) : B < w.heap.size := World.block_lt_of_cell? w _ h.six.1
theorem touch {S : Nat → Prop} (h : Box w P g B x) (t : Touch S w w') (hs : ¬ S B) : Box w' P g B x :=
  ⟨h.out, fun j v hv => touch_cell t (h.at' j v hv) hs, fun j hj => by
    have hb := t.block B h.lt hs
    obtain ⟨h1, h2⟩ := h.th j hj
    exact ⟨by rw [World.cell?_of_block hb]; exact h1, by rw [World.frozen?_of_block hb]; exact h2⟩⟩
theorem nil (h : Box w P g B x) (t : Touch Nil w w') : Box w' P g B x := h.touch t (by simp [Nil])
theorem drop (h : Box w P g B x) (t : Touch (own P g) w w') : Box w' P g B x := h.touch t h.out
theorem put (h : Box w P g B x) (t : Touch (own P g) w w') (hf : Fr w g g') : Box w' P g' B x := by
  refine ⟨?_, (h.drop t).at', (h.drop t).th⟩
  rintro (e | e)
  · exact h.out (Or.inl e)
  · rcases hf with hf | hf
    · subst hf; exact h.out (Or.inr e)
    · have h1 := hf B e
      have h2 := h.lt
      omega
theorem mk' {t : TypeId} {l : List It} (hA : TAt w P g l) (x : It) : Box (w.alloc (.cells #[.int .i64 x.pc, .int .i64 x.pg, .int .i64 x.fr, .bool x.wr, .bool x.us, .bool x.gl] t)) P g w.heap.size x := by
  refine ⟨?_, fun j v hv => ?_, (rowHas_alloc w _ t 6 (fun i => (x.vs[i]?).getD (.int .i64 0)) (by simp) (fun i hi => ?_)).there 0 6 (by omega)⟩
  · rintro (e | e)
    · have := hA.blt; omega
    · have := hA.glt _ e; omega
  · have hj : j < 6 := (List.getElem?_eq_some_iff.1 hv).1
    have e : j = 0 ∨ j = 1 ∨ j = 2 ∨ j = 3 ∨ j = 4 ∨ j = 5 := by omega
    rcases e with rfl | rfl | rfl | rfl | rfl | rfl <;> (cases hv; simp)
  · have e : i = 0 ∨ i = 1 ∨ i = 2 ∨ i = 3 ∨ i = 4 ∨ i = 5 := by omega
    rcases e with rfl | rfl | rfl | rfl | rfl | rfl <;> rfl
theorem store (h : Box w P g B x) (y : It) : Box (w.setCells B 0 y.vs) P g B y :=
  ⟨h.out, World.rangeAt_setCells_same w B 0 y.vs h.th, fun j hj => by
    have e : ∃ v, y.vs[j]? = some v := ⟨_, List.getElem?_eq_getElem (by rw [It.vs_len]; exact hj)⟩
    obtain ⟨v, hv⟩ := e
    refine ⟨by rw [World.rangeAt_setCells_same w B 0 y.vs h.th j v hv]; rfl, ?_⟩
    rw [World.frozen?_setCells]; exact (h.th j hj).2⟩
end Box

set_option maxHeartbeats 1000000 in
theorem wakes6_any (w : World) : Calls Try.prog 16 #[] w fun e w' => e = .returned (.bool true) ∧ Touch Nil w w' := by
  have e1 : finds 1 1 [] = false := rfl
  have e2 : put ⟨1, 2, 3, false, false, false⟩ [] = [⟨1, 2, 3, false, false, false⟩] := rfl
  have e3 : found 1 2 [⟨1, 2, 3, false, false, false⟩] = ⟨1, 2, 3, false, false, false⟩ := rfl
  have e4 : finds 1 2 [⟨1, 2, 3, false, false, false⟩] = true := rfl
  have e5 : found 1 1 [] = It.zero := rfl
  go_enter Try.func16, Try.ntmps16
  go_wp2_with (first
    | (go_at_call 8; refine (tnew_any _).mono ?_; rintro e w1 ⟨rfl, hA, hT, hS⟩)
    | (go_at_call_has 11 (Value.int .i64 2); refine (tfind_any hA3 _ _).mono ?_; rintro e w4 ⟨rfl, hT4⟩)
    | (go_at_call 11; refine (tfind_any hA _ _).mono ?_; rintro e w2 ⟨rfl, hT2⟩)
    | (go_at_call 10; refine (tput_any (hA.nil (hT2.alloc _)) ⟨1, 2, 3, false, false, false⟩).mono ?_; rintro e w3 ⟨rfl, g3, hA3, hT3, _⟩; rw [e2] at hA3)
    | (go_at_call 14; refine (tlist_any (hA3.nil (hT4.alloc _))).mono ?_; rintro e w5 ⟨a5, cap5, rfl, _, _, _, hT5⟩))
  go_ret
  refine ⟨rfl, ?_⟩
  have t1 : Touch Nil w w2 := hT.trans hT2
  have t3 : Touch Nil w w3 := (t1.alloc _).transNew hT3 (fun i hi e => by
    rcases e with e | e
    · omega
    · cases e)
  exact ((t3.trans hT4).alloc _).trans hT5

theorem results_box1 {P : Program} {fn : Func} {p : Tmp} {ty : TypeId} (h : fn.results = #[.cell p ty]) (tmps : Array Value) (w : World) (B : Nat) (x : It) (hp : tmps.getD p undef = .pointer (some ⟨B, 0, none⟩)) (hr : w.rangeAt B 0 x.vs)
    (hty : ∃ d, P.underlying ty = some d ∧ d.isRow = true ∧ (P.info? ty).map (·.size) = some 6) : (results fn tmps).run P w = .ok x.V w := by
  obtain ⟨d, hu, hd, hi⟩ := hty
  have := run_loadVar_mid (P := P) w B 0 ty x.vs d hr hu hd hi
  have e : (results fn tmps).run P w = ((asAddr (tmps.getD p undef)).run P w).andThen fun a w₁ => (loadVar ty a).run P w₁ := by
    simp only [results, h]
    simp [Sem.run_bind, Result.andThen]
  rw [e, hp]
  simp [asAddr, this, Result.andThen]
  rfl
theorem box_range (w : World) (x : It) (t : TypeId) : (w.alloc (.cells #[.int .i64 x.pc, .int .i64 x.pg, .int .i64 x.fr, .bool x.wr, .bool x.us, .bool x.gl] t)).rangeAt w.heap.size 0 x.vs := fun j v hv => by
  have hj : j < 6 := (List.getElem?_eq_some_iff.1 hv).1
  have e : j = 0 ∨ j = 1 ∨ j = 2 ∨ j = 3 ∨ j = 4 ∨ j = 5 := by omega
  rcases e with rfl | rfl | rfl | rfl | rfl | rfl <;> (cases hv; simp)

/-- An item of a number. -/
def itemV (n : Int) : It := ⟨n % 3, n.tdiv 3 % 5, n.tdiv 15 % 9, n.tmod 2 == 0, n.tmod 5 != 0, n.tmod 7 == 0⟩

set_option maxHeartbeats 1000000 in
theorem item_any (w : World) (n : Int) (h1 : -9223372036854775808 ≤ n) (h2 : n < 9223372036854775808) :
    Calls Try.prog 17 #[.int .i64 n] w fun e w' => e = .returned (itemV n).V ∧ Touch Nil w w' := by
  have q3 := tdiv_two n 3 (by omega)
  have q15 := tdiv_two n 15 (by omega)
  have w3 : IntKind.i64.wrap (n.tdiv 3) = n.tdiv 3 := by rw [IntKind.wrap_i64]; omega
  have w15 : IntKind.i64.wrap (n.tdiv 15) = n.tdiv 15 := by rw [IntKind.wrap_i64]; omega
  clear q3 q15
  go_enter Try.func17, Try.ntmps17
  go_wp2_with (go_at_call 9; refine (within_any _ _ _ (by omega) (by omega)).mono ?_; rintro e wq ⟨rfl, rfl⟩)
  refine bodyPost_ret (results_box1 rfl _ _ w.heap.size (itemV n) rfl (box_range w (itemV n) _) ty_item) rfl ?_
  exact ⟨rfl, (Touch.refl Nil w).alloc _⟩

set_option maxHeartbeats 1000000 in
theorem isame_yes {w : World} {a b : Option Addr} {cap cap' : Nat} {l : List It} (hl : LAt 26 w a cap l) (hk : LAt 26 w b cap' l) (h9 : l.length ≤ 9) :
    Calls Try.prog 26 #[.slice a l.length cap, .slice b l.length cap'] w fun e w' => e = .returned (.bool true) ∧ Touch Nil w w' := by
  go_enter Try.func26, Try.ntmps26
  go_wp2
  go_loopw [5] (fun v wr => ∃ j : Nat, j ≤ l.length ∧ v = .int .i64 j ∧ Touch Nil w wr) (fun v _ => l.length - (intOf v).toNat)
  case atStart => exact ⟨0, by omega, rfl, Touch.refl _ _⟩
  case round =>
    obtain ⟨j, hj, rfl, hT⟩ := hrel
    by_cases hlt : j < l.length
    · have j1 : (j : Int) < l.length := by omega
      rcases hl with ⟨_, _, rfl⟩ | ⟨g, o, rfl, hl⟩
      · simp at hlt
      rcases hk with ⟨_, _, rfl⟩ | ⟨g', o', rfl, hk⟩
      · simp at hlt
      have hy : l[j]? = some l[j] := List.getElem?_eq_getElem hlt
      generalize l[j] = y at hy
      obtain ⟨c0, c1, c2, c3, c4, c5⟩ := (hl.touch hT (by simp [Nil])).six hy
      obtain ⟨d0, d1, d2, d3, d4, d5⟩ := (hk.touch hT (by simp [Nil])).six hy
      go_wp2
      go_quiet (fail)
      go_wp2
      go_roundw
      case rel => exact ⟨j + 1, by omega, by go_num, hT.drews _⟩
      case measure => simp [intOf]; omega
    · have hjn : j = l.length := by omega
      subst hjn
      go_wp2
      go_ret
      exact ⟨rfl, hT⟩
end Go.Proofs.Ytleeodpnamnnfaa
