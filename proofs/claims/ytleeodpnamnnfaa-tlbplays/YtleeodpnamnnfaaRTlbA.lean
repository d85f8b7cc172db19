/-
  The document's own TLB: what is found.
-/
import Derived.Test.YtleeodpnamnnfaaTlbI
import Derived.Deep.CutBlock
namespace Go.Proofs.Ytleeodpnamnnfaa
open Go.ChangeShapes Go.WideShapes Go.ChangeAt Go.RowKit

/-- The document's TLB at block r holds l, in blocks from lo on. -/
def RT (w : World) (lo r : Nat) (l : List It) : Prop :=
  l.length ≤ 8 ∧ ∃ a cap, w.rowIs r 41 1 (fun _ => .slice a l.length cap) ∧ LAt 44 w a cap l ∧ ∀ k, blk a k → lo ≤ k
theorem RT.low {w : World} {lo lo' r : Nat} {l : List It} (h : RT w lo r l) (hl : lo' ≤ lo) : RT w lo' r l := by
  obtain ⟨h1, a, cap, h2, h3, h4⟩ := h
  exact ⟨h1, a, cap, h2, h3, fun k hk => Nat.le_trans hl (h4 k hk)⟩
theorem RT.lt {w : World} {lo r : Nat} {l : List It} (h : RT w lo r l) : r < w.heap.size := by
  obtain ⟨h1, a, cap, h2, h3, h4⟩ := h
  exact h2.lt
theorem RT.touch {w w' : World} {lo r : Nat} {l : List It} {S : Nat → Prop} (h : RT w lo r l) (t : Touch S w w') (h1 : ¬ S r) (h2 : ∀ k n f, w.rowIs k 44 n f → ¬ S k) : RT w' lo r l := by
  obtain ⟨h8, a, cap, hr, hL, hb⟩ := h
  refine ⟨h8, a, cap, t.row hr h1, hL.touch t ?_, hb⟩
  rintro k ⟨p, rfl, rfl⟩
  rcases hL with ⟨e, _⟩ | ⟨g, o, e, hL⟩
  · cases e
  · cases e
    obtain ⟨n, f, h3⟩ := hL.rowHas0
    exact h2 _ n f h3
theorem RT.nil {w w' : World} {lo r : Nat} {l : List It} (h : RT w lo r l) (t : Touch Nil w w') : RT w' lo r l := h.touch t (by simp [Nil]) (by simp [Nil])

theorem found_at {pcid page : Int} {l : List It} {j : Nat} {y : It} (hy : l[j]? = some y) (hs : y.serves pcid page = true) (hn : ∀ x ∈ l.take j, x.serves pcid page = false) : found pcid page l = y ∧ finds pcid page l = true := by
  obtain ⟨hj, hy'⟩ := List.getElem?_eq_some_iff.1 hy
  refine ⟨?_, List.any_eq_true.2 ⟨y, List.mem_of_getElem? hy, hs⟩⟩
  have : findI pcid page l = some y := by
    unfold findI
    rw [List.find?_eq_some_iff_getElem]
    refine ⟨hs, j, hj, hy', fun i hi => ?_⟩
    have := hn l[i] (by rw [List.mem_take_iff_getElem]; exact ⟨i, by omega, rfl⟩)
    simp [this]
  unfold found; rw [this]; rfl
theorem found_no {pcid page : Int} {l : List It} (hn : ∀ x ∈ l, x.serves pcid page = false) : found pcid page l = It.zero ∧ finds pcid page l = false := by
  have : findI pcid page l = none := by
    unfold findI
    rw [List.find?_eq_none]
    intro x hx
    simp [hn x hx]
  refine ⟨by unfold found; rw [this]; rfl, ?_⟩
  unfold finds
  rw [List.any_eq_false]
  intro x hx
  simp [hn x hx]
theorem take_snoc {l : List It} {j : Nat} {y x : It} (hy : l[j]? = some y) (hx : x ∈ l.take (j + 1)) : x ∈ l.take j ∨ x = y := by
  rw [List.take_add_one, hy] at hx
  simpa using hx
theorem ty_ritem : ∃ d, Try.prog.underlying 44 = some d ∧ d.isRow = true ∧ (Try.prog.info? 44).map (·.size) = some 6 := ⟨_, rfl, rfl, by kernel_rfl⟩
theorem box_there {w w1 : World} {x : It} {t : TypeId} (h : Touch Nil (w.alloc (.cells #[.int .i64 x.pc, .int .i64 x.pg, .int .i64 x.fr, .bool x.wr, .bool x.us, .bool x.gl] t)) w1) : w1.there w.heap.size 0 6 := by
  refine ((rowHas_alloc w #[.int .i64 x.pc, .int .i64 x.pg, .int .i64 x.fr, .bool x.wr, .bool x.us, .bool x.gl] t 6 (fun i => (x.vs[i]?).getD (.int .i64 0)) (by simp) (fun i hi => ?_)).touch h (by simp [Nil])).there 0 6 (by omega)
  have e : i = 0 ∨ i = 1 ∨ i = 2 ∨ i = 3 ∨ i = 4 ∨ i = 5 := by omega
  rcases e with rfl | rfl | rfl | rfl | rfl | rfl <;> rfl
theorem box_range' {w w1 : World} {x : It} {t : TypeId} (h : Touch Nil (w.alloc (.cells #[.int .i64 x.pc, .int .i64 x.pg, .int .i64 x.fr, .bool x.wr, .bool x.us, .bool x.gl] t)) w1) : w1.rangeAt w.heap.size 0 x.vs := fun j v hv =>
  touch_cell h (box_range w x t j v hv) (by simp [Nil])
theorem It.serves_eq (x : It) (c d : Int) : x.serves c d = ((x.pg == d) && ((x.pc == c) || x.gl)) := rfl
theorem It.ofName_eq (x : It) (c : Int) : x.ofName c = ((x.pc == c) && !x.gl) := rfl

set_option maxHeartbeats 1000000 in
theorem rfind_any {w : World} {lo r : Nat} {l : List It} (h : RT w lo r l) (pcid page : Int) :
    Calls Try.prog 25 #[.pointer (some ⟨r, 0, none⟩), .int .i64 pcid, .int .i64 page] w fun e w' => e = .returned (.tuple #[(found pcid page l).V, .bool (finds pcid page l)]) ∧ Touch Nil w w' := by
  obtain ⟨h8, a, cap, hr, hL, _⟩ := h
  have c0 := hr.cell (i := 0) (by omega)
  have hlt := hr.lt
  have hne : r ≠ w.heap.size := by omega
  go_enter Try.func25, Try.ntmps25
  go_upto_block 0 with fail
  go_wp2_with fail
  clear c0 hr hlt hne
  go_loopg [15] l.length (fun g i wr => ∃ j : Nat, g + j = l.length ∧ i = .int .i64 j ∧ Aside (∀ x ∈ l.take j, x.serves pcid page = false) ∧ Aside (Touch Nil (w.alloc (.cells #[.int .i64 It.zero.pc, .int .i64 It.zero.pg, .int .i64 It.zero.fr, .bool It.zero.wr, .bool It.zero.us, .bool It.zero.gl] 44)) wr))
  case atStart => exact ⟨0, by omega, rfl, (fun x hx => by simp at hx), Touch.refl _ _⟩
  case round =>
    obtain ⟨j, hgj, rfl, hn, hT⟩ := hrel
    have hT0 : Touch Nil w wr := ((Touch.refl Nil w).alloc _).trans hT.out
    by_cases hlt : j < l.length
    · have j1 : (j : Int) < (l.length : Int) := by omega
      obtain ⟨b2, o2, rfl, L2⟩ := LAt.row hL (by intro h; rw [h] at hlt; simp at hlt)
      have hy : l[j]? = some l[j] := List.getElem?_eq_getElem hlt
      generalize l[j] = y at hy
      obtain ⟨c0, c1, c2, c3, c4, c5⟩ := (L2.touch hT0 (by simp [Nil])).six hy
      have hTy := hT.out.alloc (.cells #[.int .i64 y.pc, .int .i64 y.pg, .int .i64 y.fr, .bool y.wr, .bool y.us, .bool y.gl] 44)
      have hth : (wr.alloc (.cells #[.int .i64 y.pc, .int .i64 y.pg, .int .i64 y.fr, .bool y.wr, .bool y.us, .bool y.gl] 44)).there w.heap.size 0 (#[.int .i64 y.pc, .int .i64 y.pg, .int .i64 y.fr, .bool y.wr, .bool y.us, .bool y.gl] : Array Value).size := box_there hTy
      have hTw : Touch Nil w (wr.alloc (.cells #[.int .i64 y.pc, .int .i64 y.pg, .int .i64 y.fr, .bool y.wr, .bool y.us, .bool y.gl] 44)) := hT0.alloc _
      go_upto_region 4 with fail
      go_cut [32] (fun v wx => v = .bool (y.serves pcid page) ∧ wx = wr.alloc (.cells #[.int .i64 y.pc, .int .i64 y.pg, .int .i64 y.fr, .bool y.wr, .bool y.us, .bool y.gl] 44))
      case first =>
        cases hb : (y.pg == page)
        · go_wp2
          go_meet
          exact ⟨by rw [It.serves_eq, hb]; rfl, rfl⟩
        · cases hc : (y.pc == pcid)
          · go_wp2
            go_meet
            exact ⟨by rw [It.serves_eq, hb, hc]; rfl, rfl⟩
          · go_wp2
            go_meet
            exact ⟨by rw [It.serves_eq, hb, hc]; rfl, rfl⟩
      case rest =>
      obtain ⟨rfl, rfl⟩ := hcut
      cases hs : y.serves pcid page
      · go_wp2
        go_roundg (l.length - (j + 1))
        case measure => omega
        case rel =>
          refine ⟨j + 1, by omega, by go_num, fun x hx => ?_, hTy⟩
          rcases take_snoc hy hx with hx | rfl
          · exact hn.out x hx
          · exact hs
      · have hfo : Aside (found pcid page l = y ∧ finds pcid page l = true) := found_at hy hs hn.out
        go_wp2_with (refine wpList_store_mid rfl 44 _ _ rfl w.heap.size 0 #[.int .i64 y.pc, .int .i64 y.pg, .int .i64 y.fr, .bool y.wr, .bool y.us, .bool y.gl] (by rfl) (by rfl) (by exact hth) (by kernel_rfl) (by kernel_rfl) ?_)
        refine bodyPost_ret (results_box rfl _ _ w.heap.size y rfl (World.rangeAt_setCells_same _ _ _ y.vs hth) ty_ritem) rfl ?_
        rw [hfo.out.1, hfo.out.2]
        exact ⟨rfl, hTw.setNews (Nat.le_refl _) _ _⟩
    · obtain rfl : j = l.length := by omega
      have j1 : ¬ ((l.length : Int) < (l.length : Int)) := by omega
      have hfo : Aside (found pcid page l = It.zero ∧ finds pcid page l = false) := found_no (pcid := pcid) (page := page) (l := l) (by have := hn.out; rwa [List.take_length] at this)
      have hth : wr.there w.heap.size 0 (#[.int .i64 It.zero.pc, .int .i64 It.zero.pg, .int .i64 It.zero.fr, .bool It.zero.wr, .bool It.zero.us, .bool It.zero.gl] : Array Value).size := box_there hT.out
      go_wp2_with (refine wpList_store_mid rfl 44 _ _ rfl w.heap.size 0 #[.int .i64 It.zero.pc, .int .i64 It.zero.pg, .int .i64 It.zero.fr, .bool It.zero.wr, .bool It.zero.us, .bool It.zero.gl] (by rfl) (by rfl) (by exact hth) (by kernel_rfl) (by kernel_rfl) ?_)
      refine bodyPost_ret (results_box rfl _ _ w.heap.size It.zero rfl (World.rangeAt_setCells_same _ _ _ It.zero.vs hth) ty_ritem) rfl ?_
      rw [hfo.out.1, hfo.out.2]
      exact ⟨rfl, hT0.setNews (Nat.le_refl _) _ _⟩
end Go.Proofs.Ytleeodpnamnnfaa
