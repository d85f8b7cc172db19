/-
  A TLB in memory, and what its calls come to.
-/
import Derived.Test.YtleeodpnamnnfaaTlbD
import Derived.Laws.ResultCell
namespace Go.Proofs.Ytleeodpnamnnfaa
open Go.ChangeShapes Go.WideShapes Go.ChangeAt Go.RowKit

/-- The TLB at block b holds l; g is the block of its list. -/
def TAt (w : World) (b : Nat) (g : Option Nat) (l : List It) : Prop :=
  l.length ≤ 8 ∧ ((g = none ∧ l = [] ∧ w.rowIs b 52 1 (fun _ => .slice none 0 0)) ∨ ∃ k cap, g = some k ∧ w.rowIs b 52 1 (fun _ => .slice (some ⟨k, 0, none⟩) l.length cap) ∧ LRow 26 w k 0 cap l)
def own (b : Nat) (g : Option Nat) (k : Nat) : Prop := k = b ∨ g = some k
/-- The list's block is the same, or new. -/
def Fr (w : World) (g g' : Option Nat) : Prop := g' = g ∨ ∀ k, g' = some k → w.heap.size ≤ k

theorem LRow.rowHas0 {ty : TypeId} {w : World} {g o cap : Nat} {l : List It} (h : LRow ty w g o cap l) : ∃ n f, w.rowIs g ty n f := by
  obtain ⟨h1, h2, m, f, ⟨n, f', h3, h4, h5⟩, _⟩ := h
  exact ⟨n, f', h4⟩
theorem TAt.blt {w : World} {b : Nat} {g : Option Nat} {l : List It} (h : TAt w b g l) : b < w.heap.size := by
  obtain ⟨_, ⟨_, _, h⟩ | ⟨k, cap, _, h, _⟩⟩ := h <;> exact h.lt
theorem TAt.glt {w : World} {b : Nat} {g : Option Nat} {l : List It} (h : TAt w b g l) : ∀ k, g = some k → k < w.heap.size := by
  obtain ⟨_, ⟨rfl, _, h⟩ | ⟨k, cap, rfl, h, h2⟩⟩ := h
  · intro k hk; cases hk
  · intro k hk; cases hk; exact h2.lt
theorem TAt.ne {w : World} {b : Nat} {g : Option Nat} {l : List It} (h : TAt w b g l) : g ≠ some b := by
  obtain ⟨_, ⟨rfl, _, h⟩ | ⟨k, cap, rfl, h, h2⟩⟩ := h
  · intro hk; cases hk
  · obtain ⟨n, f, h3⟩ := h2.rowHas0
    intro hk; cases hk
    exact rowIs_ne h h3 (by decide) rfl
theorem TAt.touch {w w' : World} {b : Nat} {g : Option Nat} {l : List It} {S : Nat → Prop} (h : TAt w b g l) (t : Touch S w w') (hs : ∀ k, own b g k → ¬ S k) : TAt w' b g l := by
  obtain ⟨h0, ⟨rfl, h1, h⟩ | ⟨k, cap, rfl, h, h2⟩⟩ := h
  · exact ⟨h0, Or.inl ⟨rfl, h1, t.row h (hs b (Or.inl rfl))⟩⟩
  · exact ⟨h0, Or.inr ⟨k, cap, rfl, t.row h (hs b (Or.inl rfl)), h2.touch t (hs k (Or.inr rfl))⟩⟩
theorem TAt.nil {w w' : World} {b : Nat} {g : Option Nat} {l : List It} (h : TAt w b g l) (t : Touch Nil w w') : TAt w' b g l := h.touch t (by simp [Nil])
theorem TAt.is {w : World} {b : Nat} {g : Option Nat} {l k : List It} (h : TAt w b g l) (e : l = k) : TAt w b g k := e ▸ h

theorem tnew_any (w : World) : Calls Try.prog 8 #[] w fun e w' => e = .returned (.pointer (some ⟨w.heap.size, 0, none⟩)) ∧ TAt w' w.heap.size none [] ∧ Touch Nil w w' ∧ w'.heap.size = w.heap.size + 1 := by
  go_enter Try.func8, Try.ntmps8
  go_wp2
  go_ret
  refine ⟨rfl, ⟨by simp, Or.inl ⟨rfl, rfl, World.rowIs_alloc w _ _ _ (fun i hi => ?_)⟩⟩, (Touch.refl Nil w).alloc _, by simp⟩
  have : i = 0 := by simpa using hi
  subst this; rfl

/-- What Find hands out. -/
def found (pcid page : Int) (l : List It) : It := (findI pcid page l).getD It.zero
def finds (pcid page : Int) (l : List It) : Bool := l.any (fun x => x.serves pcid page)

theorem enter_find : ∀ args w, (callFunc 28 args).run Try.prog w = .ok (.enter 28 args) w := Go.Proofs.enters_of Try.func28 (by kernel_rfl) rfl
theorem enter_page : ∀ args w, (callFunc 32 args).run Try.prog w = .ok (.enter 32 args) w := Go.Proofs.enters_of Try.func32 (by kernel_rfl) rfl
theorem enter_name : ∀ args w, (callFunc 31 args).run Try.prog w = .ok (.enter 31 args) w := Go.Proofs.enters_of Try.func31 (by kernel_rfl) rfl

theorem touch_cell {S : Nat → Prop} {w w' : World} {a : Addr} {v : Value} (t : Touch S w w') (hc : w.cell? a = some v) (hs : ¬ S a.block) : w'.cell? a = some v := by
  have := t.block a.block (World.block_lt_of_cell? w _ hc) hs
  rw [World.cell?_of_block this]; exact hc

theorem pred_find {w : World} {pcid page : Int} {B C : Nat} {S : Nat → Prop} (hB : w.cell? ⟨B, 0, none⟩ = some (.int .i64 pcid)) (hC : w.cell? ⟨C, 0, none⟩ = some (.int .i64 page)) (hs : ¬ S B) (hs' : ¬ S C) :
    PredT 28 #[.pointer (some ⟨B, 0, none⟩), .pointer (some ⟨C, 0, none⟩)] (fun x => x.serves pcid page) S w :=
  fun _ x t => findf_any x pcid page B C (touch_cell t hB hs) (touch_cell t hC hs')
theorem pred_page {w : World} {pcid page : Int} {B C : Nat} {S : Nat → Prop} (hB : w.cell? ⟨B, 0, none⟩ = some (.int .i64 pcid)) (hC : w.cell? ⟨C, 0, none⟩ = some (.int .i64 page)) (hs : ¬ S B) (hs' : ¬ S C) :
    PredT 32 #[.pointer (some ⟨B, 0, none⟩), .pointer (some ⟨C, 0, none⟩)] (fun x => x.serves pcid page) S w :=
  fun _ x t => pagef_any x pcid page B C (touch_cell t hB hs) (touch_cell t hC hs')
theorem pred_name {w : World} {pcid : Int} {B : Nat} {S : Nat → Prop} (hB : w.cell? ⟨B, 0, none⟩ = some (.int .i64 pcid)) (hs : ¬ S B) :
    PredT 31 #[.pointer (some ⟨B, 0, none⟩)] (fun x => x.ofName pcid) S w :=
  fun _ x t => namef_any x pcid B (touch_cell t hB hs)

theorem results_box {P : Program} {fn : Func} {p u : Tmp} {ty : TypeId} (h : fn.results = #[.cell p ty, .tmp u]) (tmps : Array Value) (w : World) (B : Nat) (x : It) (hp : tmps.getD p undef = .pointer (some ⟨B, 0, none⟩)) (hr : w.rangeAt B 0 x.vs)
    (hty : ∃ d, P.underlying ty = some d ∧ d.isRow = true ∧ (P.info? ty).map (·.size) = some 6) : (results fn tmps).run P w = .ok (.tuple #[x.V, tmps.getD u undef]) w := by
  obtain ⟨d, hu, hd, hi⟩ := hty
  rw [results_cell_tmp h, hp]
  have := run_loadVar_mid (P := P) w B 0 ty x.vs d hr hu hd hi
  simp [asAddr, this, Result.andThen]
  rfl
theorem ty_item : ∃ d, Try.prog.underlying 26 = some d ∧ d.isRow = true ∧ (Try.prog.info? 26).map (·.size) = some 6 := ⟨_, rfl, rfl, by kernel_rfl⟩
theorem Touch.setNews {S : Nat → Prop} {w w' : World} (h : Touch S w w') {b : Nat} (hb : w.heap.size ≤ b) : ∀ (vs : List Value) (o : Nat), Touch S w (w'.setCells b o vs) := by
  intro vs
  induction vs generalizing w' with
  | nil => intro _; exact h
  | cons v r ih => intro o; exact ih (h.setNew (p := ⟨b, o, none⟩) hb v) (o + 1)

/-- As Find begins: its two arguments, and room for what it hands out. -/
abbrev W3 (w : World) (pcid page : Int) (t : TypeId) : World := ((w.alloc (.cells #[.int .i64 pcid] 3)).alloc (.cells #[.int .i64 page] 3)).alloc (.cells #[.int .i64 0, .int .i64 0, .int .i64 0, .bool false, .bool false, .bool false] t)
theorem W3.row {w : World} {pcid page : Int} {t : TypeId} : rowHas (W3 w pcid page t) (w.heap.size + 1 + 1) t 6 (fun i => (It.zero.vs[i]?).getD (.int .i64 0)) := by
  have hr : rowHas (W3 w pcid page t) ((w.alloc (.cells #[.int .i64 pcid] 3)).alloc (.cells #[.int .i64 page] 3)).heap.size t 6 (fun i => (It.zero.vs[i]?).getD (.int .i64 0)) :=
    rowHas_alloc _ _ _ _ _ (by simp) (fun i hi => by
      have e : i = 0 ∨ i = 1 ∨ i = 2 ∨ i = 3 ∨ i = 4 ∨ i = 5 := by omega
      rcases e with rfl | rfl | rfl | rfl | rfl | rfl <;> rfl)
  rwa [show ((w.alloc (.cells #[.int .i64 pcid] 3)).alloc (.cells #[.int .i64 page] 3)).heap.size = w.heap.size + 1 + 1 by simp] at hr
theorem W3.range {w : World} {pcid page : Int} {t : TypeId} : (W3 w pcid page t).rangeAt (w.heap.size + 1 + 1) 0 It.zero.vs := fun j v hv => by
  have hj : j < 6 := (List.getElem?_eq_some_iff.1 hv).1
  rw [Nat.zero_add, W3.row.cell hj, hv]; rfl
theorem W3.there {w w1 : World} {pcid page : Int} {t : TypeId} (h : Touch Nil (W3 w pcid page t) w1) : w1.there (w.heap.size + 1 + 1) 0 6 :=
  (W3.row.touch h (by simp [Nil])).there 0 6 (by omega)

set_option maxHeartbeats 1000000 in
theorem tfind_any {w : World} {b : Nat} {g : Option Nat} {l : List It} (h : TAt w b g l) (pcid page : Int) :
    Calls Try.prog 11 #[.pointer (some ⟨b, 0, none⟩), .int .i64 pcid, .int .i64 page] w fun e w' => e = .returned (.tuple #[(found pcid page l).V, .bool (finds pcid page l)]) ∧ Touch Nil w w' := by
  have hT : Touch Nil w (W3 w pcid page 26) := (((Touch.refl Nil w).alloc _).alloc _).alloc _
  have hp := pred_find (w := W3 w pcid page 26) (pcid := pcid) (page := page) (B := w.heap.size) (C := w.heap.size + 1) (S := Nil) (touch_cell (w := (w.alloc (.cells #[.int .i64 pcid] 3)).alloc (.cells #[.int .i64 page] 3)) ((Touch.refl Nil _).alloc _) (by simp) (by simp [Nil])) (touch_cell (w := (w.alloc (.cells #[.int .i64 pcid] 3)).alloc (.cells #[.int .i64 page] 3)) ((Touch.refl Nil _).alloc _) (by simp) (by simp [Nil])) (by simp [Nil]) (by simp [Nil])
  have hb := h.blt
  have hb1 : b ≠ w.heap.size := by omega
  have hb2 : b ≠ w.heap.size + 1 := by omega
  have hb3 : b ≠ w.heap.size + 1 + 1 := by omega
  obtain ⟨h0, ⟨rfl, rfl, h⟩ | ⟨k, cap, rfl, h, h2⟩⟩ := h
  · have c0 := h.cell (i := 0) (by omega)
    have c0' := touch_cell hT c0 (by simp [Nil])
    dsimp only [W3] at c0'
    clear h hp
    go_enter Try.func11, Try.ntmps11
    go_wp2_with (go_at_call 27; refine (indexf_nil _).mono ?_; rintro e w1 ⟨rfl, rfl⟩)
    refine bodyPost_ret (results_box rfl _ _ (w.heap.size + 1 + 1) It.zero rfl W3.range ty_item) rfl ?_
    exact ⟨rfl, hT⟩
  · have c0 := h.cell (i := 0) (by omega)
    have c0' := touch_cell hT c0 (by simp [Nil])
    dsimp only [W3] at c0'
    have hidx := indexf_row (h2.touch hT (by simp [Nil])) (by omega) _ _ _ enter_find hp
    by_cases ha : l.any (fun x => x.serves pcid page) = true
    · obtain ⟨x0, hx0m, hx0p⟩ := List.any_eq_true.1 ha
      have hk0 : l.findIdx (fun x => x.serves pcid page) < l.length := List.findIdx_lt_length_of_exists ⟨x0, hx0m, hx0p⟩
      have hf : fidx (fun x => x.serves pcid page) l = (l.findIdx (fun x => x.serves pcid page) : Int) := if_pos ha
      have hfound : l[l.findIdx (fun x => x.serves pcid page)]? = some (found pcid page l) := by
        have : findI pcid page l = some l[l.findIdx (fun x => x.serves pcid page)] := by
          unfold findI; rw [List.find?_eq_some_iff_getElem]
          refine ⟨List.findIdx_getElem (w := hk0), _, hk0, rfl, fun j hj => ?_⟩
          have := List.not_of_lt_findIdx hj
          simpa using this
        unfold found
        rw [this]
        exact List.getElem?_eq_getElem hk0
      have hfi : finds pcid page l = true := ha
      rw [hf] at hidx
      rw [hfi]
      clear hf ha hx0m hx0p hp
      generalize l.findIdx (fun x => x.serves pcid page) = i at *
      generalize found pcid page l = y at *
      have hi : (i : Int) < (l.length : Int) := by omega
      go_enter Try.func11, Try.ntmps11
      go_wp2_with (first
        | (go_at_call 27; refine hidx.mono ?_; rintro e w1 ⟨rfl, hT1⟩
           have hT2 := hT.trans hT1; have c1 := touch_cell hT2 c0 (by simp [Nil]); obtain ⟨d0, d1, d2, d3, d4, d5⟩ := (h2.touch hT2 (by simp [Nil])).six0 hfound
           have hth : w1.there (w.heap.size + 1 + 1) 0 (#[.int .i64 y.pc, .int .i64 y.pg, .int .i64 y.fr, .bool y.wr, .bool y.us, .bool y.gl] : Array Value).size := W3.there hT1)
        | (refine wpList_store_mid rfl 26 _ _ rfl (w.heap.size + 1 + 1) 0 #[.int .i64 y.pc, .int .i64 y.pg, .int .i64 y.fr, .bool y.wr, .bool y.us, .bool y.gl] (by rfl) (by rfl) (by exact hth) (by kernel_rfl) (by kernel_rfl) ?_))
      refine bodyPost_ret (results_box rfl _ _ (w.heap.size + 1 + 1) y rfl (World.rangeAt_setCells_same _ _ _ y.vs hth) ty_item) rfl ?_
      exact ⟨rfl, hT2.setNews (by omega) _ _⟩
    · have hf : fidx (fun x => x.serves pcid page) l = -1 := if_neg ha
      have hfi : finds pcid page l = false := by simpa [finds] using ha
      have hfo : found pcid page l = It.zero := by
        have : findI pcid page l = none := by
          unfold findI; rw [List.find?_eq_none]
          intro x hx hp
          exact ha (List.any_eq_true.2 ⟨x, hx, hp⟩)
        unfold found; rw [this]; rfl
      rw [hf] at hidx
      rw [hfi, hfo]
      clear hf ha hp
      go_enter Try.func11, Try.ntmps11
      go_wp2_with (first
        | (go_at_call 27; refine hidx.mono ?_; rintro e w1 ⟨rfl, hT1⟩
           have hT2 := hT.trans hT1
           have hth : w1.there (w.heap.size + 1 + 1) 0 (#[.int .i64 0, .int .i64 0, .int .i64 0, .bool false, .bool false, .bool false] : Array Value).size := W3.there hT1)
        | (refine wpList_store_mid rfl 26 _ _ rfl (w.heap.size + 1 + 1) 0 #[.int .i64 0, .int .i64 0, .int .i64 0, .bool false, .bool false, .bool false] (by rfl) (by rfl) (by exact hth) (by kernel_rfl) (by kernel_rfl) ?_))
      refine bodyPost_ret (results_box rfl _ _ (w.heap.size + 1 + 1) It.zero rfl (World.rangeAt_setCells_same _ _ _ It.zero.vs hth) ty_item) rfl ?_
      exact ⟨rfl, hT2.setNews (by omega) _ _⟩
end Go.Proofs.Ytleeodpnamnnfaa
