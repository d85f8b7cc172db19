/-
  A process's tables: what is there, what is missing.
-/
import Derived.Test.YtoododpeoffieaaMemFx
import Derived.Test.YtoododpeoffieaaEntAx
import Derived.Test.YtoododpeoffieaaKeepx
import Derived.Deep.LoopGhost
import Derived.Deep.DeepCutAuto
import Derived.Deep.CutBlock
namespace Go.Proofs.Ytoododpeoffieaa
open Go.ChangeShapes Go.WideShapes Go.ChangeAt Go.RowKit

/-- A space, as plain functions: its owner, its roots, its upper tables, its last ones. -/
structure SS where
  own : Int
  kern : Int
  user : Int
  up : Nat → Int
  la : Nat → Int
/-- Its cells. -/
def SS.cell (b p : Nat) (s : SS) (i : Nat) : Value :=
  if i = 0 then .pointer (some ⟨b, 0, none⟩) else if i = 1 then .pointer (some ⟨p, 0, none⟩) else if i = 2 then .int .i64 s.own else if i = 3 then .int .i64 s.kern else if i = 4 then .int .i64 s.user
  else if i < 9 then .int .i64 (s.up (i - 5)) else .int .i64 (s.la (i - 9))
/-- A space in block q, over the memory b and the pool p. -/
structure SpAt (w : World) (q b p : Nat) (s : SS) : Prop where
  row : w.rowIs q 96 41 (s.cell b p)
namespace SpAt
variable {w w' : World} {q b p : Nat} {s : SS}
theorem touch {S : Nat → Prop} (h : SpAt w q b p s) (t : Touch S w w') (hs : ¬ S q) : SpAt w' q b p s := ⟨t.row h.row hs⟩
theorem drew (h : SpAt w q b p s) : SpAt w.drew q b p s := ⟨h.row⟩
theorem drewN (h : SpAt w q b p s) (n : Nat) : SpAt (w.drewN n) q b p s := ⟨h.row⟩
theorem memC (h : SpAt w q b p s) : w.cell? ⟨q, 0, none⟩ = some (.pointer (some ⟨b, 0, none⟩)) := h.row.cell (i := 0) (by omega)
theorem poolC (h : SpAt w q b p s) : w.cell? ⟨q, 1, none⟩ = some (.pointer (some ⟨p, 0, none⟩)) := h.row.cell (i := 1) (by omega)
theorem ownC (h : SpAt w q b p s) : w.cell? ⟨q, 2, none⟩ = some (.int .i64 s.own) := h.row.cell (i := 2) (by omega)
theorem kernC (h : SpAt w q b p s) : w.cell? ⟨q, 3, none⟩ = some (.int .i64 s.kern) := h.row.cell (i := 3) (by omega)
theorem userC (h : SpAt w q b p s) : w.cell? ⟨q, 4, none⟩ = some (.int .i64 s.user) := h.row.cell (i := 4) (by omega)
theorem upC (h : SpAt w q b p s) {i : Nat} (hi : i < 4) : w.cell? ⟨q, 5 + i, none⟩ = some (.int .i64 (s.up i)) := by
  rw [h.row.cell (i := 5 + i) (by omega)]
  unfold SS.cell
  rw [if_neg (by omega), if_neg (by omega), if_neg (by omega), if_neg (by omega), if_neg (by omega), if_pos (by omega), show 5 + i - 5 = i by omega]
theorem laC (h : SpAt w q b p s) {k : Nat} (hk : k < 32) : w.cell? ⟨q, 9 + k, none⟩ = some (.int .i64 (s.la k)) := by
  rw [h.row.cell (i := 9 + k) (by omega)]
  unfold SS.cell
  rw [if_neg (by omega), if_neg (by omega), if_neg (by omega), if_neg (by omega), if_neg (by omega), if_neg (by omega), show 9 + k - 9 = k by omega]
theorem frozen (h : SpAt w q b p s) (i : Nat) : w.frozen? ⟨q, i, none⟩ = false := h.row.frozen i
theorem lt (h : SpAt w q b p s) : q < w.heap.size := h.row.lt
end SpAt

/-- Is it one of its pages? -/
def SS.hasP (s : SS) (page : Int) : Bool := (s.kern != 0) && decide (0 ≤ page) && decide (page < 256)

set_option maxHeartbeats 400000 in
theorem shas_any {w : World} {q b p : Nat} {s : SS} (h : SpAt w q b p s) (page : Int) :
    Calls Try.prog 50 #[.pointer (some ⟨q, 0, none⟩), .int .i64 page] w fun e w' => e = .returned (.bool (s.hasP page)) ∧ w = w' := by
  have hk := h.kernC
  unfold SS.hasP
  cases e : (s.kern != 0)
  · go_enter Try.func50, Try.ntmps50
    go_wp2
    go_ret
    exact ⟨rfl, rfl⟩
  · by_cases h0 : 0 ≤ page
    · go_enter Try.func50, Try.ntmps50
      go_wp2
      go_ret
      exact ⟨by simp [h0], rfl⟩
    · have h0' : decide (0 ≤ page) = false := by simpa using h0
      go_enter Try.func50, Try.ntmps50
      go_wp2
      go_ret
      exact ⟨rfl, rfl⟩

set_option maxHeartbeats 400000 in
theorem lack_yes {w : World} {g o : Nat} (hc : w.cell? ⟨g, o, none⟩ = some (.int .i64 0)) (hf : w.frozen? ⟨g, o, none⟩ = false) :
    Calls Try.prog 51 #[.pointer (some ⟨g, o, none⟩)] w fun e w' => e = .returned (.int .i64 1) ∧ w' = w.setCell ⟨g, o, none⟩ (.int .i64 (-1)) := by
  go_enter Try.func51, Try.ntmps51
  go_wp2
  go_ret
  exact ⟨rfl, rfl⟩
set_option maxHeartbeats 400000 in
theorem lack_no {w : World} {g o : Nat} {v : Int} (hc : w.cell? ⟨g, o, none⟩ = some (.int .i64 v)) (hv : v ≠ 0) :
    Calls Try.prog 51 #[.pointer (some ⟨g, o, none⟩)] w fun e w' => e = .returned (.int .i64 0) ∧ w' = w := by
  have hv' : (v != 0) = true := by simpa using hv
  go_enter Try.func51, Try.ntmps51
  go_wp2
  go_ret
  exact ⟨rfl, rfl⟩

/-- Tables that are there: upper ones, last ones. -/
structure TT where
  up : Nat → Int
  la : Nat → Int
def SS.tt (s : SS) : TT := ⟨s.up, s.la⟩
/-- What a page lacks. -/
def TT.lack (t : TT) (i j : Nat) : Nat := (if t.up i = 0 then 1 else 0) + (if t.la (i * 8 + j) = 0 then 1 else 0)
/-- With it there. -/
def TT.fill (t : TT) (i j : Nat) : TT := ⟨fun k => if k = i then (if t.up i = 0 then -1 else t.up i) else t.up k, fun k => if k = i * 8 + j then (if t.la (i * 8 + j) = 0 then -1 else t.la (i * 8 + j)) else t.la k⟩
/-- One more page that is needed. -/
def needS (s : SS) (a : TT × Nat) (page : Int) : TT × Nat :=
  if s.hasP page = true then (a.1.fill (page / 64).toNat (page / 8 % 8).toNat, a.2 + a.1.lack (page / 64).toNat (page / 8 % 8).toNat) else a
def SS.need (s : SS) (l : List Int) : Nat := (l.foldl (needS s) (s.tt, 0)).2

/-- The copies that Need counts in. -/
structure Cop (w : World) (A L : Nat) (t : TT) : Prop where
  ra : w.rowIs A 92 4 (fun k => .int .i64 (t.up k))
  rl : w.rowIs L 94 32 (fun k => .int .i64 (t.la k))

def upL (t : TT) : List Value := (List.range 4).map fun k => .int .i64 (t.up k)
def laL (t : TT) : List Value := (List.range 32).map fun k => .int .i64 (t.la k)
theorem upL_len (t : TT) : (upL t).length = 4 := rfl
theorem laL_len (t : TT) : (laL t).length = 32 := rfl
theorem upL_at (t : TT) {k : Nat} (h : k < 4) : (upL t)[k]? = some (.int .i64 (t.up k)) := by simp [upL, h]
theorem laL_at (t : TT) {k : Nat} (h : k < 32) : (laL t)[k]? = some (.int .i64 (t.la k)) := by simp [laL, h]
theorem SpAt.upR {w : World} {q b p : Nat} {s : SS} (h : SpAt w q b p s) : w.rangeAt q 5 (upL s.tt) := fun j v hv => by
  have hj : j < 4 := (List.getElem?_eq_some_iff.1 hv).1
  rw [upL_at _ hj] at hv
  rw [h.upC hj]; exact hv
theorem SpAt.laR {w : World} {q b p : Nat} {s : SS} (h : SpAt w q b p s) : w.rangeAt q 9 (laL s.tt) := fun j v hv => by
  have hj : j < 32 := (List.getElem?_eq_some_iff.1 hv).1
  rw [laL_at _ hj] at hv
  rw [h.laC hj]; exact hv

theorem row4_alloc (W : World) : (W.alloc (.cells #[.int .i64 0, .int .i64 0, .int .i64 0, .int .i64 0] 92)).rowIs W.heap.size 92 4 (fun _ => .int .i64 0) :=
  World.rowIs_alloc W #[.int .i64 0, .int .i64 0, .int .i64 0, .int .i64 0] 92 (fun _ => .int .i64 0) (fun i hi => by
    have : i < 4 := hi
    rcases (by omega : i = 0 ∨ i = 1 ∨ i = 2 ∨ i = 3) with rfl | rfl | rfl | rfl <;> rfl)
theorem row32_alloc (W : World) : (W.alloc (.cells #[.int .i64 0, .int .i64 0, .int .i64 0, .int .i64 0, .int .i64 0, .int .i64 0, .int .i64 0, .int .i64 0, .int .i64 0, .int .i64 0, .int .i64 0, .int .i64 0, .int .i64 0, .int .i64 0, .int .i64 0, .int .i64 0, .int .i64 0, .int .i64 0, .int .i64 0, .int .i64 0, .int .i64 0, .int .i64 0, .int .i64 0, .int .i64 0, .int .i64 0, .int .i64 0, .int .i64 0, .int .i64 0, .int .i64 0, .int .i64 0, .int .i64 0, .int .i64 0] 94)).rowIs W.heap.size 94 32 (fun _ => .int .i64 0) := by
  have e : (#[.int .i64 0, .int .i64 0, .int .i64 0, .int .i64 0, .int .i64 0, .int .i64 0, .int .i64 0, .int .i64 0, .int .i64 0, .int .i64 0, .int .i64 0, .int .i64 0, .int .i64 0, .int .i64 0, .int .i64 0, .int .i64 0, .int .i64 0, .int .i64 0, .int .i64 0, .int .i64 0, .int .i64 0, .int .i64 0, .int .i64 0, .int .i64 0, .int .i64 0, .int .i64 0, .int .i64 0, .int .i64 0, .int .i64 0, .int .i64 0, .int .i64 0, .int .i64 0] : Array Value) = Array.replicate 32 (.int .i64 0) := by rfl
  have := World.rowIs_alloc W (Array.replicate 32 (.int .i64 0)) 94 (fun _ => .int .i64 0) (fun i hi => by rw [Array.getElem?_replicate, if_pos (by simpa using hi)])
  rw [Array.size_replicate] at this
  rw [e]; exact this
theorem row_store {W : World} {A : Nat} {ty : TypeId} {n : Nat} {f : Nat → Value} (h : W.rowIs A ty n f) (vs : List Value) (g : Nat → Value) (hg : ∀ k, k < n → vs[k]? = some (g k)) : (W.setCells A 0 vs).rowIs A ty n g :=
  (rowIs_setCells vs 0 W f h).congr fun i hi => by rw [if_pos (Nat.zero_le _), Nat.sub_zero, hg i hi]; rfl
theorem Touch.setNews {w W : World} (t : Touch Nil w W) {A : Nat} (hA : w.heap.size ≤ A) (vs : List Value) (o : Nat) : Touch Nil w (W.setCells A o vs) :=
  t.transNew ((Touch.refl (· = A) W).setCells rfl vs o) (fun i hi e => by omega)
theorem up_one (t : TT) : (upL t).toArray.all (·.oneCell') = true := by kernel_rfl
theorem la_one (t : TT) : (laL t).toArray.all (·.oneCell') = true := by kernel_rfl

set_option maxHeartbeats 400000 in
theorem lack_row {w : World} {g n k : Nat} {ty : TypeId} {f : Nat → Int} (h : w.rowIs g ty n (fun j => .int .i64 (f j))) (hk : k < n) (o : Nat) (ho : o = k) :
    Calls Try.prog 51 #[.pointer (some ⟨g, o, none⟩)] w fun e w' => e = .returned (.int .i64 (if f k = 0 then 1 else 0)) ∧ w'.rowIs g ty n (fun j => .int .i64 (if j = k then (if f k = 0 then -1 else f k) else f j)) ∧ Touch (· = g) w w' := by
  subst ho
  have hc := h.cell hk
  by_cases hv : f o = 0
  · rw [hv] at hc
    refine (lack_yes hc (h.frozen _)).mono ?_
    rintro e w' ⟨rfl, rfl⟩
    refine ⟨by rw [if_pos hv], (h.set o _).congr fun i _ => ?_, (Touch.refl (· = g) w).setCell (p := ⟨g, o, none⟩) rfl _⟩
    by_cases e : i = o
    · simp [e, hv]
    · simp [e]
  · refine (lack_no hc hv).mono ?_
    rintro e w' ⟨rfl, rfl⟩
    refine ⟨by rw [if_neg hv], h.congr fun i _ => ?_, Touch.refl _ _⟩
    by_cases e : i = o
    · simp [e, hv]
    · simp [e]
theorem Touch.news {w W W' : World} (t : Touch Nil w W) {A : Nat} (hA : w.heap.size ≤ A) (k : Touch (· = A) W W') : Touch Nil w W' :=
  t.transNew k (fun i hi e => by omega)
theorem take_snocI {z : List Int} {k : Nat} (h : k < z.length) : z.take (k + 1) = z.take k ++ [z.getD k 0] := by
  rw [List.take_add_one]
  simp [List.getD, h]
theorem need_step (s : SS) {z : List Int} {k : Nat} (h : k < z.length) : (z.take (k + 1)).foldl (needS s) (s.tt, 0) = needS s ((z.take k).foldl (needS s) (s.tt, 0)) (z.getD k 0) := by
  rw [take_snocI h, List.foldl_append]; rfl
theorem hasP_iff (s : SS) (page : Int) : s.hasP page = true ↔ s.kern ≠ 0 ∧ 0 ≤ page ∧ page < 256 := by
  simp [SS.hasP, and_assoc]
theorem pidx0 {page : Int} (h0 : 0 ≤ page) (h1 : page < 512) : pidx page 0 = page / 64 := by unfold pidx; simp [h0, h1]
theorem pidx1 {page : Int} (h0 : 0 ≤ page) (h1 : page < 512) : pidx page 1 = page / 8 % 8 := by unfold pidx; simp [h0, h1]
theorem pidx2 {page : Int} (h0 : 0 ≤ page) (h1 : page < 512) : pidx page 2 = page % 8 := by unfold pidx; simp [h0, h1]

set_option maxRecDepth 20000 in
set_option maxHeartbeats 2000000 in
theorem need_any {w : World} {q b p : Nat} {s : SS} (h : SpAt w q b p s) (a : Option Addr) (len cap : Nat) (z : List Int) (hz : len ≤ 100) (hr : len = 0 ∨ ∃ g o, a = some ⟨g, o, none⟩ ∧ g < w.heap.size ∧ ∀ i, i < len → w.cell? ⟨g, o + i, none⟩ = some (.int .i64 (z.getD i 0))) (hl : z.length = len) :
    Calls Try.prog 16 #[.pointer (some ⟨q, 0, none⟩), .slice a len cap] w fun e w' => e = .returned (.int .i64 (s.need z)) ∧ Touch Nil w w' := by
  have hlt := h.lt
  have hi4 : (Try.prog.info? 92).map (·.size) = some (upL s.tt).length := by rw [upL_len]; kernel_rfl
  have hi32 : (Try.prog.info? 94).map (·.size) = some (laL s.tt).length := by rw [laL_len]; kernel_rfl
  go_enter Try.func16, Try.ntmps16
  go_upto_region 1 with fail
  go_cut [5, 6] (fun v5 v6 wx => ∃ A L, v5 = .pointer (some ⟨A, 0, none⟩) ∧ v6 = .pointer (some ⟨L, 0, none⟩) ∧ A ≠ L ∧ w.heap.size ≤ A ∧ w.heap.size ≤ L ∧ Cop wx A L s.tt ∧ Touch Nil w wx)
  case first =>
    refine wp_region_held_drew (S := fun wx => SpAt wx q b p s) (by kernel_rfl) h.drew (fun hHeld => ?_)
    refine wpAnyH_take (i := 0) (oi := { dst := some 12, op := _, type := _, pos := _, after := _, guard := _ }) (v := ?_) rfl (by kernel_rfl) (by kernel_rfl) (by kernel_rfl) (fun _ _ _ h => h) (Or.inl ⟨by rfl, ?_⟩) (by assumption) ?_
    rotate_left
    · intro wz hSw; (try dsimp only at hSw); go_simp; try with_reducible rfl
    (try simp only [Act.put]); (try simp only [List.setIfInBounds_toArray]); (try simp only [List.set_cons_succ]); (try simp only [List.set_cons_zero])
    refine wpAnyH_take (i := 1) (oi := { dst := some 13, op := _, type := _, pos := _, after := _, guard := _ }) (v := ?_) rfl (by kernel_rfl) (by kernel_rfl) (by kernel_rfl) (fun _ _ _ h => h) (Or.inl ⟨by rfl, ?_⟩) (by assumption) ?_
    rotate_left
    · intro wz hSw; (try dsimp only at hSw); go_simp; try with_reducible rfl
    (try simp only [Act.put]); (try simp only [List.setIfInBounds_toArray]); (try simp only [List.set_cons_succ]); (try simp only [List.set_cons_zero])
    refine wpAnyH_take (i := 2) (oi := { dst := some 14, op := _, type := _, pos := _, after := _, guard := _ }) (v := ?_) rfl (by kernel_rfl) (by kernel_rfl) (by kernel_rfl) (fun _ _ _ h => h) (Or.inl ⟨by rfl, ?_⟩) (by assumption) ?_
    rotate_left
    · intro wz hSw; (try dsimp only at hSw); go_simp; try with_reducible rfl
    (try simp only [Act.put]); (try simp only [List.setIfInBounds_toArray]); (try simp only [List.set_cons_succ]); (try simp only [List.set_cons_zero])
    refine wpAnyH_take (i := 3) (oi := { dst := some 15, op := _, type := _, pos := _, after := _, guard := _ }) (v := _) rfl (by kernel_rfl) (by kernel_rfl) (by kernel_rfl) (fun _ _ _ h => h) (yieldsIf_load_mid (by rfl) _ _ rfl q 5 rfl (upL s.tt) _ (fun _ h => h.upR) Try.underlying92 rfl hi4) (by assumption) ?_
    (try simp only [Act.put]); (try simp only [List.setIfInBounds_toArray]); (try simp only [List.set_cons_succ]); (try simp only [List.set_cons_zero])
    refine wpAnyH_take (i := 4) (oi := { dst := some 16, op := _, type := _, pos := _, after := _, guard := _ }) (v := ?_) rfl (by kernel_rfl) (by kernel_rfl) (by kernel_rfl) (fun _ _ _ h => h) (Or.inl ⟨by rfl, ?_⟩) (by assumption) ?_
    rotate_left
    · intro wz hSw; (try dsimp only at hSw); go_simp; try with_reducible rfl
    (try simp only [Act.put]); (try simp only [List.setIfInBounds_toArray]); (try simp only [List.set_cons_succ]); (try simp only [List.set_cons_zero])
    refine wpAnyH_take (i := 5) (oi := { dst := some 17, op := _, type := _, pos := _, after := _, guard := _ }) (v := ?_) rfl (by kernel_rfl) (by kernel_rfl) (by kernel_rfl) (fun _ _ _ h => h) (Or.inl ⟨by rfl, ?_⟩) (by assumption) ?_
    rotate_left
    · intro wz hSw; (try dsimp only at hSw); go_simp; try with_reducible rfl
    (try simp only [Act.put]); (try simp only [List.setIfInBounds_toArray]); (try simp only [List.set_cons_succ]); (try simp only [List.set_cons_zero])
    refine wpAnyH_take (i := 6) (oi := { dst := some 18, op := _, type := _, pos := _, after := _, guard := _ }) (v := ?_) rfl (by kernel_rfl) (by kernel_rfl) (by kernel_rfl) (fun _ _ _ h => h) (Or.inl ⟨by rfl, ?_⟩) (by assumption) ?_
    rotate_left
    · intro wz hSw; (try dsimp only at hSw); go_simp; try with_reducible rfl
    (try simp only [Act.put]); (try simp only [List.setIfInBounds_toArray]); (try simp only [List.set_cons_succ]); (try simp only [List.set_cons_zero])
    refine wpAnyH_take (i := 7) (oi := { dst := some 19, op := _, type := _, pos := _, after := _, guard := _ }) (v := _) rfl (by kernel_rfl) (by kernel_rfl) (by kernel_rfl) (fun _ _ _ h => h) (yieldsIf_load_mid (by rfl) _ _ rfl q 9 rfl (laL s.tt) _ (fun _ h => h.laR) Try.underlying94 rfl hi32) (by assumption) ?_
    (try simp only [Act.put]); (try simp only [List.setIfInBounds_toArray]); (try simp only [List.set_cons_succ]); (try simp only [List.set_cons_zero])
    have tt : Touch Nil w w.drew := (Touch.refl Nil w).drew
    have sp : SpAt w.drew q b p s := h.drew
    generalize w.drew = W0 at *
    refine wpAnyH_ready (rs := [8, 9]) (by kernel_rfl) (by simp) ?_
    refine AllReadyH.cons (o := { dst := some 5, op := _, type := _, pos := _, after := _, guard := _ }) rfl (fun K hK => ?_) (AllReadyH.cons (o := { dst := some 6, op := _, type := _, pos := _, after := _, guard := _ }) rfl (fun K hK => ?_) AllReadyH.nil)
    · go_simp
      have rA := row4_alloc W0
      have hA : w.heap.size ≤ W0.heap.size := tt.size
      have sp := sp.touch ((Touch.refl Nil W0).alloc (.cells #[.int .i64 0, .int .i64 0, .int .i64 0, .int .i64 0] 92)) (fun h => h)
      have tt := tt.alloc (.cells #[.int .i64 0, .int .i64 0, .int .i64 0, .int .i64 0] 92)
      generalize W0.alloc (.cells #[.int .i64 0, .int .i64 0, .int .i64 0, .int .i64 0] 92) = W1 at *
      generalize W0.heap.size = A at *
      refine hK.out _ _ sp (fun hHeld => ?_)
      clear hK K
      (try simp only [Act.put]); (try simp only [List.setIfInBounds_toArray]); (try simp only [List.set_cons_succ]); (try simp only [List.set_cons_zero])
      refine wpAnyH_ready (rs := [9]) (by kernel_rfl) (by simp) ?_
      refine AllReadyH.cons (o := { dst := some 6, op := _, type := _, pos := _, after := _, guard := _ }) rfl (fun K hK => ?_) AllReadyH.nil
      · go_simp
        have rL := row32_alloc W1
        have hL : w.heap.size ≤ W1.heap.size := tt.size
        have hne : A ≠ W1.heap.size := Nat.ne_of_lt rA.lt
        have rA := (Touch.refl Nil W1).alloc (.cells #[.int .i64 0, .int .i64 0, .int .i64 0, .int .i64 0, .int .i64 0, .int .i64 0, .int .i64 0, .int .i64 0, .int .i64 0, .int .i64 0, .int .i64 0, .int .i64 0, .int .i64 0, .int .i64 0, .int .i64 0, .int .i64 0, .int .i64 0, .int .i64 0, .int .i64 0, .int .i64 0, .int .i64 0, .int .i64 0, .int .i64 0, .int .i64 0, .int .i64 0, .int .i64 0, .int .i64 0, .int .i64 0, .int .i64 0, .int .i64 0, .int .i64 0, .int .i64 0] 94) |>.row rA (fun h => h)
        have sp := sp.touch ((Touch.refl Nil W1).alloc (.cells #[.int .i64 0, .int .i64 0, .int .i64 0, .int .i64 0, .int .i64 0, .int .i64 0, .int .i64 0, .int .i64 0, .int .i64 0, .int .i64 0, .int .i64 0, .int .i64 0, .int .i64 0, .int .i64 0, .int .i64 0, .int .i64 0, .int .i64 0, .int .i64 0, .int .i64 0, .int .i64 0, .int .i64 0, .int .i64 0, .int .i64 0, .int .i64 0, .int .i64 0, .int .i64 0, .int .i64 0, .int .i64 0, .int .i64 0, .int .i64 0, .int .i64 0, .int .i64 0] 94)) (fun h => h)
        have tt := tt.alloc (.cells #[.int .i64 0, .int .i64 0, .int .i64 0, .int .i64 0, .int .i64 0, .int .i64 0, .int .i64 0, .int .i64 0, .int .i64 0, .int .i64 0, .int .i64 0, .int .i64 0, .int .i64 0, .int .i64 0, .int .i64 0, .int .i64 0, .int .i64 0, .int .i64 0, .int .i64 0, .int .i64 0, .int .i64 0, .int .i64 0, .int .i64 0, .int .i64 0, .int .i64 0, .int .i64 0, .int .i64 0, .int .i64 0, .int .i64 0, .int .i64 0, .int .i64 0, .int .i64 0] 94)
        generalize W1.alloc (.cells #[.int .i64 0, .int .i64 0, .int .i64 0, .int .i64 0, .int .i64 0, .int .i64 0, .int .i64 0, .int .i64 0, .int .i64 0, .int .i64 0, .int .i64 0, .int .i64 0, .int .i64 0, .int .i64 0, .int .i64 0, .int .i64 0, .int .i64 0, .int .i64 0, .int .i64 0, .int .i64 0, .int .i64 0, .int .i64 0, .int .i64 0, .int .i64 0, .int .i64 0, .int .i64 0, .int .i64 0, .int .i64 0, .int .i64 0, .int .i64 0, .int .i64 0, .int .i64 0] 94) = W2 at *
        generalize W1.heap.size = L at *
        refine hK.out _ _ sp (fun hHeld => ?_)
        clear hK K
        (try simp only [Act.put]); (try simp only [List.setIfInBounds_toArray]); (try simp only [List.set_cons_succ]); (try simp only [List.set_cons_zero])
        refine wpAnyH_ready (rs := [10]) (by kernel_rfl) (by simp) ?_
        refine AllReadyH.cons (o := { dst := none, op := _, type := _, pos := _, after := _, guard := _ }) rfl (fun K hK => ?_) AllReadyH.nil
        · rw [if_pos (by rfl)]
          refine wp_store_mid 92 (.tmp 5) (.tmp 15) rfl A 0 (upL s.tt).toArray rfl rfl (there_of_row rA 0 _ (Nat.le_refl _)) (by simpa using hi4) (up_one s.tt) ?_
          have rA := row_store rA (upL s.tt) (fun k => .int .i64 (s.tt.up k)) (fun k hk => upL_at _ hk)
          have rL := rowIs_setCells_other rL hne.symm (upL s.tt) 0
          have sp := sp.touch ((Touch.refl (· = A) W2).setCells rfl (upL s.tt) 0) (by omega)
          have tt := tt.setNews hA (upL s.tt) 0
          generalize W2.setCells A 0 (upL s.tt) = W3 at *
          refine hK.out _ _ sp (fun hHeld => ?_)
          clear hK K
          (try simp only [Act.put]); (try simp only [List.setIfInBounds_toArray]); (try simp only [List.set_cons_succ]); (try simp only [List.set_cons_zero])
          refine wpAnyH_ready (rs := [11]) (by kernel_rfl) (by simp) ?_
          refine AllReadyH.cons (o := { dst := none, op := _, type := _, pos := _, after := _, guard := _ }) rfl (fun K hK => ?_) AllReadyH.nil
          · rw [if_pos (by rfl)]
            refine wp_store_mid 94 (.tmp 6) (.tmp 19) rfl L 0 (laL s.tt).toArray rfl rfl (there_of_row rL 0 _ (Nat.le_refl _)) (by simpa using hi32) (la_one s.tt) ?_
            have rL := row_store rL (laL s.tt) (fun k => .int .i64 (s.tt.la k)) (fun k hk => laL_at _ hk)
            have rA := rowIs_setCells_other rA hne (laL s.tt) 0
            have sp := sp.touch ((Touch.refl (· = L) W3).setCells rfl (laL s.tt) 0) (by omega)
            have tt := tt.setNews hL (laL s.tt) 0
            generalize W3.setCells L 0 (laL s.tt) = W4 at *
            refine hK.out _ _ sp (fun hHeld => ?_)
            clear hK K
            (try simp only [Act.put]); (try simp only [List.setIfInBounds_toArray]); (try simp only [List.set_cons_succ]); (try simp only [List.set_cons_zero])
            refine wpAnyH_done (by kernel_rfl) ?_ _
            go_wp2_with fail
            go_meet
            exact ⟨A, L, rfl, rfl, hne, hA, hL, ⟨rA, rL⟩, tt⟩
    · go_simp
      have rL := row32_alloc W0
      have hL : w.heap.size ≤ W0.heap.size := tt.size
      have sp := sp.touch ((Touch.refl Nil W0).alloc (.cells #[.int .i64 0, .int .i64 0, .int .i64 0, .int .i64 0, .int .i64 0, .int .i64 0, .int .i64 0, .int .i64 0, .int .i64 0, .int .i64 0, .int .i64 0, .int .i64 0, .int .i64 0, .int .i64 0, .int .i64 0, .int .i64 0, .int .i64 0, .int .i64 0, .int .i64 0, .int .i64 0, .int .i64 0, .int .i64 0, .int .i64 0, .int .i64 0, .int .i64 0, .int .i64 0, .int .i64 0, .int .i64 0, .int .i64 0, .int .i64 0, .int .i64 0, .int .i64 0] 94)) (fun h => h)
      have tt := tt.alloc (.cells #[.int .i64 0, .int .i64 0, .int .i64 0, .int .i64 0, .int .i64 0, .int .i64 0, .int .i64 0, .int .i64 0, .int .i64 0, .int .i64 0, .int .i64 0, .int .i64 0, .int .i64 0, .int .i64 0, .int .i64 0, .int .i64 0, .int .i64 0, .int .i64 0, .int .i64 0, .int .i64 0, .int .i64 0, .int .i64 0, .int .i64 0, .int .i64 0, .int .i64 0, .int .i64 0, .int .i64 0, .int .i64 0, .int .i64 0, .int .i64 0, .int .i64 0, .int .i64 0] 94)
      generalize W0.alloc (.cells #[.int .i64 0, .int .i64 0, .int .i64 0, .int .i64 0, .int .i64 0, .int .i64 0, .int .i64 0, .int .i64 0, .int .i64 0, .int .i64 0, .int .i64 0, .int .i64 0, .int .i64 0, .int .i64 0, .int .i64 0, .int .i64 0, .int .i64 0, .int .i64 0, .int .i64 0, .int .i64 0, .int .i64 0, .int .i64 0, .int .i64 0, .int .i64 0, .int .i64 0, .int .i64 0, .int .i64 0, .int .i64 0, .int .i64 0, .int .i64 0, .int .i64 0, .int .i64 0] 94) = W5 at *
      generalize W0.heap.size = L at *
      refine hK.out _ _ sp (fun hHeld => ?_)
      clear hK K
      (try simp only [Act.put]); (try simp only [List.setIfInBounds_toArray]); (try simp only [List.set_cons_succ]); (try simp only [List.set_cons_zero])
      refine wpAnyH_ready (rs := [8]) (by kernel_rfl) (by simp) ?_
      refine AllReadyH.cons (o := { dst := some 5, op := _, type := _, pos := _, after := _, guard := _ }) rfl (fun K hK => ?_) AllReadyH.nil
      · go_simp
        have rA := row4_alloc W5
        have hA : w.heap.size ≤ W5.heap.size := tt.size
        have hne : W5.heap.size ≠ L := (Nat.ne_of_lt rL.lt).symm
        have rL := (Touch.refl Nil W5).alloc (.cells #[.int .i64 0, .int .i64 0, .int .i64 0, .int .i64 0] 92) |>.row rL (fun h => h)
        have sp := sp.touch ((Touch.refl Nil W5).alloc (.cells #[.int .i64 0, .int .i64 0, .int .i64 0, .int .i64 0] 92)) (fun h => h)
        have tt := tt.alloc (.cells #[.int .i64 0, .int .i64 0, .int .i64 0, .int .i64 0] 92)
        generalize W5.alloc (.cells #[.int .i64 0, .int .i64 0, .int .i64 0, .int .i64 0] 92) = W6 at *
        generalize W5.heap.size = A at *
        refine hK.out _ _ sp (fun hHeld => ?_)
        clear hK K
        (try simp only [Act.put]); (try simp only [List.setIfInBounds_toArray]); (try simp only [List.set_cons_succ]); (try simp only [List.set_cons_zero])
        refine wpAnyH_ready (rs := [10]) (by kernel_rfl) (by simp) ?_
        refine AllReadyH.cons (o := { dst := none, op := _, type := _, pos := _, after := _, guard := _ }) rfl (fun K hK => ?_) AllReadyH.nil
        · rw [if_pos (by rfl)]
          refine wp_store_mid 92 (.tmp 5) (.tmp 15) rfl A 0 (upL s.tt).toArray rfl rfl (there_of_row rA 0 _ (Nat.le_refl _)) (by simpa using hi4) (up_one s.tt) ?_
          have rA := row_store rA (upL s.tt) (fun k => .int .i64 (s.tt.up k)) (fun k hk => upL_at _ hk)
          have rL := rowIs_setCells_other rL hne.symm (upL s.tt) 0
          have sp := sp.touch ((Touch.refl (· = A) W6).setCells rfl (upL s.tt) 0) (by omega)
          have tt := tt.setNews hA (upL s.tt) 0
          generalize W6.setCells A 0 (upL s.tt) = W7 at *
          refine hK.out _ _ sp (fun hHeld => ?_)
          clear hK K
          (try simp only [Act.put]); (try simp only [List.setIfInBounds_toArray]); (try simp only [List.set_cons_succ]); (try simp only [List.set_cons_zero])
          refine wpAnyH_ready (rs := [11]) (by kernel_rfl) (by simp) ?_
          refine AllReadyH.cons (o := { dst := none, op := _, type := _, pos := _, after := _, guard := _ }) rfl (fun K hK => ?_) AllReadyH.nil
          · rw [if_pos (by rfl)]
            refine wp_store_mid 94 (.tmp 6) (.tmp 19) rfl L 0 (laL s.tt).toArray rfl rfl (there_of_row rL 0 _ (Nat.le_refl _)) (by simpa using hi32) (la_one s.tt) ?_
            have rL := row_store rL (laL s.tt) (fun k => .int .i64 (s.tt.la k)) (fun k hk => laL_at _ hk)
            have rA := rowIs_setCells_other rA hne (laL s.tt) 0
            have sp := sp.touch ((Touch.refl (· = L) W7).setCells rfl (laL s.tt) 0) (by omega)
            have tt := tt.setNews hL (laL s.tt) 0
            generalize W7.setCells L 0 (laL s.tt) = W8 at *
            refine hK.out _ _ sp (fun hHeld => ?_)
            clear hK K
            (try simp only [Act.put]); (try simp only [List.setIfInBounds_toArray]); (try simp only [List.set_cons_succ]); (try simp only [List.set_cons_zero])
            refine wpAnyH_done (by kernel_rfl) ?_ _
            go_wp2_with fail
            go_meet
            exact ⟨A, L, rfl, rfl, hne, hA, hL, ⟨rA, rL⟩, tt⟩
  case rest =>
    obtain ⟨A, L, rfl, rfl, hne, hA, hL, hC0, tt0⟩ := hcut
    go_wp2_with fail
    go_loopg [7, 22] len (fun g nv iv wr => ∃ (k : Nat) (t : TT) (m : Nat), g + k = len ∧ iv = .int .i64 k ∧ nv = .int .i64 m ∧ Hid ((z.take k).foldl (needS s) (s.tt, 0) = (t, m)) ∧ Cop wr A L t ∧ Touch Nil w wr ∧ m ≤ 2 * k)
    case atStart => exact ⟨0, s.tt, 0, by omega, rfl, rfl, rfl, hC0, tt0, by omega⟩
    case round =>
      clear hC0 tt0
      obtain ⟨k, t, m, hg, rfl, rfl, hf, hC, tt, hm⟩ := hrel
      by_cases hk : k < len
      · have k1 : (k : Int) < (len : Int) := by omega
        rcases hr with hr | ⟨g, o, rfl, hg0, hcs⟩
        · omega
        have hstep := need_step s (z := z) (k := k) (by omega)
        rw [hf.out] at hstep
        have cc : wr.cell? ⟨g, o + k, none⟩ = some (.int .i64 (z.getD k 0)) := by
          have := hcs k hk
          unfold World.cell? at this ⊢
          rw [tt.block g hg0 (fun h => h)]; exact this
        have hst : Hid ((z.take (k + 1)).foldl (needS s) (s.tt, 0) = needS s (t, m) (z.getD k 0)) := hstep
        generalize z.getD k 0 = page at *
        clear hstep hcs
        have hsp := h.touch tt (fun h => h)
        have hH := shas_any hsp page
        cases hp : s.hasP page
        · have e : needS s (t, m) page = (t, m) := by unfold needS; rw [if_neg (by simp [hp])]
          rw [e] at hst
          rw [hp] at hH
          go_wp2_with (go_at_call 50; refine hH.mono ?_; rintro e wq ⟨rfl, rfl⟩)
          go_roundg (len - (k + 1))
          case measure => omega
          case rel => exact ⟨k + 1, t, m, by omega, by go_num, rfl, hst, hC, tt, by omega⟩
        · obtain ⟨_, h0, h256⟩ := (hasP_iff s page).1 hp
          have e : needS s (t, m) page = (t.fill (page / 64).toNat (page / 8 % 8).toNat, m + t.lack (page / 64).toNat (page / 8 % 8).toNat) := by unfold needS; rw [if_pos hp]
          rw [e] at hst
          rw [hp] at hH
          have hI0 := fun wx => windex_any page 0 wx
          have hI1 := fun wx => windex_any page 1 wx
          rw [pidx0 h0 (by omega)] at hI0
          rw [pidx1 h0 (by omega)] at hI1
          have i0 : 0 ≤ page / 64 := by omega
          have i1 : page / 64 < 4 := by omega
          have j0 : 0 ≤ page / 8 % 8 := by omega
          have j1 : page / 8 % 8 < 8 := by omega
          generalize page / 64 = i at *
          generalize page / 8 % 8 = j at *
          clear e
          obtain ⟨x, hx, hx1⟩ : ∃ x : Int, Hid (x = (if t.up i.toNat = 0 then 1 else 0)) ∧ Hid (x = 0 ∨ x = 1) := ⟨_, rfl, by show _ ∨ _; split <;> simp⟩
          obtain ⟨y, hy, hy1⟩ : ∃ y : Int, Hid (y = (if t.la (i.toNat * 8 + j.toNat) = 0 then 1 else 0)) ∧ Hid (y = 0 ∨ y = 1) := ⟨_, rfl, by show _ ∨ _; split <;> simp⟩
          have hxy : IntKind.i64.wrap (x + y) = x + y := by have := hx1.out; have := hy1.out; rw [IntKind.wrap_i64]; omega
          have hmxy : IntKind.i64.wrap ((m : Int) + (x + y)) = (m : Int) + (x + y) := by have := hx1.out; have := hy1.out; rw [IntKind.wrap_i64]; omega
          have hlk : Hid (((m + t.lack i.toNat j.toNat : Nat) : Int) = (m : Int) + (x + y) ∧ t.lack i.toNat j.toNat ≤ 2) := by
            rw [hx.out, hy.out]; unfold TT.lack
            show _ ∧ _
            constructor <;> (split <;> split <;> omega)
          go_upto_region 8 with (first | (go_at_call 50; refine hH.mono ?_; rintro e wq ⟨rfl, rfl⟩) | (go_at_call 41; first | (with_reducible refine (hI0 _).mono ?_; rintro e wq ⟨rfl, rfl⟩) | (with_reducible refine (hI1 _).mono ?_; rintro e wq ⟨rfl, rfl⟩)))
          · skip
            refine wp_region_held_drew (S := fun _ => True) (by kernel_rfl) trivial (fun hHeld => ?_)
            refine wpAnyH_take (i := 0) (oi := { dst := some 34, op := _, type := _, pos := _, after := _, guard := _ }) (v := ?_) rfl (by kernel_rfl) (by kernel_rfl) (by kernel_rfl) (fun _ _ _ h => h) (Or.inl ⟨by rfl, ?_⟩) (by assumption) ?_
            rotate_left
            · intro wz hSw; (try dsimp only at hSw); go_simp; try with_reducible rfl
            (try simp only [Act.put]); (try simp only [List.setIfInBounds_toArray]); (try simp only [List.set_cons_succ]); (try simp only [List.set_cons_zero])
            refine wpAnyH_take (i := 1) (oi := { dst := some 35, op := _, type := _, pos := _, after := _, guard := _ }) (v := ?_) rfl (by kernel_rfl) (by kernel_rfl) (by kernel_rfl) (fun _ _ _ h => h) (Or.inl ⟨by rfl, ?_⟩) (by assumption) ?_
            rotate_left
            · intro wz hSw; (try dsimp only at hSw); go_simp; try with_reducible rfl
            (try simp only [Act.put]); (try simp only [List.setIfInBounds_toArray]); (try simp only [List.set_cons_succ]); (try simp only [List.set_cons_zero])
            refine wpAnyH_take (i := 2) (oi := { dst := some 36, op := _, type := _, pos := _, after := _, guard := _ }) (v := ?_) rfl (by kernel_rfl) (by kernel_rfl) (by kernel_rfl) (fun _ _ _ h => h) (Or.inl ⟨by rfl, ?_⟩) (by assumption) ?_
            rotate_left
            · intro wz hSw; (try dsimp only at hSw); go_simp; try with_reducible rfl
            (try simp only [Act.put]); (try simp only [List.setIfInBounds_toArray]); (try simp only [List.set_cons_succ]); (try simp only [List.set_cons_zero])
            refine wpAnyH_take (i := 4) (oi := { dst := some 38, op := _, type := _, pos := _, after := _, guard := _ }) (v := ?_) rfl (by kernel_rfl) (by kernel_rfl) (by kernel_rfl) (fun _ _ _ h => h) (Or.inl ⟨by rfl, ?_⟩) (by assumption) ?_
            rotate_left
            · intro wz hSw; (try dsimp only at hSw); go_simp; try with_reducible rfl
            (try simp only [Act.put]); (try simp only [List.setIfInBounds_toArray]); (try simp only [List.set_cons_succ]); (try simp only [List.set_cons_zero])
            refine wpAnyH_take (i := 5) (oi := { dst := some 39, op := _, type := _, pos := _, after := _, guard := _ }) (v := ?_) rfl (by kernel_rfl) (by kernel_rfl) (by kernel_rfl) (fun _ _ _ h => h) (Or.inl ⟨by rfl, ?_⟩) (by assumption) ?_
            rotate_left
            · intro wz hSw; (try dsimp only at hSw); go_simp; try with_reducible rfl
            (try simp only [Act.put]); (try simp only [List.setIfInBounds_toArray]); (try simp only [List.set_cons_succ]); (try simp only [List.set_cons_zero])
            refine wpAnyH_take (i := 6) (oi := { dst := some 40, op := _, type := _, pos := _, after := _, guard := _ }) (v := ?_) rfl (by kernel_rfl) (by kernel_rfl) (by kernel_rfl) (fun _ _ _ h => h) (Or.inl ⟨by rfl, ?_⟩) (by assumption) ?_
            rotate_left
            · intro wz hSw; (try dsimp only at hSw); go_simp; try with_reducible rfl
            (try simp only [Act.put]); (try simp only [List.setIfInBounds_toArray]); (try simp only [List.set_cons_succ]); (try simp only [List.set_cons_zero])
            refine wpAnyH_take (i := 7) (oi := { dst := some 41, op := _, type := _, pos := _, after := _, guard := _ }) (v := ?_) rfl (by kernel_rfl) (by kernel_rfl) (by kernel_rfl) (fun _ _ _ h => h) (Or.inl ⟨by rfl, ?_⟩) (by assumption) ?_
            rotate_left
            · intro wz hSw; (try dsimp only at hSw); go_simp; try with_reducible rfl
            (try simp only [Act.put]); (try simp only [List.setIfInBounds_toArray]); (try simp only [List.set_cons_succ]); (try simp only [List.set_cons_zero])
            have tt : Touch Nil w wr.drew := tt.drew
            have rA : wr.drew.rowIs A 92 4 (fun k => .int .i64 (t.up k)) := hC.ra
            have rL : wr.drew.rowIs L 94 32 (fun k => .int .i64 (t.la k)) := hC.rl
            clear hC
            generalize wr.drew = W0 at *
            refine wpAnyH_ready (rs := [3]) (by kernel_rfl) (by simp) ?_
            refine AllReadyH.cons (o := { dst := some 37, op := _, type := _, pos := _, after := _, guard := _ }) rfl (fun K hK => ?_) AllReadyH.nil
            · go_simp
              have hq := fun o ho => lack_row rA (k := i.toNat) (by omega) o ho
              rw [← hx.out] at hq
              refine (hq _ (by omega)).mono ?_
              rintro e W1 ⟨rfl, rA', tq⟩
              try dsimp only
              have rA := rA'
              have rL := tq.row rL (by omega)
              have tt := tt.news hA tq
              clear rA' tq
              refine hK.out _ _ trivial (fun hHeld => ?_)
              clear hK K
              (try simp only [Act.put]); (try simp only [List.setIfInBounds_toArray]); (try simp only [List.set_cons_succ]); (try simp only [List.set_cons_zero])
              refine wpAnyH_ready (rs := [8]) (by kernel_rfl) (by simp) ?_
              refine AllReadyH.cons (o := { dst := some 42, op := _, type := _, pos := _, after := _, guard := _ }) rfl (fun K hK => ?_) AllReadyH.nil
              go_simp
              have hq := fun o ho => lack_row rL (k := i.toNat * 8 + j.toNat) (by omega) o ho
              rw [← hy.out] at hq
              refine (hq _ (by omega)).mono ?_
              rintro e W2 ⟨rfl, rL', tq⟩
              try dsimp only
              have rL := rL'
              have rA := tq.row rA (by omega)
              have tt := tt.news hL tq
              clear rL' tq
              refine hK.out _ _ trivial (fun hHeld => ?_)
              clear hK K
              (try simp only [Act.put]); (try simp only [List.setIfInBounds_toArray]); (try simp only [List.set_cons_succ]); (try simp only [List.set_cons_zero])
              refine wpAnyH_take (i := 9) (oi := { dst := some 43, op := _, type := _, pos := _, after := _, guard := _ }) (v := ?_) rfl (by kernel_rfl) (by kernel_rfl) (by kernel_rfl) (fun _ _ _ h => h) (Or.inl ⟨by rfl, ?_⟩) (by assumption) ?_
              rotate_left
              · intro wz hSw; (try dsimp only at hSw); go_simp; try with_reducible rfl
              (try simp only [Act.put]); (try simp only [List.setIfInBounds_toArray]); (try simp only [List.set_cons_succ]); (try simp only [List.set_cons_zero])
              refine wpAnyH_take (i := 10) (oi := { dst := some 44, op := _, type := _, pos := _, after := _, guard := _ }) (v := ?_) rfl (by kernel_rfl) (by kernel_rfl) (by kernel_rfl) (fun _ _ _ h => h) (Or.inl ⟨by rfl, ?_⟩) (by assumption) ?_
              rotate_left
              · intro wz hSw; (try dsimp only at hSw); go_simp; try with_reducible rfl
              (try simp only [Act.put]); (try simp only [List.setIfInBounds_toArray]); (try simp only [List.set_cons_succ]); (try simp only [List.set_cons_zero])
              refine wpAnyH_take (i := 11) (oi := { dst := some 7, op := _, type := _, pos := _, after := _, guard := _ }) (v := ?_) rfl (by kernel_rfl) (by kernel_rfl) (by kernel_rfl) (fun _ _ _ h => h) (Or.inl ⟨by rfl, ?_⟩) (by assumption) ?_
              rotate_left
              · intro wz hSw; (try dsimp only at hSw); go_simp; try with_reducible rfl
              (try simp only [Act.put]); (try simp only [List.setIfInBounds_toArray]); (try simp only [List.set_cons_succ]); (try simp only [List.set_cons_zero])
              refine wpAnyH_done (by kernel_rfl) ?_ _
              go_wp2_with fail
              go_roundg (len - (k + 1))
              case measure => omega
              case rel => exact ⟨k + 1, _, _, by omega, by go_num, by rw [hlk.out.1], hst, ⟨rA, rL⟩, tt, by have := hlk.out.2; omega⟩
      · have k1 : ¬ ((k : Int) < (len : Int)) := by omega
        have e : s.need z = m := by
          unfold SS.need
          have := hf.out
          rw [List.take_of_length_le (by omega)] at this
          rw [this]
        go_wp2_with fail
        go_ret
        exact ⟨rfl, tt⟩
end Go.Proofs.Ytoododpeoffieaa
