/-
  A process's tables: New.
-/
import Derived.Test.YtaofkedcdeocjaaSpF
namespace Go.Proofs.Ytaofkedcdeocjaa
open Go.ChangeShapes Go.WideShapes Go.ChangeAt Go.RowKit

/-- A new space. -/
def YS.new (own : Int) (kpti : Bool) (R : Nat → Int) (s : MS) : YS :=
  let k := (s.least : Int)
  let s1 := s.mark k 1 own
  let u := if kpti = true then (s1.least : Int) else k
  let S : SS := ⟨own, k, u, fun _ => 0, fun _ => 0⟩
  ⟨S, if kpti = true then rset (rset R k 1) u 1 else rset R k 1, ((if kpti = true then s1.mark u 1 own else s1).write (k * 8 + 4) (packV true false false 3)).roots S 7 13⟩

def spZ (b p : Nat) (own : Int) : Array Value := #[.pointer (some ⟨b, 0, none⟩), .pointer (some ⟨p, 0, none⟩), .int .i64 own] ++ Array.replicate 38 (.int .i64 0)
theorem space_new (W : World) (b p : Nat) (own : Int) : SpAt (W.alloc (.cells #[.pointer (some ⟨b, 0, none⟩), .pointer (some ⟨p, 0, none⟩), .int .i64 own, .int .i64 0, .int .i64 0, .int .i64 0, .int .i64 0, .int .i64 0, .int .i64 0, .int .i64 0, .int .i64 0, .int .i64 0, .int .i64 0, .int .i64 0, .int .i64 0, .int .i64 0, .int .i64 0, .int .i64 0, .int .i64 0, .int .i64 0, .int .i64 0, .int .i64 0, .int .i64 0, .int .i64 0, .int .i64 0, .int .i64 0, .int .i64 0, .int .i64 0, .int .i64 0, .int .i64 0, .int .i64 0, .int .i64 0, .int .i64 0, .int .i64 0, .int .i64 0, .int .i64 0, .int .i64 0, .int .i64 0, .int .i64 0, .int .i64 0, .int .i64 0] 107)) W.heap.size b p ⟨own, 0, 0, fun _ => 0, fun _ => 0⟩ := by
  have e : (#[.pointer (some ⟨b, 0, none⟩), .pointer (some ⟨p, 0, none⟩), .int .i64 own, .int .i64 0, .int .i64 0, .int .i64 0, .int .i64 0, .int .i64 0, .int .i64 0, .int .i64 0, .int .i64 0, .int .i64 0, .int .i64 0, .int .i64 0, .int .i64 0, .int .i64 0, .int .i64 0, .int .i64 0, .int .i64 0, .int .i64 0, .int .i64 0, .int .i64 0, .int .i64 0, .int .i64 0, .int .i64 0, .int .i64 0, .int .i64 0, .int .i64 0, .int .i64 0, .int .i64 0, .int .i64 0, .int .i64 0, .int .i64 0, .int .i64 0, .int .i64 0, .int .i64 0, .int .i64 0, .int .i64 0, .int .i64 0, .int .i64 0, .int .i64 0] : Array Value) = spZ b p own := by kernel_rfl
  rw [e]
  have hs : (spZ b p own).size = 41 := by unfold spZ; simp
  have := World.rowIs_alloc W (spZ b p own) 107 (SS.cell b p ⟨own, 0, 0, fun _ => 0, fun _ => 0⟩) (fun i hi => ?_)
  · rw [hs] at this
    exact ⟨this⟩
  rw [hs] at hi
  unfold spZ
  rcases (by omega : i = 0 ∨ i = 1 ∨ i = 2 ∨ 3 ≤ i) with rfl | rfl | rfl | h3
  · rw [Array.getElem?_append_left (by simp)]; rfl
  · rw [Array.getElem?_append_left (by simp)]; rfl
  · rw [Array.getElem?_append_left (by simp)]; rfl
  · rw [Array.getElem?_append_right (by simpa using h3), Array.getElem?_replicate, if_pos (by simp; omega)]
    unfold SS.cell
    rw [if_neg (by omega), if_neg (by omega), if_neg (by omega)]
    split
    · rfl
    · split
      · rfl
      · split <;> rfl
theorem Sys.kern {w : World} {q p b c : Nat} {S : SS} {R : Nat → Int} {s : MS} (h : Sys w q p b c S R s) (k : Int) : Sys (w.setCell ⟨q, 3, none⟩ (.int .i64 k)) q p b c { S with kern := k } R s := by
  have ts : Touch (· = q) w (w.setCell ⟨q, 3, none⟩ (.int .i64 k)) := (Touch.refl (· = q) w).setCell (p := ⟨q, 3, none⟩) rfl _
  refine ⟨⟨(h.sp.row.set 3 _).congr fun i _ => ?_⟩, h.po.touch ts (fun e => h.qp e.symm), h.me.touch ts (fun e => h.qb e.symm) (fun e => h.qc e.symm)⟩
  unfold SS.cell
  by_cases e : i = 3
  · subst e; rfl
  · rw [if_neg e]
    repeat (split <;> try rfl)
theorem Sys.kernT {w : World} {q p b c : Nat} {S : SS} {R : Nat → Int} {s : MS} (_ : Sys w q p b c S R s) (k : Int) : Touch (· = q) w (w.setCell ⟨q, 3, none⟩ (.int .i64 k)) := (Touch.refl (· = q) w).setCell (p := ⟨q, 3, none⟩) rfl _
theorem Sys.user {w : World} {q p b c : Nat} {S : SS} {R : Nat → Int} {s : MS} (h : Sys w q p b c S R s) (k : Int) : Sys (w.setCell ⟨q, 4, none⟩ (.int .i64 k)) q p b c { S with user := k } R s := by
  have ts : Touch (· = q) w (w.setCell ⟨q, 4, none⟩ (.int .i64 k)) := (Touch.refl (· = q) w).setCell (p := ⟨q, 4, none⟩) rfl _
  refine ⟨⟨(h.sp.row.set 4 _).congr fun i _ => ?_⟩, h.po.touch ts (fun e => h.qp e.symm), h.me.touch ts (fun e => h.qb e.symm) (fun e => h.qc e.symm)⟩
  unfold SS.cell
  by_cases e : i = 4
  · subst e; rfl
  · rw [if_neg e]
    repeat (split <;> try rfl)
theorem Sys.userT {w : World} {q p b c : Nat} {S : SS} {R : Nat → Int} {s : MS} (_ : Sys w q p b c S R s) (k : Int) : Touch (· = q) w (w.setCell ⟨q, 4, none⟩ (.int .i64 k)) := (Touch.refl (· = q) w).setCell (p := ⟨q, 4, none⟩) rfl _

set_option maxRecDepth 20000 in
set_option maxHeartbeats 4000000 in
theorem new_yes {w : World} {p b c : Nat} {R : Nat → Int} {s : MS} (po : PoolAt w p b R) (me : MemAt w b c s) (F P : Int) (kpti inv : Bool) (own : Int) (hl : (if kpti = true then 2 else 1) ≤ s.left) :
    Calls Try.prog 13 #[cfV F P kpti inv, .agg #[.int .i64 3, .int .i64 13], .pointer (some ⟨b, 0, none⟩), .pointer (some ⟨p, 0, none⟩), .int .i64 own] w fun e w' => ∃ q, e = .returned (.tuple #[.pointer (some ⟨q, 0, none⟩), .bool true]) ∧ w.heap.size ≤ q ∧ YAt w' q p b c (YS.new own kpti R s) ∧ Touch (fun x => x = p ∨ x = c) w w' := by
  unfold cfV
  cases kpti with
  | true =>
    simp only [if_true] at hl
    have l1 : ¬ ((s.left : Int) < 2) := by omega
    have t0 := ((Touch.refl Nil w).alloc (.cells #[.int .i64 F, .int .i64 P, .bool true, .bool inv] 25)).alloc (.cells #[.int .i64 3, .int .i64 13] 29)
    have po0 := po.touch t0 (fun h => h)
    have me0 := me.touch t0 (fun h => h) (fun h => h)
    have hf : ((w.alloc (.cells #[.int .i64 F, .int .i64 P, .bool true, .bool inv] 25)).alloc (.cells #[.int .i64 3, .int .i64 13] 29)).heap[w.heap.size + 1]? = some (.cells #[.int .i64 3, .int .i64 13] 29 (0, 0)) := by
      have := heap_alloc_new (w.alloc (.cells #[.int .i64 F, .int .i64 P, .bool true, .bool inv] 25)) (.cells #[.int .i64 3, .int .i64 13] 29)
      rw [World.size_alloc] at this
      exact this
    have hg : ((w.alloc (.cells #[.int .i64 F, .int .i64 P, .bool true, .bool inv] 25)).alloc (.cells #[.int .i64 3, .int .i64 13] 29)).heap[w.heap.size]? = some (.cells #[.int .i64 F, .int .i64 P, .bool true, .bool inv] 25 (0, 0)) := (Below.heap_alloc _ _ _ (by simp)).trans (heap_alloc_new w _)
    have hfq := (Below.heap_alloc ((w.alloc (.cells #[.int .i64 F, .int .i64 P, .bool true, .bool inv] 25)).alloc (.cells #[.int .i64 3, .int .i64 13] 29)) (.cells #[.pointer (some ⟨b, 0, none⟩), .pointer (some ⟨p, 0, none⟩), .int .i64 own, .int .i64 0, .int .i64 0, .int .i64 0, .int .i64 0, .int .i64 0, .int .i64 0, .int .i64 0, .int .i64 0, .int .i64 0, .int .i64 0, .int .i64 0, .int .i64 0, .int .i64 0, .int .i64 0, .int .i64 0, .int .i64 0, .int .i64 0, .int .i64 0, .int .i64 0, .int .i64 0, .int .i64 0, .int .i64 0, .int .i64 0, .int .i64 0, .int .i64 0, .int .i64 0, .int .i64 0, .int .i64 0, .int .i64 0, .int .i64 0, .int .i64 0, .int .i64 0, .int .i64 0, .int .i64 0, .int .i64 0, .int .i64 0, .int .i64 0, .int .i64 0] 107) (w.heap.size + 1) (by simp)).trans hf
    have hgq := (Below.heap_alloc ((w.alloc (.cells #[.int .i64 F, .int .i64 P, .bool true, .bool inv] 25)).alloc (.cells #[.int .i64 3, .int .i64 13] 29)) (.cells #[.pointer (some ⟨b, 0, none⟩), .pointer (some ⟨p, 0, none⟩), .int .i64 own, .int .i64 0, .int .i64 0, .int .i64 0, .int .i64 0, .int .i64 0, .int .i64 0, .int .i64 0, .int .i64 0, .int .i64 0, .int .i64 0, .int .i64 0, .int .i64 0, .int .i64 0, .int .i64 0, .int .i64 0, .int .i64 0, .int .i64 0, .int .i64 0, .int .i64 0, .int .i64 0, .int .i64 0, .int .i64 0, .int .i64 0, .int .i64 0, .int .i64 0, .int .i64 0, .int .i64 0, .int .i64 0, .int .i64 0, .int .i64 0, .int .i64 0, .int .i64 0, .int .i64 0, .int .i64 0, .int .i64 0, .int .i64 0, .int .i64 0, .int .i64 0] 107) (w.heap.size) (by simp; omega)).trans hg
    have hsz : ((w.alloc (.cells #[.int .i64 F, .int .i64 P, .bool true, .bool inv] 25)).alloc (.cells #[.int .i64 3, .int .i64 13] 29)).heap.size = w.heap.size + 1 + 1 := by simp
    have tq := t0.alloc (.cells #[.pointer (some ⟨b, 0, none⟩), .pointer (some ⟨p, 0, none⟩), .int .i64 own, .int .i64 0, .int .i64 0, .int .i64 0, .int .i64 0, .int .i64 0, .int .i64 0, .int .i64 0, .int .i64 0, .int .i64 0, .int .i64 0, .int .i64 0, .int .i64 0, .int .i64 0, .int .i64 0, .int .i64 0, .int .i64 0, .int .i64 0, .int .i64 0, .int .i64 0, .int .i64 0, .int .i64 0, .int .i64 0, .int .i64 0, .int .i64 0, .int .i64 0, .int .i64 0, .int .i64 0, .int .i64 0, .int .i64 0, .int .i64 0, .int .i64 0, .int .i64 0, .int .i64 0, .int .i64 0, .int .i64 0, .int .i64 0, .int .i64 0, .int .i64 0] 107)
    have sp0 := space_new ((w.alloc (.cells #[.int .i64 F, .int .i64 P, .bool true, .bool inv] 25)).alloc (.cells #[.int .i64 3, .int .i64 13] 29)) b p own
    rw [hsz] at sp0
    have h0 : Sys (((w.alloc (.cells #[.int .i64 F, .int .i64 P, .bool true, .bool inv] 25)).alloc (.cells #[.int .i64 3, .int .i64 13] 29)).alloc (.cells #[.pointer (some ⟨b, 0, none⟩), .pointer (some ⟨p, 0, none⟩), .int .i64 own, .int .i64 0, .int .i64 0, .int .i64 0, .int .i64 0, .int .i64 0, .int .i64 0, .int .i64 0, .int .i64 0, .int .i64 0, .int .i64 0, .int .i64 0, .int .i64 0, .int .i64 0, .int .i64 0, .int .i64 0, .int .i64 0, .int .i64 0, .int .i64 0, .int .i64 0, .int .i64 0, .int .i64 0, .int .i64 0, .int .i64 0, .int .i64 0, .int .i64 0, .int .i64 0, .int .i64 0, .int .i64 0, .int .i64 0, .int .i64 0, .int .i64 0, .int .i64 0, .int .i64 0, .int .i64 0, .int .i64 0, .int .i64 0, .int .i64 0, .int .i64 0] 107)) (w.heap.size + 1 + 1) p b c ⟨own, 0, 0, fun _ => 0, fun _ => 0⟩ R s := ⟨sp0, po.touch tq (fun h => h), me.touch tq (fun h => h) (fun h => h)⟩
    have hcl : c < w.heap.size := me.row.lt
    have hpl : p < w.heap.size := po.row.lt
    clear sp0 hf hg hsz
    go_enter Try.func13, Try.ntmps13
    go_upto_region 4 with fail
    go_upto_region 7 with (go_at_call 12; refine (pleft_any po0 me0).mono ?_; rintro e wq ⟨rfl, rfl⟩)
    clear po0 me0 t0
    generalize (((w.alloc (.cells #[.int .i64 F, .int .i64 P, .bool true, .bool inv] 25)).alloc (.cells #[.int .i64 3, .int .i64 13] 29)).alloc (.cells #[.pointer (some ⟨b, 0, none⟩), .pointer (some ⟨p, 0, none⟩), .int .i64 own, .int .i64 0, .int .i64 0, .int .i64 0, .int .i64 0, .int .i64 0, .int .i64 0, .int .i64 0, .int .i64 0, .int .i64 0, .int .i64 0, .int .i64 0, .int .i64 0, .int .i64 0, .int .i64 0, .int .i64 0, .int .i64 0, .int .i64 0, .int .i64 0, .int .i64 0, .int .i64 0, .int .i64 0, .int .i64 0, .int .i64 0, .int .i64 0, .int .i64 0, .int .i64 0, .int .i64 0, .int .i64 0, .int .i64 0, .int .i64 0, .int .i64 0, .int .i64 0, .int .i64 0, .int .i64 0, .int .i64 0, .int .i64 0, .int .i64 0, .int .i64 0] 107)) = W at *
    have HF : ∀ wx, Touch (fun x => x = p ∨ x = c ∨ x = w.heap.size + 1 + 1) W wx → wx.cell? ⟨w.heap.size + 1, 0, none⟩ = some (.int .i64 3) ∧ wx.cell? ⟨w.heap.size + 1, 1, none⟩ = some (.int .i64 13) ∧ wx.cell? ⟨w.heap.size, 2, none⟩ = some (.bool true) := fun wx tx => by
      have := (tx.block (w.heap.size + 1) (lt_of_block' hfq) (by omega)).trans hfq
      have h2 := (tx.block w.heap.size (lt_of_block' hgq) (by omega)).trans hgq
      simp [World.cell?, this, h2]
    have t0 : Touch (fun x => x = p ∨ x = c) w W := tq.mono (fun _ _ h => h.elim)
    obtain ⟨q, hq⟩ : ∃ q, Hid (w.heap.size + 1 + 1 = q) := ⟨_, rfl⟩
    have hqn : w.heap.size ≤ q := by rw [← hq.out]; omega
    rw [hq.out] at h0 HF
    rw [hq.out]
    clear hfq hgq tq
    have TT0 : Touch (fun x => x = p ∨ x = c ∨ x = q) W W := Touch.refl _ W
    obtain ⟨k, hk⟩ : ∃ k : Nat, Hid (s.least = k) := ⟨_, rfl⟩
    have hL1 := least_left (s := s) (by omega)
    have hT1 := stake_any h0 (by omega)
    rw [hk.out] at hT1 hL1
    have hk64 : (k : Int) < 64 := by have := hL1.hi; have := me.le; omega
    go_upto_region 8 with (go_at_call 53; refine hT1.mono ?_; rintro e w1 ⟨rfl, h1, t1⟩; have c3 := h1.sp.kernC; have z3 := h1.sp.frozen 3)
    have h2 := h1.kern (k : Int)
    have t2 := (TT0.trans (t1.mono (fun x _ e => by rcases e with e | e; exact Or.inl e; exact Or.inr (Or.inl e)))).trans ((h1.kernT (k : Int)).mono (fun x _ e => Or.inr (Or.inr e)))
    clear c3 z3 hT1 h1 t1 h0 TT0
    generalize w1.setCell ⟨q, 3, none⟩ (.int .i64 (k : Int)) = W1 at *
    have c3 := h2.sp.kernC
    have c4 := h2.sp.userC
    have z4 := h2.sp.frozen 4
    obtain ⟨f0, f1, f2⟩ := HF _ t2
    go_upto_region 9 with fail
    have h3 := h2.user (k : Int)
    have t3 := t2.trans ((h2.userT (k : Int)).mono (fun x _ e => Or.inr (Or.inr e)))
    clear c3 c4 z4 f0 f1 f2 h2 t2
    generalize W1.setCell ⟨q, 4, none⟩ (.int .i64 (k : Int)) = W2 at *
    obtain ⟨f0, f1, f2⟩ := HF _ t3
    have hl2 : 1 ≤ (s.mark (k : Int) 1 own).left := by have := mark_left hL1 own; omega
    obtain ⟨u, hu⟩ : ∃ u : Nat, Hid ((s.mark (k : Int) 1 own).least = u) := ⟨_, rfl⟩
    have hL2 := least_left hl2
    have hT2 := stake_any h3 hl2
    dsimp only at hT2
    rw [hu.out] at hT2 hL2
    have hu64 : (u : Int) < 64 := by have h1 := hL2.hi; have := me.le; rw [MS.mark_n] at h1; omega
    go_upto_region 11 with (go_at_call 53; refine hT2.mono ?_; rintro e w1 ⟨rfl, h4, t4⟩; have c4 := h4.sp.userC; have z4 := h4.sp.frozen 4)
    have h5 := h4.user (u : Int)
    have t5 := (t3.trans (t4.mono (fun x _ e => by rcases e with e | e; exact Or.inl e; exact Or.inr (Or.inl e)))).trans ((h4.userT (u : Int)).mono (fun x _ e => Or.inr (Or.inr e)))
    clear c4 z4 hT2 h4 t4 h3 t3 f0 f1 f2
    generalize w1.setCell ⟨q, 4, none⟩ (.int .i64 (u : Int)) = W5 at *
    dsimp only at h5
    obtain ⟨f0, f1, f2⟩ := HF _ t5
    have hI0 := fun wx => windex_any 256 0 wx
    have hI7 := fun wx => windex_any 448 0 wx
    rw [show pidx 256 0 = 4 by decide] at hI0
    rw [show pidx 448 0 = 7 by decide] at hI7
    have hqc := h5.qc
    have hpc := h5.po.nec h5.me
    have hP1 : ∀ wx, Touch Nil W5 wx → Calls Try.prog 54 #[.pointer (some ⟨b, 0, none⟩), .int .i64 k, .int .i64 4, .agg #[.bool true, .bool true, .bool false, .bool false, .int .i64 3]] wx fun e w' => e = .returned (.tuple #[]) ∧ Sys w' q p b c ⟨own, k, (u : Int), fun _ => 0, fun _ => 0⟩ (rset (rset R k 1) u 1) (((s.mark (k : Int) 1 own).mark (u : Int) 1 own).write (k * 8 + 4) (packV true false false 3)) ∧ Touch (fun x => x = p ∨ x = c ∨ x = q) W w' := fun wx tx => by
      refine (put_any ((h5.nil tx).me) k 4 true false false 3 (by decide) ⟨by omega, by omega⟩ (by decide)).mono ?_
      rintro e w' ⟨rfl, m', t'⟩
      exact ⟨rfl, ⟨(h5.nil tx).sp.touch t' hqc, (h5.nil tx).po.touch t' hpc, m'⟩, (t5.trans (tx.mono (fun _ _ h => h.elim))).trans (t'.mono (fun x _ e => Or.inr (Or.inl e)))⟩
    have td : Touch Nil W5 W5.drew := (Touch.refl _ _).drew
    have tdq : Touch (fun x => x = p ∨ x = c ∨ x = q) W W5.drew := t5.drew
    have c3d := (h5.nil td).sp.kernC
    go_upto_region 11 with fail
    go_region_held3 (fun wx => wx.cell? ⟨q, 3, none⟩ = some (.int .i64 k) ∧ wx.cell? ⟨w.heap.size + 1, 0, none⟩ = some (.int .i64 3)) (first | (exact ⟨c3d, (HF _ tdq).1⟩) | (exact ⟨h6.sp.kernC, (HF _ t6).1⟩))
      (first | (go_at_call 55; with_reducible refine (hI0 _).mono ?_; rintro e wq ⟨rfl, rfl⟩) | (go_at_call 54; with_reducible refine (hP1 _ td).mono ?_; rintro e w6 ⟨rfl, h6, t6⟩))
    have ok6 : SS.ok ⟨own, k, (u : Int), fun _ => 0, fun _ => 0⟩ := ⟨⟨by show (0 : Int) ≤ k; omega, hk64⟩, ⟨by show (0 : Int) ≤ (u : Int); omega, by show (u : Int) < 64; omega⟩, fun _ => ⟨Int.le_refl 0, by show (0 : Int) < 64; decide⟩, fun _ => ⟨Int.le_refl 0, by show (0 : Int) < 64; decide⟩⟩
    have hd6 := h6.drew
    have td6 : Touch (fun x => x = p ∨ x = c ∨ x = q) W w6.drew := t6.drew
    have hPR := putRoots_any hd6 ok6 7 13 (by decide) (by decide)
    clear c3d td tdq hP1 f0 f1 f2 h5 t5
    go_upto_region 12 with fail
    go_region_held3 (fun wx => wx.cell? ⟨w.heap.size + 1, 1, none⟩ = some (.int .i64 13)) (first | (exact (HF _ td6).2.1) | (exact (HF _ t7).2.1))
      (first | (go_at_call 55; with_reducible refine (hI7 _).mono ?_; rintro e wq ⟨rfl, rfl⟩) | (go_at_call 56; with_reducible refine hPR.mono ?_; rintro e w7 ⟨rfl, h7, tt7⟩; have t7 := td6.trans (tt7.mono (fun x _ e => Or.inr (Or.inl e)))))
    go_wp2
    go_ret2
    refine ⟨q, rfl, hqn, ?_, t0.transNew t7 (fun i hi e => by omega)⟩
    have e1 : YS.new own true R s = ⟨⟨own, k, (u : Int), fun _ => 0, fun _ => 0⟩, (rset (rset R k 1) u 1), (((s.mark (k : Int) 1 own).mark (u : Int) 1 own).write (k * 8 + 4) (packV true false false 3)).roots ⟨own, k, (u : Int), fun _ => 0, fun _ => 0⟩ 7 13⟩ := by
      unfold YS.new
      simp only [hk.out, hu.out, if_true]
    rw [e1]
    exact h7

  | false =>
    simp only [if_false, Bool.false_eq_true] at hl
    have l1 : ¬ ((s.left : Int) < 1) := by omega
    have t0 := ((Touch.refl Nil w).alloc (.cells #[.int .i64 F, .int .i64 P, .bool false, .bool inv] 25)).alloc (.cells #[.int .i64 3, .int .i64 13] 29)
    have po0 := po.touch t0 (fun h => h)
    have me0 := me.touch t0 (fun h => h) (fun h => h)
    have hf : ((w.alloc (.cells #[.int .i64 F, .int .i64 P, .bool false, .bool inv] 25)).alloc (.cells #[.int .i64 3, .int .i64 13] 29)).heap[w.heap.size + 1]? = some (.cells #[.int .i64 3, .int .i64 13] 29 (0, 0)) := by
      have := heap_alloc_new (w.alloc (.cells #[.int .i64 F, .int .i64 P, .bool false, .bool inv] 25)) (.cells #[.int .i64 3, .int .i64 13] 29)
      rw [World.size_alloc] at this
      exact this
    have hg : ((w.alloc (.cells #[.int .i64 F, .int .i64 P, .bool false, .bool inv] 25)).alloc (.cells #[.int .i64 3, .int .i64 13] 29)).heap[w.heap.size]? = some (.cells #[.int .i64 F, .int .i64 P, .bool false, .bool inv] 25 (0, 0)) := (Below.heap_alloc _ _ _ (by simp)).trans (heap_alloc_new w _)
    have hfq := (Below.heap_alloc ((w.alloc (.cells #[.int .i64 F, .int .i64 P, .bool false, .bool inv] 25)).alloc (.cells #[.int .i64 3, .int .i64 13] 29)) (.cells #[.pointer (some ⟨b, 0, none⟩), .pointer (some ⟨p, 0, none⟩), .int .i64 own, .int .i64 0, .int .i64 0, .int .i64 0, .int .i64 0, .int .i64 0, .int .i64 0, .int .i64 0, .int .i64 0, .int .i64 0, .int .i64 0, .int .i64 0, .int .i64 0, .int .i64 0, .int .i64 0, .int .i64 0, .int .i64 0, .int .i64 0, .int .i64 0, .int .i64 0, .int .i64 0, .int .i64 0, .int .i64 0, .int .i64 0, .int .i64 0, .int .i64 0, .int .i64 0, .int .i64 0, .int .i64 0, .int .i64 0, .int .i64 0, .int .i64 0, .int .i64 0, .int .i64 0, .int .i64 0, .int .i64 0, .int .i64 0, .int .i64 0, .int .i64 0] 107) (w.heap.size + 1) (by simp)).trans hf
    have hgq := (Below.heap_alloc ((w.alloc (.cells #[.int .i64 F, .int .i64 P, .bool false, .bool inv] 25)).alloc (.cells #[.int .i64 3, .int .i64 13] 29)) (.cells #[.pointer (some ⟨b, 0, none⟩), .pointer (some ⟨p, 0, none⟩), .int .i64 own, .int .i64 0, .int .i64 0, .int .i64 0, .int .i64 0, .int .i64 0, .int .i64 0, .int .i64 0, .int .i64 0, .int .i64 0, .int .i64 0, .int .i64 0, .int .i64 0, .int .i64 0, .int .i64 0, .int .i64 0, .int .i64 0, .int .i64 0, .int .i64 0, .int .i64 0, .int .i64 0, .int .i64 0, .int .i64 0, .int .i64 0, .int .i64 0, .int .i64 0, .int .i64 0, .int .i64 0, .int .i64 0, .int .i64 0, .int .i64 0, .int .i64 0, .int .i64 0, .int .i64 0, .int .i64 0, .int .i64 0, .int .i64 0, .int .i64 0, .int .i64 0] 107) (w.heap.size) (by simp; omega)).trans hg
    have hsz : ((w.alloc (.cells #[.int .i64 F, .int .i64 P, .bool false, .bool inv] 25)).alloc (.cells #[.int .i64 3, .int .i64 13] 29)).heap.size = w.heap.size + 1 + 1 := by simp
    have tq := t0.alloc (.cells #[.pointer (some ⟨b, 0, none⟩), .pointer (some ⟨p, 0, none⟩), .int .i64 own, .int .i64 0, .int .i64 0, .int .i64 0, .int .i64 0, .int .i64 0, .int .i64 0, .int .i64 0, .int .i64 0, .int .i64 0, .int .i64 0, .int .i64 0, .int .i64 0, .int .i64 0, .int .i64 0, .int .i64 0, .int .i64 0, .int .i64 0, .int .i64 0, .int .i64 0, .int .i64 0, .int .i64 0, .int .i64 0, .int .i64 0, .int .i64 0, .int .i64 0, .int .i64 0, .int .i64 0, .int .i64 0, .int .i64 0, .int .i64 0, .int .i64 0, .int .i64 0, .int .i64 0, .int .i64 0, .int .i64 0, .int .i64 0, .int .i64 0, .int .i64 0] 107)
    have sp0 := space_new ((w.alloc (.cells #[.int .i64 F, .int .i64 P, .bool false, .bool inv] 25)).alloc (.cells #[.int .i64 3, .int .i64 13] 29)) b p own
    rw [hsz] at sp0
    have h0 : Sys (((w.alloc (.cells #[.int .i64 F, .int .i64 P, .bool false, .bool inv] 25)).alloc (.cells #[.int .i64 3, .int .i64 13] 29)).alloc (.cells #[.pointer (some ⟨b, 0, none⟩), .pointer (some ⟨p, 0, none⟩), .int .i64 own, .int .i64 0, .int .i64 0, .int .i64 0, .int .i64 0, .int .i64 0, .int .i64 0, .int .i64 0, .int .i64 0, .int .i64 0, .int .i64 0, .int .i64 0, .int .i64 0, .int .i64 0, .int .i64 0, .int .i64 0, .int .i64 0, .int .i64 0, .int .i64 0, .int .i64 0, .int .i64 0, .int .i64 0, .int .i64 0, .int .i64 0, .int .i64 0, .int .i64 0, .int .i64 0, .int .i64 0, .int .i64 0, .int .i64 0, .int .i64 0, .int .i64 0, .int .i64 0, .int .i64 0, .int .i64 0, .int .i64 0, .int .i64 0, .int .i64 0, .int .i64 0] 107)) (w.heap.size + 1 + 1) p b c ⟨own, 0, 0, fun _ => 0, fun _ => 0⟩ R s := ⟨sp0, po.touch tq (fun h => h), me.touch tq (fun h => h) (fun h => h)⟩
    have hcl : c < w.heap.size := me.row.lt
    have hpl : p < w.heap.size := po.row.lt
    clear sp0 hf hg hsz
    go_enter Try.func13, Try.ntmps13
    go_upto_region 4 with fail
    go_upto_region 7 with (go_at_call 12; refine (pleft_any po0 me0).mono ?_; rintro e wq ⟨rfl, rfl⟩)
    clear po0 me0 t0
    generalize (((w.alloc (.cells #[.int .i64 F, .int .i64 P, .bool false, .bool inv] 25)).alloc (.cells #[.int .i64 3, .int .i64 13] 29)).alloc (.cells #[.pointer (some ⟨b, 0, none⟩), .pointer (some ⟨p, 0, none⟩), .int .i64 own, .int .i64 0, .int .i64 0, .int .i64 0, .int .i64 0, .int .i64 0, .int .i64 0, .int .i64 0, .int .i64 0, .int .i64 0, .int .i64 0, .int .i64 0, .int .i64 0, .int .i64 0, .int .i64 0, .int .i64 0, .int .i64 0, .int .i64 0, .int .i64 0, .int .i64 0, .int .i64 0, .int .i64 0, .int .i64 0, .int .i64 0, .int .i64 0, .int .i64 0, .int .i64 0, .int .i64 0, .int .i64 0, .int .i64 0, .int .i64 0, .int .i64 0, .int .i64 0, .int .i64 0, .int .i64 0, .int .i64 0, .int .i64 0, .int .i64 0, .int .i64 0] 107)) = W at *
    have HF : ∀ wx, Touch (fun x => x = p ∨ x = c ∨ x = w.heap.size + 1 + 1) W wx → wx.cell? ⟨w.heap.size + 1, 0, none⟩ = some (.int .i64 3) ∧ wx.cell? ⟨w.heap.size + 1, 1, none⟩ = some (.int .i64 13) ∧ wx.cell? ⟨w.heap.size, 2, none⟩ = some (.bool false) := fun wx tx => by
      have := (tx.block (w.heap.size + 1) (lt_of_block' hfq) (by omega)).trans hfq
      have h2 := (tx.block w.heap.size (lt_of_block' hgq) (by omega)).trans hgq
      simp [World.cell?, this, h2]
    have t0 : Touch (fun x => x = p ∨ x = c) w W := tq.mono (fun _ _ h => h.elim)
    obtain ⟨q, hq⟩ : ∃ q, Hid (w.heap.size + 1 + 1 = q) := ⟨_, rfl⟩
    have hqn : w.heap.size ≤ q := by rw [← hq.out]; omega
    rw [hq.out] at h0 HF
    rw [hq.out]
    clear hfq hgq tq
    have TT0 : Touch (fun x => x = p ∨ x = c ∨ x = q) W W := Touch.refl _ W
    obtain ⟨k, hk⟩ : ∃ k : Nat, Hid (s.least = k) := ⟨_, rfl⟩
    have hL1 := least_left (s := s) (by omega)
    have hT1 := stake_any h0 (by omega)
    rw [hk.out] at hT1 hL1
    have hk64 : (k : Int) < 64 := by have := hL1.hi; have := me.le; omega
    go_upto_region 8 with (go_at_call 53; refine hT1.mono ?_; rintro e w1 ⟨rfl, h1, t1⟩; have c3 := h1.sp.kernC; have z3 := h1.sp.frozen 3)
    have h2 := h1.kern (k : Int)
    have t2 := (TT0.trans (t1.mono (fun x _ e => by rcases e with e | e; exact Or.inl e; exact Or.inr (Or.inl e)))).trans ((h1.kernT (k : Int)).mono (fun x _ e => Or.inr (Or.inr e)))
    clear c3 z3 hT1 h1 t1 h0 TT0
    generalize w1.setCell ⟨q, 3, none⟩ (.int .i64 (k : Int)) = W1 at *
    have c3 := h2.sp.kernC
    have c4 := h2.sp.userC
    have z4 := h2.sp.frozen 4
    obtain ⟨f0, f1, f2⟩ := HF _ t2
    go_upto_region 9 with fail
    have h3 := h2.user (k : Int)
    have t3 := t2.trans ((h2.userT (k : Int)).mono (fun x _ e => Or.inr (Or.inr e)))
    clear c3 c4 z4 f0 f1 f2 h2 t2
    generalize W1.setCell ⟨q, 4, none⟩ (.int .i64 (k : Int)) = W2 at *
    obtain ⟨f0, f1, f2⟩ := HF _ t3
    go_upto_region 11 with fail
    have h5 := h3
    have t5 := t3
    clear h3 t3 f0 f1 f2
    generalize W2 = W5 at *
    dsimp only at h5
    obtain ⟨f0, f1, f2⟩ := HF _ t5
    have hI0 := fun wx => windex_any 256 0 wx
    have hI7 := fun wx => windex_any 448 0 wx
    rw [show pidx 256 0 = 4 by decide] at hI0
    rw [show pidx 448 0 = 7 by decide] at hI7
    have hqc := h5.qc
    have hpc := h5.po.nec h5.me
    have hP1 : ∀ wx, Touch Nil W5 wx → Calls Try.prog 54 #[.pointer (some ⟨b, 0, none⟩), .int .i64 k, .int .i64 4, .agg #[.bool true, .bool true, .bool false, .bool false, .int .i64 3]] wx fun e w' => e = .returned (.tuple #[]) ∧ Sys w' q p b c ⟨own, k, (k : Int), fun _ => 0, fun _ => 0⟩ (rset R k 1) ((s.mark (k : Int) 1 own).write (k * 8 + 4) (packV true false false 3)) ∧ Touch (fun x => x = p ∨ x = c ∨ x = q) W w' := fun wx tx => by
      refine (put_any ((h5.nil tx).me) k 4 true false false 3 (by decide) ⟨by omega, by omega⟩ (by decide)).mono ?_
      rintro e w' ⟨rfl, m', t'⟩
      exact ⟨rfl, ⟨(h5.nil tx).sp.touch t' hqc, (h5.nil tx).po.touch t' hpc, m'⟩, (t5.trans (tx.mono (fun _ _ h => h.elim))).trans (t'.mono (fun x _ e => Or.inr (Or.inl e)))⟩
    have td : Touch Nil W5 W5.drew := (Touch.refl _ _).drew
    have tdq : Touch (fun x => x = p ∨ x = c ∨ x = q) W W5.drew := t5.drew
    have c3d := (h5.nil td).sp.kernC
    go_upto_region 11 with fail
    go_region_held3 (fun wx => wx.cell? ⟨q, 3, none⟩ = some (.int .i64 k) ∧ wx.cell? ⟨w.heap.size + 1, 0, none⟩ = some (.int .i64 3)) (first | (exact ⟨c3d, (HF _ tdq).1⟩) | (exact ⟨h6.sp.kernC, (HF _ t6).1⟩))
      (first | (go_at_call 55; with_reducible refine (hI0 _).mono ?_; rintro e wq ⟨rfl, rfl⟩) | (go_at_call 54; with_reducible refine (hP1 _ td).mono ?_; rintro e w6 ⟨rfl, h6, t6⟩))
    have ok6 : SS.ok ⟨own, k, (k : Int), fun _ => 0, fun _ => 0⟩ := ⟨⟨by show (0 : Int) ≤ k; omega, hk64⟩, ⟨by show (0 : Int) ≤ (k : Int); omega, by show (k : Int) < 64; omega⟩, fun _ => ⟨Int.le_refl 0, by show (0 : Int) < 64; decide⟩, fun _ => ⟨Int.le_refl 0, by show (0 : Int) < 64; decide⟩⟩
    have hd6 := h6.drew
    have td6 : Touch (fun x => x = p ∨ x = c ∨ x = q) W w6.drew := t6.drew
    have hPR := putRoots_any hd6 ok6 7 13 (by decide) (by decide)
    clear c3d td tdq hP1 f0 f1 f2 h5 t5
    go_upto_region 12 with fail
    go_region_held3 (fun wx => wx.cell? ⟨w.heap.size + 1, 1, none⟩ = some (.int .i64 13)) (first | (exact (HF _ td6).2.1) | (exact (HF _ t7).2.1))
      (first | (go_at_call 55; with_reducible refine (hI7 _).mono ?_; rintro e wq ⟨rfl, rfl⟩) | (go_at_call 56; with_reducible refine hPR.mono ?_; rintro e w7 ⟨rfl, h7, tt7⟩; have t7 := td6.trans (tt7.mono (fun x _ e => Or.inr (Or.inl e)))))
    go_wp2
    go_ret2
    refine ⟨q, rfl, hqn, ?_, t0.transNew t7 (fun i hi e => by omega)⟩
    have e1 : YS.new own false R s = ⟨⟨own, k, (k : Int), fun _ => 0, fun _ => 0⟩, (rset R k 1), ((s.mark (k : Int) 1 own).write (k * 8 + 4) (packV true false false 3)).roots ⟨own, k, (k : Int), fun _ => 0, fun _ => 0⟩ 7 13⟩ := by
      unfold YS.new
      simp only [hk.out, if_false, Bool.false_eq_true]
    rw [e1]
    exact h7

end Go.Proofs.Ytaofkedcdeocjaa
