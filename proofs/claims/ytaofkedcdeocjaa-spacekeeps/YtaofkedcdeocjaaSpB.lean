/-
  A process's tables: entries that are put, tables that are taken.
-/
import Derived.Test.YtaofkedcdeocjaaSpA
import Derived.Test.YtaofkedcdeocjaaRows3
import Derived.BigQuiet
import Derived.Deep.RegionHeld3
namespace Go.Proofs.Ytaofkedcdeocjaa
open Go.ChangeShapes Go.WideShapes Go.ChangeAt Go.RowKit

/-- A space with its pool and its memory. -/
structure Sys (w : World) (q p b c : Nat) (S : SS) (R : Nat → Int) (s : MS) : Prop where
  sp : SpAt w q b p S
  po : PoolAt w p b R
  me : MemAt w b c s
namespace Sys
variable {w w' : World} {q p b c : Nat} {S : SS} {R : Nat → Int} {s : MS}
theorem qp (h : Sys w q p b c S R s) : q ≠ p := rowIs_ne h.sp.row h.po.row (by decide)
theorem qb (h : Sys w q p b c S R s) : q ≠ b := by
  obtain ⟨_, ht⟩ := h.me.top
  exact rowIs_ne h.sp.row ht (by decide)
theorem qc (h : Sys w q p b c S R s) : q ≠ c := by
  obtain ⟨_, _, _, hr, _⟩ := h.me.row
  exact rowIs_ne h.sp.row hr (by decide)
theorem nil (h : Sys w q p b c S R s) (t : Touch Nil w w') : Sys w' q p b c S R s := ⟨h.sp.touch t (fun h => h), h.po.touch t (fun h => h), h.me.touch t (fun h => h) (fun h => h)⟩
theorem drew (h : Sys w q p b c S R s) : Sys w.drew q p b c S R s := h.nil ((Touch.refl Nil w).drew)
end Sys

/-- All frames that it names are small numbers. -/
structure SS.ok (S : SS) : Prop where
  k : 0 ≤ S.kern ∧ S.kern < 64
  u : 0 ≤ S.user ∧ S.user < 64
  up : ∀ i, 0 ≤ S.up i ∧ S.up i < 64
  la : ∀ i, 0 ≤ S.la i ∧ S.la i < 64

set_option maxHeartbeats 400000 in
theorem open_any (f : Int) (w : World) :
    Calls Try.prog 58 #[.int .i64 f] w fun e w' => e = .returned (.agg #[.bool true, .bool true, .bool true, .bool false, .int .i64 f]) ∧ Touch Nil w w' := by
  go_enter Try.func58, Try.ntmps58
  go_wp2
  refine bodyPost_ret (v := .agg #[.bool true, .bool true, .bool true, .bool false, .int .i64 f]) (by simp [results, Try.results58, go_sem]) rfl ⟨rfl, (Touch.refl Nil w).alloc _⟩

set_option maxHeartbeats 400000 in
theorem put_any {w : World} {b c : Nat} {s : MS} (m : MemAt w b c s) (tb i : Int) (a u g : Bool) (f : Int) (hf : 0 ≤ f ∧ f < 64) (ht : 0 ≤ tb ∧ tb < 64) (hi : 0 ≤ i ∧ i < 64) :
    Calls Try.prog 54 #[.pointer (some ⟨b, 0, none⟩), .int .i64 tb, .int .i64 i, .agg #[.bool true, .bool a, .bool u, .bool g, .int .i64 f]] w fun e w' => e = .returned (.tuple #[]) ∧ MemAt w' b c (s.write (tb * 8 + i) (packV a u g f)) ∧ Touch (· = c) w w' := by
  have hP := fun wx => pack_ok a u g f wx hf.1 (by omega)
  have h8 : IntKind.i64.wrap (tb * 8) = tb * 8 := by rw [IntKind.wrap_i64]; omega
  have h9 : IntKind.i64.wrap (tb * 8 + i) = tb * 8 + i := by rw [IntKind.wrap_i64]; omega
  generalize packV a u g f = x at *
  have t1 := (Touch.refl Nil w).alloc (.cells #[.bool true, .bool a, .bool u, .bool g, .int .i64 f] 110)
  have t2 := t1.alloc (.cells #[.bool true, .bool a, .bool u, .bool g, .int .i64 f] 110)
  have m2 := m.touch t2 (fun h => h) (fun h => h)
  go_enter Try.func54, Try.ntmps54
  go_upto_region 2 with (go_at_call 86; refine (hP _).mono ?_; rintro e wq ⟨rfl, rfl⟩)
  generalize (w.alloc (.cells #[.bool true, .bool a, .bool u, .bool g, .int .i64 f] 110)).alloc (.cells #[.bool true, .bool a, .bool u, .bool g, .int .i64 f] 110) = W at *
  go_wp2_with (go_at_call 32; refine (write_any m2 _ _ (by omega)).mono ?_; rintro e w3 ⟨rfl, m3, t3⟩)
  go_end0
  exact ⟨rfl, m3, (t2.mono (fun _ _ h => h.elim)).trans t3⟩

/-- An entry that opens a table. -/
def opn (f : Int) : Int := packV true true false f
/-- Both roots have it. -/
def MS.roots (s : MS) (S : SS) (i f : Int) : MS := (s.write (S.kern * 8 + i) (opn f)).write (S.user * 8 + i) (opn f)

set_option maxHeartbeats 2000000 in
theorem putRoots_any {w : World} {q p b c : Nat} {S : SS} {R : Nat → Int} {s : MS} (h : Sys w q p b c S R s) (ok : S.ok) (i f : Int) (hf : 0 ≤ f ∧ f < 64) (hi : 0 ≤ i ∧ i < 64) :
    Calls Try.prog 56 #[.pointer (some ⟨q, 0, none⟩), .int .i64 i, .int .i64 f] w fun e w' => e = .returned (.tuple #[]) ∧ Sys w' q p b c S R (s.roots S i f) ∧ Touch (· = c) w w' := by
  have hO := fun wx => open_any f wx
  have hqc := h.qc
  have hpc := h.po.nec h.me
  have hbc := h.me.ne
  have c0 := h.sp.memC
  have c3 := h.sp.kernC
  have hu := ok.u
  have hk := ok.k
  have S0 : ∀ wx, Touch (· = c) w wx → wx.cell? ⟨q, 0, none⟩ = some (.pointer (some ⟨b, 0, none⟩)) ∧ wx.cell? ⟨q, 3, none⟩ = some (.int .i64 S.kern) ∧ wx.cell? ⟨q, 4, none⟩ = some (.int .i64 S.user) := fun wx tx => by
    have := h.sp.touch tx hqc
    exact ⟨this.memC, this.kernC, this.userC⟩
  obtain ⟨k, hk'⟩ : ∃ k, Hid (S.kern = k) := ⟨_, rfl⟩
  obtain ⟨u, hu'⟩ : ∃ u, Hid (S.user = u) := ⟨_, rfl⟩
  rw [hk'.out, hu'.out] at S0
  rw [hk'.out] at hk c3
  rw [hu'.out] at hu
  have t0 : Touch (· = c) w w.drew := (Touch.refl _ w).drew
  have hP1 : ∀ wx, Touch Nil w.drew wx → Calls Try.prog 54 #[.pointer (some ⟨b, 0, none⟩), .int .i64 k, .int .i64 i, .agg #[.bool true, .bool true, .bool true, .bool false, .int .i64 f]] wx fun e w' => e = .returned (.tuple #[]) ∧ MemAt w' b c (s.write (k * 8 + i) (opn f)) ∧ Touch (· = c) w w' := fun wx tx => by
    refine (put_any ((h.drew.nil tx).me) k i true true false f hf hk hi).mono ?_
    rintro e w' ⟨rfl, m', t'⟩
    exact ⟨rfl, m', t0.trans ((tx.mono (fun _ _ h => h.elim)).trans t')⟩
  go_enter Try.func56, Try.ntmps56
  go_upto_region 0 with fail
  go_region_held3 (fun wx => wx.cell? ⟨q, 0, none⟩ = some (.pointer (some ⟨b, 0, none⟩)) ∧ wx.cell? ⟨q, 3, none⟩ = some (.int .i64 k)) (first | (exact ⟨(S0 _ t0).1, (S0 _ t0).2.1⟩) | (exact ⟨(S0 _ t1).1, (S0 _ t1).2.1⟩) | (exact ⟨(S0 _ t2).1, (S0 _ t2).2.1⟩))
    (first | (go_at_call 58; refine (hO _).mono ?_; rintro e w1 ⟨rfl, tn⟩; have t1 : Touch (· = c) w w1 := t0.trans (tn.mono (fun _ _ h => h.elim))) | (go_at_call 54; with_reducible refine (hP1 _ tn).mono ?_; rintro e w2 ⟨rfl, m2, t2⟩))
  have s2 : Touch (· = c) w w2.drew := t2.drew
  have hP2 : ∀ wx, Touch Nil w2.drew wx → Calls Try.prog 54 #[.pointer (some ⟨b, 0, none⟩), .int .i64 u, .int .i64 i, .agg #[.bool true, .bool true, .bool true, .bool false, .int .i64 f]] wx fun e w' => e = .returned (.tuple #[]) ∧ MemAt w' b c ((s.write (k * 8 + i) (opn f)).write (u * 8 + i) (opn f)) ∧ Touch (· = c) w w' := fun wx tx => by
    refine (put_any ((m2.drew).touch tx (fun h => h) (fun h => h)) u i true true false f hf hu hi).mono ?_
    rintro e w' ⟨rfl, m', t'⟩
    exact ⟨rfl, m', s2.trans ((tx.mono (fun _ _ h => h.elim)).trans t')⟩
  clear tn t1
  go_upto_region 1 with fail
  go_region_held3 (fun wx => wx.cell? ⟨q, 0, none⟩ = some (.pointer (some ⟨b, 0, none⟩)) ∧ wx.cell? ⟨q, 4, none⟩ = some (.int .i64 u)) (first | (exact ⟨(S0 _ s2).1, (S0 _ s2).2.2⟩) | (exact ⟨(S0 _ t4).1, (S0 _ t4).2.2⟩) | (exact ⟨(S0 _ t5).1, (S0 _ t5).2.2⟩))
    (first | (go_at_call 58; refine (hO _).mono ?_; rintro e w4 ⟨rfl, tn⟩; have t4 : Touch (· = c) w w4 := s2.trans (tn.mono (fun _ _ h => h.elim))) | (go_at_call 54; with_reducible refine (hP2 _ tn).mono ?_; rintro e w5 ⟨rfl, m5, t5⟩))
  go_wp2
  go_end0
  refine ⟨rfl, ⟨h.sp.touch t5 hqc, h.po.touch t5 hpc, ?_⟩, t5⟩
  unfold MS.roots
  rw [hk'.out, hu'.out]; exact m5

/-- The least free frame. -/
def MS.least (s : MS) : Nat := ((List.range' 15 (s.n - 15)).find? (fun f => s.C f == 0)).getD 0
theorem least_eq {s : MS} {f : Nat} (h : Least s f) : s.least = f := by
  have : (List.range' 15 (s.n - 15)).find? (fun f => s.C f == 0) = some f := by
    rw [List.find?_eq_some_iff_getElem]
    refine ⟨by simp [h.free], f - 15, by simp; have := h.lo; have := h.hi; omega, by simp; have := h.lo; omega, fun j hj => ?_⟩
    have h1 := h.none (15 + j) (by omega) (by omega)
    simpa using h1
  unfold MS.least; rw [this]; rfl
theorem cnt_zero {C : Nat → Int} : ∀ {k : Nat}, (∀ j, j < k → C (15 + j) ≠ 0) → cnt C k = 0
  | 0, _ => rfl
  | k + 1, h => by rw [cnt, if_neg (h k (by omega)), cnt_zero (fun j hj => h j (by omega))]
theorem least_left {s : MS} (h : 1 ≤ s.left) : Least s s.least := by
  rcases least_or s with ⟨f, hf⟩ | hn
  · rw [least_eq hf]; exact hf
  · exfalso
    have : s.left = 0 := cnt_zero fun j hj => hn (15 + j) (by omega) (by omega)
    omega
theorem cnt_set {C : Nat → Int} {f : Nat} {v : Int} (hf : 15 ≤ f) (h0 : C f = 0) (hv : v ≠ 0) : ∀ k, cnt (fun i => if i = f then v else C i) k + (if f < 15 + k then 1 else 0) = cnt C k
  | 0 => by simp [cnt]; omega
  | k + 1 => by
    have ih := cnt_set hf h0 hv k
    by_cases e : 15 + k = f
    · rw [if_neg (by omega)] at ih
      simp only [cnt, if_pos e, if_neg hv, if_pos (show f < 15 + (k + 1) by omega)]
      rw [e, if_pos h0]; omega
    · simp only [cnt, if_neg e]
      by_cases e2 : f < 15 + k
      · rw [if_pos e2] at ih; simp only [if_pos (show f < 15 + (k + 1) by omega)]; omega
      · rw [if_neg e2] at ih; simp only [if_neg (show ¬ f < 15 + (k + 1) by omega)]; omega
theorem mark_left {s : MS} {f : Nat} (hL : Least s f) (o : Int) : (s.mark (f : Int) 1 o).left + 1 = s.left := by
  have hm : s.mayM (f : Int) 1 = true := by
    unfold MS.mayM
    rw [(s.hasF_iff _).2 ⟨by omega, by have := hL.hi; omega⟩]; rfl
  unfold MS.left MS.mark
  rw [if_pos hm]
  have := cnt_set (v := 1) hL.lo hL.free (by decide) (s.n - 15)
  rw [if_pos (by have := hL.lo; have := hL.hi; omega)] at this
  simpa using this

set_option maxHeartbeats 1000000 in
theorem stake_any {w : World} {q p b c : Nat} {S : SS} {R : Nat → Int} {s : MS} (h : Sys w q p b c S R s) (hl : 1 ≤ s.left) :
    Calls Try.prog 53 #[.pointer (some ⟨q, 0, none⟩)] w fun e w' => e = .returned (.int .i64 s.least) ∧ Sys w' q p b c S (rset R s.least 1) (s.mark s.least 1 S.own) ∧ Touch (fun x => x = p ∨ x = c) w w' := by
  have hL := least_left hl
  have hqc := h.qc
  have hqp := h.qp
  have c1 := h.sp.poolC
  have c2 := h.sp.ownC
  have c1d : w.drew.cell? ⟨q, 1, none⟩ = some (.pointer (some ⟨p, 0, none⟩)) := c1
  have c2d : w.drew.cell? ⟨q, 2, none⟩ = some (.int .i64 S.own) := c2
  have hT := ptake_least h.drew.po h.drew.me 1 S.own (Or.inl rfl) hL
  generalize s.least = f at *
  obtain ⟨o, ho⟩ : ∃ o, Hid (S.own = o) := ⟨_, rfl⟩
  rw [ho.out] at hT c2 c2d
  rw [ho.out]
  go_enter Try.func53, Try.ntmps53
  go_upto_region 1 with fail
  go_region_held3 (fun wx => wx.cell? ⟨q, 1, none⟩ = some (.pointer (some ⟨p, 0, none⟩)) ∧ wx.cell? ⟨q, 2, none⟩ = some (.int .i64 o)) (first | (exact ⟨c1d, c2d⟩) | (exact ⟨sp1.poolC, sp1o⟩))
    (first | (go_at_call 85; with_reducible refine hT.mono ?_; rintro e w1 ⟨rfl, p1, m1, t1⟩; have sp1 := h.drew.sp.touch t1 (by omega); have sp1o := sp1.ownC; rw [ho.out] at sp1o))
  go_wp2
  go_ret
  exact ⟨rfl, ⟨sp1, p1, m1⟩, ((Touch.refl _ w).drew).trans t1⟩

set_option maxHeartbeats 1000000 in
theorem place_any {w : World} {q b p : Nat} {S : SS} (h : SpAt w q b p S) (ok : S.ok) (page : Int) (h0 : 0 ≤ page) (h1 : page < 256) :
    Calls Try.prog 59 #[.pointer (some ⟨q, 0, none⟩), .int .i64 page] w fun e w' => e = .returned (.int .i64 (S.la ((page / 64).toNat * 8 + (page / 8 % 8).toNat) * 8 + page % 8)) ∧ ∃ n, w' = w.drewN n := by
  have hI0 := fun wx => windex_any page 0 wx
  have hI1 := fun wx => windex_any page 1 wx
  have hI2 := fun wx => windex_any page 2 wx
  rw [pidx0 h0 (by omega)] at hI0
  rw [pidx1 h0 (by omega)] at hI1
  rw [pidx2 h0 (by omega)] at hI2
  have i0 : 0 ≤ page / 64 := by omega
  have i1 : page / 64 < 4 := by omega
  have j0 : 0 ≤ page / 8 % 8 := by omega
  have j1 : page / 8 % 8 < 8 := by omega
  have m0 : 0 ≤ page % 8 := by omega
  have m1 : page % 8 < 8 := by omega
  have hc := h.laC (k := (page / 64).toNat * 8 + (page / 8 % 8).toNat) (by omega)
  have hv := ok.la ((page / 64).toNat * 8 + (page / 8 % 8).toNat)
  generalize page / 64 = i at *
  generalize page / 8 % 8 = j at *
  generalize page % 8 = m at *
  generalize S.la (i.toNat * 8 + j.toNat) = v at *
  have h8 : IntKind.i64.wrap (v * 8) = v * 8 := by rw [IntKind.wrap_i64]; omega
  have h9 : IntKind.i64.wrap (v * 8 + m) = v * 8 + m := by rw [IntKind.wrap_i64]; omega
  have hJ0 := fun wx => (hI0 wx).mono (fun e w' (h : _ ∧ _) => And.intro h.1 h.2.symm)
  have hJ1 := fun wx => (hI1 wx).mono (fun e w' (h : _ ∧ _) => And.intro h.1 h.2.symm)
  have hcd : w.cell? ⟨q, 9 + i.toNat * 8 + j.toNat, none⟩ = some (.int .i64 v) := by rw [Nat.add_assoc]; exact hc
  go_enter Try.func59, Try.ntmps59
  go_upto_region 1 with fail
  go_quiet ((go_at_call 55; first | with_reducible exact Calls.quiet_of_same (hJ0 _) | with_reducible exact Calls.quiet_of_same (hJ1 _)))
  go_wp2_with (go_at_call 55; with_reducible refine (hI2 _).mono ?_; rintro e wq ⟨rfl, rfl⟩)
  go_ret
  exact ⟨rfl, _, rfl⟩
end Go.Proofs.Ytaofkedcdeocjaa
