/-
  A process's tables: entries that are put, tables that are taken.
-/
import Derived.Test.YtoododpeoffieaaSpA
import Derived.Test.YtoododpeoffieaaRows3
import Derived.BigQuiet
import Derived.Deep.RegionHeld3
import Derived.Test.YtoododpeoffieaaMemC
import Derived.Lib.SlFresh
import Derived.Test.YtoododpeoffieaaKeepx
import Derived.Deep.RegionWith
import Derived.Test.YtoododpeoffieaaRefPx
import Derived.Test.YtoododpeoffieaaMemFx
import Derived.Deep.CutBlock
import Derived.Deep.QuietTactic
import Derived.Deep.LoopGhost
namespace Go.Proofs.Ytoododpeoffieaa
open Go.ChangeShapes Go.WideShapes Go.ChangeAt Go.RowKit

/-- A space with its pool and its memory. -/
structure Sys (w : World) (q p b c : Nat) (S : SS) (R : Nat → Int) (s : MS) : Prop where
  sp : SpAt w q b p S
  po : PoolAt w p b R
  me : MemAt w b c s
namespace Sys
variable {w w' : World} {q p b c : Nat} {S : SS} {R : Nat → Int} {s : MS}
theorem qp (h : Sys w q p b c S R s) : q ≠ p := rowIs_ne h.sp.row h.po.row (by decide)
theorem qb (h : Sys w q p b c S R s) : q ≠ b := by
  obtain ⟨_, ht⟩ := h.me.top
  exact rowIs_ne h.sp.row ht (by decide)
theorem qc (h : Sys w q p b c S R s) : q ≠ c := by
  obtain ⟨_, _, _, hr, _⟩ := h.me.row
  exact rowIs_ne h.sp.row hr (by decide)
theorem nil (h : Sys w q p b c S R s) (t : Touch Nil w w') : Sys w' q p b c S R s := ⟨h.sp.touch t (fun h => h), h.po.touch t (fun h => h), h.me.touch t (fun h => h) (fun h => h)⟩
theorem drew (h : Sys w q p b c S R s) : Sys w.drew q p b c S R s := h.nil ((Touch.refl Nil w).drew)
end Sys

/-- All frames that it names are small numbers. -/
structure SS.ok (S : SS) : Prop where
  k : 0 ≤ S.kern ∧ S.kern < 64
  u : 0 ≤ S.user ∧ S.user < 64
  up : ∀ i, 0 ≤ S.up i ∧ S.up i < 64
  la : ∀ i, 0 ≤ S.la i ∧ S.la i < 64

set_option maxHeartbeats 400000 in
theorem open_any (f : Int) (w : World) :
    Calls Try.prog 54 #[.int .i64 f] w fun e w' => e = .returned (.agg #[.bool true, .bool true, .bool true, .bool false, .int .i64 f]) ∧ Touch Nil w w' := by
  go_enter Try.func54, Try.ntmps54
  go_wp2
  refine bodyPost_ret (v := .agg #[.bool true, .bool true, .bool true, .bool false, .int .i64 f]) (by simp [results, Try.results54, go_sem]) rfl ⟨rfl, (Touch.refl Nil w).alloc _⟩

set_option maxHeartbeats 400000 in
theorem put_any {w : World} {b c : Nat} {s : MS} (m : MemAt w b c s) (tb i : Int) (a u g : Bool) (f : Int) (hf : 0 ≤ f ∧ f < 64) (ht : 0 ≤ tb ∧ tb < 64) (hi : 0 ≤ i ∧ i < 64) :
    Calls Try.prog 40 #[.pointer (some ⟨b, 0, none⟩), .int .i64 tb, .int .i64 i, .agg #[.bool true, .bool a, .bool u, .bool g, .int .i64 f]] w fun e w' => e = .returned (.tuple #[]) ∧ MemAt w' b c (s.write (tb * 8 + i) (packV a u g f)) ∧ Touch (· = c) w w' := by
  have hP := fun wx => pack_ok a u g f wx hf.1 (by omega)
  have h8 : IntKind.i64.wrap (tb * 8) = tb * 8 := by rw [IntKind.wrap_i64]; omega
  have h9 : IntKind.i64.wrap (tb * 8 + i) = tb * 8 + i := by rw [IntKind.wrap_i64]; omega
  generalize packV a u g f = x at *
  have t1 := (Touch.refl Nil w).alloc (.cells #[.bool true, .bool a, .bool u, .bool g, .int .i64 f] 99)
  have t2 := t1.alloc (.cells #[.bool true, .bool a, .bool u, .bool g, .int .i64 f] 99)
  have m2 := m.touch t2 (fun h => h) (fun h => h)
  go_enter Try.func40, Try.ntmps40
  go_upto_region 2 with (go_at_call 65; refine (hP _).mono ?_; rintro e wq ⟨rfl, rfl⟩)
  generalize (w.alloc (.cells #[.bool true, .bool a, .bool u, .bool g, .int .i64 f] 99)).alloc (.cells #[.bool true, .bool a, .bool u, .bool g, .int .i64 f] 99) = W at *
  go_wp2_with (go_at_call 55; refine (write_any m2 _ _ (by omega)).mono ?_; rintro e w3 ⟨rfl, m3, t3⟩)
  go_end0
  exact ⟨rfl, m3, (t2.mono (fun _ _ h => h.elim)).trans t3⟩

/-- An entry that opens a table. -/
def opn (f : Int) : Int := packV true true false f
/-- Both roots have it. -/
def MS.roots (s : MS) (S : SS) (i f : Int) : MS := (s.write (S.kern * 8 + i) (opn f)).write (S.user * 8 + i) (opn f)

set_option maxHeartbeats 2000000 in
theorem putRoots_any {w : World} {q p b c : Nat} {S : SS} {R : Nat → Int} {s : MS} (h : Sys w q p b c S R s) (ok : S.ok) (i f : Int) (hf : 0 ≤ f ∧ f < 64) (hi : 0 ≤ i ∧ i < 64) :
    Calls Try.prog 42 #[.pointer (some ⟨q, 0, none⟩), .int .i64 i, .int .i64 f] w fun e w' => e = .returned (.tuple #[]) ∧ Sys w' q p b c S R (s.roots S i f) ∧ Touch (· = c) w w' := by
  have hO := fun wx => open_any f wx
  have hqc := h.qc
  have hpc := h.po.nec h.me
  have hbc := h.me.ne
  have c0 := h.sp.memC
  have c3 := h.sp.kernC
  have hu := ok.u
  have hk := ok.k
  have S0 : ∀ wx, Touch (· = c) w wx → wx.cell? ⟨q, 0, none⟩ = some (.pointer (some ⟨b, 0, none⟩)) ∧ wx.cell? ⟨q, 3, none⟩ = some (.int .i64 S.kern) ∧ wx.cell? ⟨q, 4, none⟩ = some (.int .i64 S.user) := fun wx tx => by
    have := h.sp.touch tx hqc
    exact ⟨this.memC, this.kernC, this.userC⟩
  obtain ⟨k, hk'⟩ : ∃ k, Hid (S.kern = k) := ⟨_, rfl⟩
  obtain ⟨u, hu'⟩ : ∃ u, Hid (S.user = u) := ⟨_, rfl⟩
  rw [hk'.out, hu'.out] at S0
  rw [hk'.out] at hk c3
  rw [hu'.out] at hu
  have t0 : Touch (· = c) w w.drew := (Touch.refl _ w).drew
  have hP1 : ∀ wx, Touch Nil w.drew wx → Calls Try.prog 40 #[.pointer (some ⟨b, 0, none⟩), .int .i64 k, .int .i64 i, .agg #[.bool true, .bool true, .bool true, .bool false, .int .i64 f]] wx fun e w' => e = .returned (.tuple #[]) ∧ MemAt w' b c (s.write (k * 8 + i) (opn f)) ∧ Touch (· = c) w w' := fun wx tx => by
    refine (put_any ((h.drew.nil tx).me) k i true true false f hf hk hi).mono ?_
    rintro e w' ⟨rfl, m', t'⟩
    exact ⟨rfl, m', t0.trans ((tx.mono (fun _ _ h => h.elim)).trans t')⟩
  go_enter Try.func42, Try.ntmps42
  go_upto_region 0 with fail
  go_region_held3 (fun wx => wx.cell? ⟨q, 0, none⟩ = some (.pointer (some ⟨b, 0, none⟩)) ∧ wx.cell? ⟨q, 3, none⟩ = some (.int .i64 k)) (first | (exact ⟨(S0 _ t0).1, (S0 _ t0).2.1⟩) | (exact ⟨(S0 _ t1).1, (S0 _ t1).2.1⟩) | (exact ⟨(S0 _ t2).1, (S0 _ t2).2.1⟩))
    (first | (go_at_call 54; refine (hO _).mono ?_; rintro e w1 ⟨rfl, tn⟩; have t1 : Touch (· = c) w w1 := t0.trans (tn.mono (fun _ _ h => h.elim))) | (go_at_call 40; with_reducible refine (hP1 _ tn).mono ?_; rintro e w2 ⟨rfl, m2, t2⟩))
  have s2 : Touch (· = c) w w2.drew := t2.drew
  have hP2 : ∀ wx, Touch Nil w2.drew wx → Calls Try.prog 40 #[.pointer (some ⟨b, 0, none⟩), .int .i64 u, .int .i64 i, .agg #[.bool true, .bool true, .bool true, .bool false, .int .i64 f]] wx fun e w' => e = .returned (.tuple #[]) ∧ MemAt w' b c ((s.write (k * 8 + i) (opn f)).write (u * 8 + i) (opn f)) ∧ Touch (· = c) w w' := fun wx tx => by
    refine (put_any ((m2.drew).touch tx (fun h => h) (fun h => h)) u i true true false f hf hu hi).mono ?_
    rintro e w' ⟨rfl, m', t'⟩
    exact ⟨rfl, m', s2.trans ((tx.mono (fun _ _ h => h.elim)).trans t')⟩
  clear tn t1
  go_upto_region 1 with fail
  go_region_held3 (fun wx => wx.cell? ⟨q, 0, none⟩ = some (.pointer (some ⟨b, 0, none⟩)) ∧ wx.cell? ⟨q, 4, none⟩ = some (.int .i64 u)) (first | (exact ⟨(S0 _ s2).1, (S0 _ s2).2.2⟩) | (exact ⟨(S0 _ t4).1, (S0 _ t4).2.2⟩) | (exact ⟨(S0 _ t5).1, (S0 _ t5).2.2⟩))
    (first | (go_at_call 54; refine (hO _).mono ?_; rintro e w4 ⟨rfl, tn⟩; have t4 : Touch (· = c) w w4 := s2.trans (tn.mono (fun _ _ h => h.elim))) | (go_at_call 40; with_reducible refine (hP2 _ tn).mono ?_; rintro e w5 ⟨rfl, m5, t5⟩))
  go_wp2
  go_end0
  refine ⟨rfl, ⟨h.sp.touch t5 hqc, h.po.touch t5 hpc, ?_⟩, t5⟩
  unfold MS.roots
  rw [hk'.out, hu'.out]; exact m5

/-- The least free frame. -/
def MS.least (s : MS) : Nat := ((List.range' 15 (s.n - 15)).find? (fun f => s.C f == 0)).getD 0
theorem least_eq {s : MS} {f : Nat} (h : Least s f) : s.least = f := by
  have : (List.range' 15 (s.n - 15)).find? (fun f => s.C f == 0) = some f := by
    rw [List.find?_eq_some_iff_getElem]
    refine ⟨by simp [h.free], f - 15, by simp; have := h.lo; have := h.hi; omega, by simp; have := h.lo; omega, fun j hj => ?_⟩
    have h1 := h.none (15 + j) (by omega) (by omega)
    simpa using h1
  unfold MS.least; rw [this]; rfl
theorem cnt_zero {C : Nat → Int} : ∀ {k : Nat}, (∀ j, j < k → C (15 + j) ≠ 0) → cnt C k = 0
  | 0, _ => rfl
  | k + 1, h => by rw [cnt, if_neg (h k (by omega)), cnt_zero (fun j hj => h j (by omega))]
theorem least_left {s : MS} (h : 1 ≤ s.left) : Least s s.least := by
  rcases least_or s with ⟨f, hf⟩ | hn
  · rw [least_eq hf]; exact hf
  · exfalso
    have : s.left = 0 := cnt_zero fun j hj => hn (15 + j) (by omega) (by omega)
    omega
theorem cnt_set {C : Nat → Int} {f : Nat} {v : Int} (hf : 15 ≤ f) (h0 : C f = 0) (hv : v ≠ 0) : ∀ k, cnt (fun i => if i = f then v else C i) k + (if f < 15 + k then 1 else 0) = cnt C k
  | 0 => by simp [cnt]; omega
  | k + 1 => by
    have ih := cnt_set hf h0 hv k
    by_cases e : 15 + k = f
    · rw [if_neg (by omega)] at ih
      simp only [cnt, if_pos e, if_neg hv, if_pos (show f < 15 + (k + 1) by omega)]
      rw [e, if_pos h0]; omega
    · simp only [cnt, if_neg e]
      by_cases e2 : f < 15 + k
      · rw [if_pos e2] at ih; simp only [if_pos (show f < 15 + (k + 1) by omega)]; omega
      · rw [if_neg e2] at ih; simp only [if_neg (show ¬ f < 15 + (k + 1) by omega)]; omega
theorem mark_left {s : MS} {f : Nat} (hL : Least s f) (o : Int) : (s.mark (f : Int) 1 o).left + 1 = s.left := by
  have hm : s.mayM (f : Int) 1 = true := by
    unfold MS.mayM
    rw [(s.hasF_iff _).2 ⟨by omega, by have := hL.hi; omega⟩]; rfl
  unfold MS.left MS.mark
  rw [if_pos hm]
  have := cnt_set (v := 1) hL.lo hL.free (by decide) (s.n - 15)
  rw [if_pos (by have := hL.lo; have := hL.hi; omega)] at this
  simpa using this

set_option maxHeartbeats 1000000 in
theorem stake_any {w : World} {q p b c : Nat} {S : SS} {R : Nat → Int} {s : MS} (h : Sys w q p b c S R s) (hl : 1 ≤ s.left) :
    Calls Try.prog 39 #[.pointer (some ⟨q, 0, none⟩)] w fun e w' => e = .returned (.int .i64 s.least) ∧ Sys w' q p b c S (rset R s.least 1) (s.mark s.least 1 S.own) ∧ Touch (fun x => x = p ∨ x = c) w w' := by
  have hL := least_left hl
  have hqc := h.qc
  have hqp := h.qp
  have c1 := h.sp.poolC
  have c2 := h.sp.ownC
  have c1d : w.drew.cell? ⟨q, 1, none⟩ = some (.pointer (some ⟨p, 0, none⟩)) := c1
  have c2d : w.drew.cell? ⟨q, 2, none⟩ = some (.int .i64 S.own) := c2
  have hT := ptake_least h.drew.po h.drew.me 1 S.own (Or.inl rfl) hL
  generalize s.least = f at *
  obtain ⟨o, ho⟩ : ∃ o, Hid (S.own = o) := ⟨_, rfl⟩
  rw [ho.out] at hT c2 c2d
  rw [ho.out]
  go_enter Try.func39, Try.ntmps39
  go_upto_region 1 with fail
  go_region_held3 (fun wx => wx.cell? ⟨q, 1, none⟩ = some (.pointer (some ⟨p, 0, none⟩)) ∧ wx.cell? ⟨q, 2, none⟩ = some (.int .i64 o)) (first | (exact ⟨c1d, c2d⟩) | (exact ⟨sp1.poolC, sp1o⟩))
    (first | (go_at_call 64; with_reducible refine hT.mono ?_; rintro e w1 ⟨rfl, p1, m1, t1⟩; have sp1 := h.drew.sp.touch t1 (by omega); have sp1o := sp1.ownC; rw [ho.out] at sp1o))
  go_wp2
  go_ret
  exact ⟨rfl, ⟨sp1, p1, m1⟩, ((Touch.refl _ w).drew).trans t1⟩

set_option maxHeartbeats 1000000 in
theorem place_any {w : World} {q b p : Nat} {S : SS} (h : SpAt w q b p S) (ok : S.ok) (page : Int) (h0 : 0 ≤ page) (h1 : page < 256) :
    Calls Try.prog 56 #[.pointer (some ⟨q, 0, none⟩), .int .i64 page] w fun e w' => e = .returned (.int .i64 (S.la ((page / 64).toNat * 8 + (page / 8 % 8).toNat) * 8 + page % 8)) ∧ ∃ n, w' = w.drewN n := by
  have hI0 := fun wx => windex_any page 0 wx
  have hI1 := fun wx => windex_any page 1 wx
  have hI2 := fun wx => windex_any page 2 wx
  rw [pidx0 h0 (by omega)] at hI0
  rw [pidx1 h0 (by omega)] at hI1
  rw [pidx2 h0 (by omega)] at hI2
  have i0 : 0 ≤ page / 64 := by omega
  have i1 : page / 64 < 4 := by omega
  have j0 : 0 ≤ page / 8 % 8 := by omega
  have j1 : page / 8 % 8 < 8 := by omega
  have m0 : 0 ≤ page % 8 := by omega
  have m1 : page % 8 < 8 := by omega
  have hc := h.laC (k := (page / 64).toNat * 8 + (page / 8 % 8).toNat) (by omega)
  have hv := ok.la ((page / 64).toNat * 8 + (page / 8 % 8).toNat)
  generalize page / 64 = i at *
  generalize page / 8 % 8 = j at *
  generalize page % 8 = m at *
  generalize S.la (i.toNat * 8 + j.toNat) = v at *
  have h8 : IntKind.i64.wrap (v * 8) = v * 8 := by rw [IntKind.wrap_i64]; omega
  have h9 : IntKind.i64.wrap (v * 8 + m) = v * 8 + m := by rw [IntKind.wrap_i64]; omega
  have hJ0 := fun wx => (hI0 wx).mono (fun e w' (h : _ ∧ _) => And.intro h.1 h.2.symm)
  have hJ1 := fun wx => (hI1 wx).mono (fun e w' (h : _ ∧ _) => And.intro h.1 h.2.symm)
  have hcd : w.cell? ⟨q, 9 + i.toNat * 8 + j.toNat, none⟩ = some (.int .i64 v) := by rw [Nat.add_assoc]; exact hc
  go_enter Try.func56, Try.ntmps56
  go_upto_region 1 with fail
  go_quiet ((go_at_call 41; first | with_reducible exact Calls.quiet_of_same (hJ0 _) | with_reducible exact Calls.quiet_of_same (hJ1 _)))
  go_wp2_with (go_at_call 41; with_reducible refine (hI2 _).mono ?_; rintro e wq ⟨rfl, rfl⟩)
  go_ret
  exact ⟨rfl, _, rfl⟩
end Go.Proofs.Ytoododpeoffieaa
/-
  A process's tables: Get, Set.
-/
namespace Go.Proofs.Ytoododpeoffieaa
open Go.ChangeShapes Go.WideShapes Go.ChangeAt Go.RowKit

theorem need_one {w : World} {q b p : Nat} {s : SS} (h : SpAt w q b p s) (page : Int) :
    Calls Try.prog 16 #[.pointer (some ⟨q, 0, none⟩), .slice (some ⟨w.heap.size, 0, none⟩) 1 1] (w.alloc (.cells #[.int .i64 page] 3)) fun e w' => e = .returned (.int .i64 (s.need [page])) ∧ Touch Nil w w' := by
  have t := (Touch.refl Nil w).alloc (.cells #[.int .i64 page] 3)
  refine (need_any (h.touch t (fun h => h)) (some ⟨w.heap.size, 0, none⟩) 1 1 [page] (by omega) (Or.inr ⟨w.heap.size, 0, rfl, by simp, fun i hi => ?_⟩) rfl).mono ?_
  · obtain rfl : i = 0 := by omega
    simp [go_sem]
  · rintro e w' ⟨rfl, t'⟩
    exact ⟨rfl, t.transNew t' (fun _ _ h => h)⟩
theorem need_le (s : SS) (page : Int) : s.need [page] ≤ 2 := by
  unfold SS.need
  simp only [List.foldl_cons, List.foldl_nil, needS]
  split
  · simp only [TT.lack]; split <;> split <;> omega
  · simp
theorem need_is {s : SS} {page : Int} (h : s.hasP page = true) : s.need [page] = (if s.up (page / 64).toNat = 0 then 1 else 0) + (if s.la ((page / 64).toNat * 8 + (page / 8 % 8).toNat) = 0 then 1 else 0) := by
  unfold SS.need
  simp [needS, h, TT.lack, SS.tt]

/-- A page's entry. -/
def SS.pl (S : SS) (page : Int) : Int := S.la ((page / 64).toNat * 8 + (page / 8 % 8).toNat) * 8 + page % 8
def getP (S : SS) (s : MS) (page : Int) : Int := if S.hasP page = true ∧ S.need [page] = 0 then s.rd (S.pl page) else 0

theorem place_q {w : World} {q b p : Nat} {S : SS} (h : SpAt w q b p S) (ok : S.ok) (page : Int) (h0 : 0 ≤ page) (h1 : page < 256) (n : Nat) :
    Calls Try.prog 56 #[.pointer (some ⟨q, 0, none⟩), .int .i64 page] (w.drewN n) fun e w' => e = .returned (.int .i64 (S.pl page)) ∧ ∃ m, w' = w.drewN m := by
  refine (place_any (h.drewN n) ok page h0 h1).mono ?_
  rintro e w' ⟨rfl, m, rfl⟩
  exact ⟨rfl, n + m, by rw [World.drewN_drewN]⟩

set_option maxHeartbeats 1000000 in
theorem get_any {w : World} {q p b c : Nat} {S : SS} {R : Nat → Int} {s : MS} (h : Sys w q p b c S R s) (ok : S.ok) (page : Int) :
    Calls Try.prog 20 #[.pointer (some ⟨q, 0, none⟩), .int .i64 page] w fun e w' => e = .returned (.int .u64 (getP S s page)) ∧ Touch Nil w w' := by
  have hH := fun wx (hx : SpAt wx q b p S) => shas_any hx page
  have hN := need_one h.sp page
  have hn2 := need_le S page
  cases hp : S.hasP page
  · have e : getP S s page = 0 := by unfold getP; rw [if_neg (by simp [hp])]
    rw [e]
    simp only [hp] at hH
    go_enter Try.func20, Try.ntmps20
    go_wp2_with (go_at_call 50; refine (hH _ h.sp).mono ?_; rintro e wq ⟨rfl, rfl⟩)
    go_ret
    exact ⟨rfl, Touch.refl _ _⟩
  · simp only [hp] at hH
    obtain ⟨_, h0, h256⟩ := (hasP_iff S page).1 hp
    by_cases hz : S.need [page] = 0
    · have e : getP S s page = s.rd (S.pl page) := by unfold getP; rw [if_pos ⟨hp, hz⟩]
      rw [e]
      clear e
      rw [hz] at hN
      have hl := ok.la ((page / 64).toNat * 8 + (page / 8 % 8).toNat)
      have hpl : S.pl page < 1000 := by unfold SS.pl; omega
      go_enter Try.func20, Try.ntmps20
      go_upto_region 3 with (first | (go_at_call 50; refine (hH _ h.sp).mono ?_; rintro e wq ⟨rfl, rfl⟩) | (go_at_call 16; with_reducible refine hN.mono ?_; rintro e w1 ⟨rfl, t1⟩))
      have h1 := h.nil t1
      have c0 := h1.sp.memC
      have hq := fun n => place_q h1.sp ok page h0 h256 n
      have hR : ∀ n, Calls Try.prog 34 #[.pointer (some ⟨b, 0, none⟩), .int .i64 (S.pl page)] (w1.drewN n) fun e w' => e = .returned (.tuple #[.int .u64 (s.rd (S.pl page)), .bool (s.hasW (S.pl page))]) ∧ ∃ m, w' = w1.drewN m := fun n => by
        refine (read_any (s := s) (c := c) (h1.me.touch ((Touch.refl Nil w1).drews n) (fun h => h) (fun h => h)) (S.pl page) (by omega)).mono ?_
        rintro e w' ⟨rfl, rfl⟩
        exact ⟨rfl, n, rfl⟩
      go_quiet ((first | (go_at_call 56; with_reducible exact hq _) | (go_at_call 34; with_reducible exact hR _)))
      go_wp2
      go_ret
      exact ⟨rfl, t1.drews _⟩
    · have e : getP S s page = 0 := by unfold getP; rw [if_neg (by simp [hz])]
      rw [e]
      have hz' : (0 : Int) < (S.need [page] : Int) := by omega
      generalize S.need [page] = nn at *
      go_enter Try.func20, Try.ntmps20
      go_wp2_with (first | (go_at_call 50; refine (hH _ h.sp).mono ?_; rintro e wq ⟨rfl, rfl⟩) | (go_at_call 16; with_reducible refine hN.mono ?_; rintro e w1 ⟨rfl, t1⟩))
      go_ret
      exact ⟨rfl, t1⟩

/-- A space, its pool, its memory, as plain functions. -/
structure YS where
  S : SS
  R : Nat → Int
  s : MS
def SS.setUp (S : SS) (i : Nat) (f : Int) : SS := { S with up := fun k => if k = i then f else S.up k }
def SS.setLa (S : SS) (i : Nat) (f : Int) : SS := { S with la := fun k => if k = i then f else S.la k }
/-- The upper table is there. -/
def YS.up1 (y : YS) (i : Nat) : YS :=
  if y.S.up i = 0 then ⟨y.S.setUp i y.s.least, rset y.R y.s.least 1, (y.s.mark y.s.least 1 y.S.own).roots y.S i y.s.least⟩ else y
/-- The last table is there. -/
def YS.la1 (y : YS) (i j : Nat) : YS :=
  if y.S.la (i * 8 + j) = 0 then ⟨y.S.setLa (i * 8 + j) y.s.least, rset y.R y.s.least 1, (y.s.mark y.s.least 1 y.S.own).write (y.S.up i * 8 + j) (opn y.s.least)⟩ else y
/-- A page's entry set. -/
def YS.set (y : YS) (page x : Int) : YS :=
  let z := (y.up1 (page / 64).toNat).la1 (page / 64).toNat (page / 8 % 8).toNat
  ⟨z.S, z.R, z.s.write (z.S.pl page) x⟩
def YS.may (y : YS) (page : Int) : Bool := y.S.hasP page && decide (y.S.need [page] ≤ y.s.left)

theorem SpAt.setUp {w : World} {q b p : Nat} {S : SS} (h : SpAt w q b p S) {i : Nat} (hi : i < 4) (f : Int) : SpAt (w.setCell ⟨q, 5 + i, none⟩ (.int .i64 f)) q b p (S.setUp i f) := by
  refine ⟨(h.row.set (5 + i) _).congr fun k hk => ?_⟩
  unfold SS.cell SS.setUp
  by_cases e : k = 5 + i
  · subst e
    rw [if_pos rfl, if_neg (by omega), if_neg (by omega), if_neg (by omega), if_neg (by omega), if_neg (by omega), if_pos (by omega)]
    simp
  · rw [if_neg e]
    repeat (split <;> try rfl)
    dsimp only
    rw [if_neg (by omega)]
theorem SpAt.setLa {w : World} {q b p : Nat} {S : SS} (h : SpAt w q b p S) {i : Nat} (hi : i < 32) (f : Int) : SpAt (w.setCell ⟨q, 9 + i, none⟩ (.int .i64 f)) q b p (S.setLa i f) := by
  refine ⟨(h.row.set (9 + i) _).congr fun k hk => ?_⟩
  unfold SS.cell SS.setLa
  by_cases e : k = 9 + i
  · subst e
    rw [if_pos rfl, if_neg (by omega), if_neg (by omega), if_neg (by omega), if_neg (by omega), if_neg (by omega), if_neg (by omega)]
    simp
  · rw [if_neg e]
    repeat (split <;> try rfl)
    dsimp only
    rw [if_neg (by omega)]
theorem write_left (s : MS) (a x : Int) : (s.write a x).left = s.left := by
  unfold MS.left MS.write; split <;> rfl
theorem least_lt {s : MS} (h : 1 ≤ s.left) (hn : s.n ≤ 64) : (0 : Int) ≤ s.least ∧ (s.least : Int) < 64 ∧ 15 ≤ s.least := by
  have := least_left h
  have := this.hi; have := (least_left h).lo
  omega
theorem up1_ok {y : YS} {i : Nat} (ok : y.S.ok) (hl : y.S.up i = 0 → 1 ≤ y.s.left) (hn : y.s.n ≤ 64) : (y.up1 i).S.ok := by
  unfold YS.up1
  split
  · have hf := least_lt (hl (by assumption)) hn
    refine ⟨ok.k, ok.u, fun k => ?_, ok.la⟩
    unfold SS.setUp
    by_cases e : k = i
    · simp only [if_pos e]; omega
    · simp only [if_neg e]; exact ok.up k
  · exact ok
theorem la1_ok {y : YS} {i j : Nat} (ok : y.S.ok) (hl : y.S.la (i * 8 + j) = 0 → 1 ≤ y.s.left) (hn : y.s.n ≤ 64) : (y.la1 i j).S.ok := by
  unfold YS.la1
  split
  · have hf := least_lt (hl (by assumption)) hn
    refine ⟨ok.k, ok.u, ok.up, fun k => ?_⟩
    unfold SS.setLa
    by_cases e : k = i * 8 + j
    · simp only [if_pos e]; omega
    · simp only [if_neg e]; exact ok.la k
  · exact ok
end Go.Proofs.Ytoododpeoffieaa
/-
  A process's tables: Set.
-/
namespace Go.Proofs.Ytoododpeoffieaa
open Go.ChangeShapes Go.WideShapes Go.ChangeAt Go.RowKit

/-- A space with what is beneath it. -/
abbrev YAt (w : World) (q p b c : Nat) (y : YS) : Prop := Sys w q p b c y.S y.R y.s

theorem may_up {y : YS} {page : Int} (h : y.may page = true) : y.S.up (page / 64).toNat = 0 → 1 ≤ y.s.left := fun hu => by
  simp only [YS.may, Bool.and_eq_true, decide_eq_true_eq] at h
  have := need_is h.1
  rw [if_pos hu] at this
  omega
theorem roots_left (s : MS) (S : SS) (i f : Int) : (s.roots S i f).left = s.left := by unfold MS.roots; rw [write_left, write_left]
theorem roots_n (s : MS) (S : SS) (i f : Int) : (s.roots S i f).n = s.n := by unfold MS.roots; rw [MS.write_n, MS.write_n]
theorem up1_n (y : YS) (i : Nat) : (y.up1 i).s.n = y.s.n := by
  unfold YS.up1; split
  · rw [roots_n, MS.mark_n]
  · rfl
theorem up1_la (y : YS) (i k : Nat) : (y.up1 i).S.la k = y.S.la k := by unfold YS.up1; split <;> rfl
theorem may_la {y : YS} {page : Int} (h : y.may page = true) : (y.up1 (page / 64).toNat).S.la ((page / 64).toNat * 8 + (page / 8 % 8).toNat) = 0 → 1 ≤ (y.up1 (page / 64).toNat).s.left := fun hu => by
  rw [up1_la] at hu
  have hup := may_up h
  simp only [YS.may, Bool.and_eq_true, decide_eq_true_eq] at h
  have := need_is h.1
  rw [if_pos hu] at this
  unfold YS.up1
  split
  · rename_i h0
    rw [if_pos h0] at this
    rw [roots_left]
    have := mark_left (least_left (hup h0)) y.S.own
    omega
  · omega

set_option maxRecDepth 20000 in
set_option maxHeartbeats 4000000 in
theorem set_any {w : World} {q p b c : Nat} {y : YS} (h : YAt w q p b c y) (ok : y.S.ok) (page x : Int) :
    Calls Try.prog 18 #[.pointer (some ⟨q, 0, none⟩), .int .i64 page, .int .u64 x] w fun e w' => e = .returned (.bool (y.may page)) ∧ YAt w' q p b c (if y.may page = true then y.set page x else y) ∧ Touch (fun x => x = q ∨ x = p ∨ x = c) w w' := by
  obtain ⟨m, hm⟩ : ∃ m, Hid (y.may page = m) := ⟨_, rfl⟩
  rw [hm.out]
  go_enter Try.func18, Try.ntmps18
  go_upto_region 1 with fail
  go_cut [24] (fun v wx => v = .bool (!m) ∧ Touch Nil w wx)
  case first =>
    cases hp : y.S.hasP page
    · have hmay : Hid (m = false) := by show _ = _; rw [← hm.out]; unfold YS.may; rw [hp]; rfl
      refine wp_region_held_drew (S := fun wx => wx.cell? ⟨q, 1, none⟩ = some (.pointer (some ⟨p, 0, none⟩))) (by kernel_rfl) h.drew.sp.poolC (fun hHeld => ?_)
      refine wpAnyH_take (i := 0) (oi := { dst := some 9, op := _, type := _, pos := _, after := _, guard := _ }) (v := ?_) rfl (by kernel_rfl) (by kernel_rfl) (by kernel_rfl) (fun _ _ _ h => h) (Or.inl ⟨by rfl, ?_⟩) (by assumption) ?_
      rotate_left
      · intro wz hSw; (try dsimp only at hSw); go_simp; try with_reducible rfl
      (try simp only [Act.put]); (try simp only [List.setIfInBounds_toArray]); (try simp only [List.set_cons_succ]); (try simp only [List.set_cons_zero])
      refine wpAnyH_take (i := 1) (oi := { dst := some 10, op := _, type := _, pos := _, after := _, guard := _ }) (v := ?_) rfl (by kernel_rfl) (by kernel_rfl) (by kernel_rfl) (fun _ _ _ h => h) (Or.inl ⟨by rfl, ?_⟩) (by assumption) ?_
      rotate_left
      · intro wz hSw; (try dsimp only at hSw); go_simp; try with_reducible rfl
      (try simp only [Act.put]); (try simp only [List.setIfInBounds_toArray]); (try simp only [List.set_cons_succ]); (try simp only [List.set_cons_zero])
      have hb : Touch Nil w w.drew := (Touch.refl Nil w).drew
      have hcp : ∀ wx, Touch Nil w wx → wx.cell? ⟨q, 1, none⟩ = some (.pointer (some ⟨p, 0, none⟩)) := fun wx tx => (h.sp.touch tx (fun h => h)).poolC
      refine wpAnyH_ready (rs := [2]) (by kernel_rfl) (by simp) ?_
      refine AllReadyH.cons (o := { dst := some 11, op := _, type := _, pos := _, after := _, guard := _ }) rfl (fun K hK => ?_) AllReadyH.nil
      go_simp
      refine (shas_any h.drew.sp page).mono ?_
      rintro e wq ⟨rfl, rfl⟩
      rw [hp]
      try dsimp only
      refine hK.out _ _ (hcp _ hb) (fun hHeld => ?_)
      clear hK K
      (try simp only [Act.put]); (try simp only [List.setIfInBounds_toArray]); (try simp only [List.set_cons_succ]); (try simp only [List.set_cons_zero])
      refine wpAnyH_take (i := 3) (oi := { dst := some 12, op := _, type := _, pos := _, after := _, guard := _ }) (v := ?_) rfl (by kernel_rfl) (by kernel_rfl) (by kernel_rfl) (fun _ _ _ h => h) (Or.inl ⟨by rfl, ?_⟩) (by assumption) ?_
      rotate_left
      · intro wz hSw; (try dsimp only at hSw); go_simp; try with_reducible rfl
      (try simp only [Act.put]); (try simp only [List.setIfInBounds_toArray]); (try simp only [List.set_cons_succ]); (try simp only [List.set_cons_zero])
      refine wpAnyH_take (i := 4) (oi := { dst := some 13, op := _, type := _, pos := _, after := _, guard := _ }) (v := ?_) rfl (by kernel_rfl) (by kernel_rfl) (by kernel_rfl) (fun _ _ _ h => h) (Or.inl ⟨by rfl, ?_⟩) (by assumption) ?_
      rotate_left
      · intro wz hSw; (try dsimp only at hSw); go_simp; try with_reducible rfl
      (try simp only [Act.put]); (try simp only [List.setIfInBounds_toArray]); (try simp only [List.set_cons_succ]); (try simp only [List.set_cons_zero])
      refine wpAnyH_take (i := 5) (oi := { dst := some 14, op := _, type := _, pos := _, after := _, guard := _ }) (v := undef) rfl (by kernel_rfl) (by kernel_rfl) (by kernel_rfl) (fun _ _ _ h => h) (Or.inr ⟨by kernel_rfl, rfl⟩) (by assumption) ?_
      (try simp only [Act.put]); (try simp only [List.setIfInBounds_toArray]); (try simp only [List.set_cons_succ]); (try simp only [List.set_cons_zero])
      refine wpAnyH_take (i := 6) (oi := { dst := some 15, op := _, type := _, pos := _, after := _, guard := _ }) (v := undef) rfl (by kernel_rfl) (by kernel_rfl) (by kernel_rfl) (fun _ _ _ h => h) (Or.inr ⟨by kernel_rfl, rfl⟩) (by assumption) ?_
      (try simp only [Act.put]); (try simp only [List.setIfInBounds_toArray]); (try simp only [List.set_cons_succ]); (try simp only [List.set_cons_zero])
      refine wpAnyH_take (i := 7) (oi := { dst := some 16, op := _, type := _, pos := _, after := _, guard := _ }) (v := undef) rfl (by kernel_rfl) (by kernel_rfl) (by kernel_rfl) (fun _ _ _ h => h) (Or.inr ⟨by kernel_rfl, rfl⟩) (by assumption) ?_
      (try simp only [Act.put]); (try simp only [List.setIfInBounds_toArray]); (try simp only [List.set_cons_succ]); (try simp only [List.set_cons_zero])
      refine wpAnyH_take (i := 8) (oi := { dst := some 17, op := _, type := _, pos := _, after := _, guard := _ }) (v := undef) rfl (by kernel_rfl) (by kernel_rfl) (by kernel_rfl) (fun _ _ _ h => h) (Or.inr ⟨by kernel_rfl, rfl⟩) (by assumption) ?_
      (try simp only [Act.put]); (try simp only [List.setIfInBounds_toArray]); (try simp only [List.set_cons_succ]); (try simp only [List.set_cons_zero])
      refine wpAnyH_take (i := 9) (oi := { dst := some 18, op := _, type := _, pos := _, after := _, guard := _ }) (v := undef) rfl (by kernel_rfl) (by kernel_rfl) (by kernel_rfl) (fun _ _ _ h => h) (Or.inr ⟨by kernel_rfl, rfl⟩) (by assumption) ?_
      (try simp only [Act.put]); (try simp only [List.setIfInBounds_toArray]); (try simp only [List.set_cons_succ]); (try simp only [List.set_cons_zero])
      refine wpAnyH_take (i := 10) (oi := { dst := some 19, op := _, type := _, pos := _, after := _, guard := _ }) (v := undef) rfl (by kernel_rfl) (by kernel_rfl) (by kernel_rfl) (fun _ _ _ h => h) (Or.inr ⟨by kernel_rfl, rfl⟩) (by assumption) ?_
      (try simp only [Act.put]); (try simp only [List.setIfInBounds_toArray]); (try simp only [List.set_cons_succ]); (try simp only [List.set_cons_zero])
      refine wpAnyH_take (i := 11) (oi := { dst := some 20, op := _, type := _, pos := _, after := _, guard := _ }) (v := undef) rfl (by kernel_rfl) (by kernel_rfl) (by kernel_rfl) (fun _ _ _ h => h) (Or.inr ⟨by kernel_rfl, rfl⟩) (by assumption) ?_
      (try simp only [Act.put]); (try simp only [List.setIfInBounds_toArray]); (try simp only [List.set_cons_succ]); (try simp only [List.set_cons_zero])
      refine wpAnyH_take (i := 12) (oi := { dst := some 21, op := _, type := _, pos := _, after := _, guard := _ }) (v := undef) rfl (by kernel_rfl) (by kernel_rfl) (by kernel_rfl) (fun _ _ _ h => h) (Or.inr ⟨by kernel_rfl, rfl⟩) (by assumption) ?_
      (try simp only [Act.put]); (try simp only [List.setIfInBounds_toArray]); (try simp only [List.set_cons_succ]); (try simp only [List.set_cons_zero])
      refine wpAnyH_take (i := 13) (oi := { dst := some 22, op := _, type := _, pos := _, after := _, guard := _ }) (v := undef) rfl (by kernel_rfl) (by kernel_rfl) (by kernel_rfl) (fun _ _ _ h => h) (Or.inr ⟨by kernel_rfl, rfl⟩) (by assumption) ?_
      (try simp only [Act.put]); (try simp only [List.setIfInBounds_toArray]); (try simp only [List.set_cons_succ]); (try simp only [List.set_cons_zero])
      refine wpAnyH_take (i := 14) (oi := { dst := some 23, op := _, type := _, pos := _, after := _, guard := _ }) (v := undef) rfl (by kernel_rfl) (by kernel_rfl) (by kernel_rfl) (fun _ _ _ h => h) (Or.inr ⟨by kernel_rfl, rfl⟩) (by assumption) ?_
      (try simp only [Act.put]); (try simp only [List.setIfInBounds_toArray]); (try simp only [List.set_cons_succ]); (try simp only [List.set_cons_zero])
      refine wpAnyH_take (i := 15) (oi := { dst := some 24, op := _, type := _, pos := _, after := _, guard := _ }) (v := ?_) rfl (by kernel_rfl) (by kernel_rfl) (by kernel_rfl) (fun _ _ _ h => h) (Or.inl ⟨by rfl, ?_⟩) (by assumption) ?_
      rotate_left
      · intro wz hSw; (try dsimp only at hSw); go_simp; try with_reducible rfl
      (try simp only [Act.put]); (try simp only [List.setIfInBounds_toArray]); (try simp only [List.set_cons_succ]); (try simp only [List.set_cons_zero])
      refine wpAnyH_done (by kernel_rfl) ?_ _
      go_wp2_with fail
      go_meet
      exact ⟨by rw [hmay.out]; rfl, hb⟩
    · have hmay : Hid (m = decide (y.S.need [page] ≤ y.s.left)) := by show _ = _; rw [← hm.out]; unfold YS.may; rw [hp]; rfl
      have hdec : Hid (decide (y.s.left < y.S.need [page]) = !(decide (y.S.need [page] ≤ y.s.left))) := by
        show _ = _
        by_cases hh : y.S.need [page] ≤ y.s.left
        · rw [decide_eq_true hh, decide_eq_false (by omega)]; rfl
        · rw [decide_eq_false hh, decide_eq_true (by omega)]; rfl
      refine wp_region_held_drew (S := fun wx => wx.cell? ⟨q, 1, none⟩ = some (.pointer (some ⟨p, 0, none⟩))) (by kernel_rfl) h.drew.sp.poolC (fun hHeld => ?_)
      refine wpAnyH_take (i := 0) (oi := { dst := some 9, op := _, type := _, pos := _, after := _, guard := _ }) (v := ?_) rfl (by kernel_rfl) (by kernel_rfl) (by kernel_rfl) (fun _ _ _ h => h) (Or.inl ⟨by rfl, ?_⟩) (by assumption) ?_
      rotate_left
      · intro wz hSw; (try dsimp only at hSw); go_simp; try with_reducible rfl
      (try simp only [Act.put]); (try simp only [List.setIfInBounds_toArray]); (try simp only [List.set_cons_succ]); (try simp only [List.set_cons_zero])
      refine wpAnyH_take (i := 1) (oi := { dst := some 10, op := _, type := _, pos := _, after := _, guard := _ }) (v := ?_) rfl (by kernel_rfl) (by kernel_rfl) (by kernel_rfl) (fun _ _ _ h => h) (Or.inl ⟨by rfl, ?_⟩) (by assumption) ?_
      rotate_left
      · intro wz hSw; (try dsimp only at hSw); go_simp; try with_reducible rfl
      (try simp only [Act.put]); (try simp only [List.setIfInBounds_toArray]); (try simp only [List.set_cons_succ]); (try simp only [List.set_cons_zero])
      have hb : Touch Nil w w.drew := (Touch.refl Nil w).drew
      have hcp : ∀ wx, Touch Nil w wx → wx.cell? ⟨q, 1, none⟩ = some (.pointer (some ⟨p, 0, none⟩)) := fun wx tx => (h.sp.touch tx (fun h => h)).poolC
      refine wpAnyH_ready (rs := [2]) (by kernel_rfl) (by simp) ?_
      refine AllReadyH.cons (o := { dst := some 11, op := _, type := _, pos := _, after := _, guard := _ }) rfl (fun K hK => ?_) AllReadyH.nil
      go_simp
      refine (shas_any h.drew.sp page).mono ?_
      rintro e wq ⟨rfl, rfl⟩
      rw [hp]
      try dsimp only
      refine hK.out _ _ (hcp _ hb) (fun hHeld => ?_)
      clear hK K
      (try simp only [Act.put]); (try simp only [List.setIfInBounds_toArray]); (try simp only [List.set_cons_succ]); (try simp only [List.set_cons_zero])
      refine wpAnyH_take (i := 3) (oi := { dst := some 12, op := _, type := _, pos := _, after := _, guard := _ }) (v := ?_) rfl (by kernel_rfl) (by kernel_rfl) (by kernel_rfl) (fun _ _ _ h => h) (Or.inl ⟨by rfl, ?_⟩) (by assumption) ?_
      rotate_left
      · intro wz hSw; (try dsimp only at hSw); go_simp; try with_reducible rfl
      (try simp only [Act.put]); (try simp only [List.setIfInBounds_toArray]); (try simp only [List.set_cons_succ]); (try simp only [List.set_cons_zero])
      refine wpAnyH_take (i := 4) (oi := { dst := some 13, op := _, type := _, pos := _, after := _, guard := _ }) (v := ?_) rfl (by kernel_rfl) (by kernel_rfl) (by kernel_rfl) (fun _ _ _ h => h) (Or.inl ⟨by rfl, ?_⟩) (by assumption) ?_
      rotate_left
      · intro wz hSw; (try dsimp only at hSw); go_simp; try with_reducible rfl
      (try simp only [Act.put]); (try simp only [List.setIfInBounds_toArray]); (try simp only [List.set_cons_succ]); (try simp only [List.set_cons_zero])
      refine wpAnyH_take (i := 5) (oi := { dst := some 14, op := _, type := _, pos := _, after := _, guard := _ }) (v := ?_) rfl (by kernel_rfl) (by kernel_rfl) (by kernel_rfl) (fun _ _ _ h => h) (Or.inl ⟨by rfl, ?_⟩) (by assumption) ?_
      rotate_left
      · intro wz hSw; (try dsimp only at hSw); go_simp; try with_reducible rfl
      (try simp only [Act.put]); (try simp only [List.setIfInBounds_toArray]); (try simp only [List.set_cons_succ]); (try simp only [List.set_cons_zero])
      refine wpAnyH_take (i := 6) (oi := { dst := some 15, op := _, type := _, pos := _, after := _, guard := _ }) (v := ?_) rfl (by kernel_rfl) (by kernel_rfl) (by kernel_rfl) (fun _ _ _ h => h) (Or.inl ⟨by rfl, ?_⟩) (by assumption) ?_
      rotate_left
      · intro wz hSw; (try dsimp only at hSw); go_simp; try with_reducible rfl
      (try simp only [Act.put]); (try simp only [List.setIfInBounds_toArray]); (try simp only [List.set_cons_succ]); (try simp only [List.set_cons_zero])
      refine wpAnyH_take (i := 9) (oi := { dst := some 18, op := _, type := _, pos := _, after := _, guard := _ }) (v := ?_) rfl (by kernel_rfl) (by kernel_rfl) (by kernel_rfl) (fun _ _ _ h => h) (Or.inl ⟨by rfl, ?_⟩) (by assumption) ?_
      rotate_left
      · intro wz hSw; (try dsimp only at hSw); go_simp; try with_reducible rfl
      (try simp only [Act.put]); (try simp only [List.setIfInBounds_toArray]); (try simp only [List.set_cons_succ]); (try simp only [List.set_cons_zero])
      refine wpAnyH_take (i := 10) (oi := { dst := some 19, op := _, type := _, pos := _, after := _, guard := _ }) (v := ?_) rfl (by kernel_rfl) (by kernel_rfl) (by kernel_rfl) (fun _ _ _ h => h) (Or.inl ⟨by rfl, ?_⟩) (by assumption) ?_
      rotate_left
      · intro wz hSw; (try dsimp only at hSw); go_simp; try with_reducible rfl
      (try simp only [Act.put]); (try simp only [List.setIfInBounds_toArray]); (try simp only [List.set_cons_succ]); (try simp only [List.set_cons_zero])
      refine wpAnyH_take (i := 11) (oi := { dst := some 20, op := _, type := _, pos := _, after := _, guard := _ }) (v := ?_) rfl (by kernel_rfl) (by kernel_rfl) (by kernel_rfl) (fun _ _ _ h => h) (Or.inl ⟨by rfl, ?_⟩) (by assumption) ?_
      rotate_left
      · intro wz hSw; (try dsimp only at hSw); go_simp; try with_reducible rfl
      (try simp only [Act.put]); (try simp only [List.setIfInBounds_toArray]); (try simp only [List.set_cons_succ]); (try simp only [List.set_cons_zero])
      refine wpAnyH_take (i := 12) (oi := { dst := some 21, op := _, type := _, pos := _, after := _, guard := _ }) (v := ?_) rfl (by kernel_rfl) (by kernel_rfl) (by kernel_rfl) (fun _ _ _ h => h) (Or.inl ⟨by rfl, ?_⟩) (by assumption) ?_
      rotate_left
      · intro wz hSw; (try dsimp only at hSw); go_simp; try with_reducible rfl
      (try simp only [Act.put]); (try simp only [List.setIfInBounds_toArray]); (try simp only [List.set_cons_succ]); (try simp only [List.set_cons_zero])
      have hN := need_one h.drew.sp page
      have h0d := h.drew
      generalize w.drew = W0 at *
      refine wpAnyH_ready (rs := [7]) (by kernel_rfl) (by simp) ?_
      refine AllReadyH.cons (o := { dst := some 16, op := _, type := _, pos := _, after := _, guard := _ }) rfl (fun K hK => ?_) AllReadyH.nil
      go_simp
      refine hK.out _ _ (hcp _ (hb.alloc _)) (fun hHeld => ?_)
      clear hK K
      (try simp only [Act.put]); (try simp only [List.setIfInBounds_toArray]); (try simp only [List.set_cons_succ]); (try simp only [List.set_cons_zero])
      refine wpAnyH_ready (rs := [8]) (by kernel_rfl) (by simp) ?_
      refine AllReadyH.cons (o := { dst := some 17, op := _, type := _, pos := _, after := _, guard := _ }) rfl (fun K hK => ?_) AllReadyH.nil
      go_simp
      with_reducible refine hN.mono ?_
      rintro e w1 ⟨rfl, t1⟩
      try dsimp only
      have tt := hb.trans t1
      have h1 := h0d.nil t1
      refine hK.out _ _ (hcp _ tt) (fun hHeld => ?_)
      clear hK K
      (try simp only [Act.put]); (try simp only [List.setIfInBounds_toArray]); (try simp only [List.set_cons_succ]); (try simp only [List.set_cons_zero])
      refine wpAnyH_ready (rs := [13]) (by kernel_rfl) (by simp) ?_
      refine AllReadyH.cons (o := { dst := some 22, op := _, type := _, pos := _, after := _, guard := _ }) rfl (fun K hK => ?_) AllReadyH.nil
      go_simp
      refine (pleft_any h1.po h1.me).mono ?_
      rintro e wq ⟨rfl, rfl⟩
      try dsimp only
      refine hK.out _ _ (hcp _ tt) (fun hHeld => ?_)
      clear hK K
      (try simp only [Act.put]); (try simp only [List.setIfInBounds_toArray]); (try simp only [List.set_cons_succ]); (try simp only [List.set_cons_zero])
      refine wpAnyH_take (i := 14) (oi := { dst := some 23, op := _, type := _, pos := _, after := _, guard := _ }) (v := ?_) rfl (by kernel_rfl) (by kernel_rfl) (by kernel_rfl) (fun _ _ _ h => h) (Or.inl ⟨by rfl, ?_⟩) (by assumption) ?_
      rotate_left
      · intro wz hSw; (try dsimp only at hSw); go_simp; try with_reducible rfl
      (try simp only [Act.put]); (try simp only [List.setIfInBounds_toArray]); (try simp only [List.set_cons_succ]); (try simp only [List.set_cons_zero])
      refine wpAnyH_take (i := 15) (oi := { dst := some 24, op := _, type := _, pos := _, after := _, guard := _ }) (v := ?_) rfl (by kernel_rfl) (by kernel_rfl) (by kernel_rfl) (fun _ _ _ h => h) (Or.inl ⟨by rfl, ?_⟩) (by assumption) ?_
      rotate_left
      · intro wz hSw; (try dsimp only at hSw); go_simp; try with_reducible rfl
      (try simp only [Act.put]); (try simp only [List.setIfInBounds_toArray]); (try simp only [List.set_cons_succ]); (try simp only [List.set_cons_zero])
      refine wpAnyH_done (by kernel_rfl) ?_ _
      go_wp2_with fail
      go_meet
      exact ⟨by rw [hmay.out, ← hdec.out], tt⟩
  case rest =>
    obtain ⟨rfl, tn⟩ := hcut
    have h1 := h.nil tn
    have t1 : Touch (fun x => x = q ∨ x = p ∨ x = c) w wc := tn.mono (fun _ _ h => h.elim)
    cases m with
    | false =>
      go_wp2
      go_ret
      exact ⟨rfl, h1, t1⟩
    | true =>
      have hmt := hm.out
      have hup := may_up hmt
      have hla := may_la hmt
      obtain ⟨hk0, h0, h256⟩ := (hasP_iff y.S page).1 (by simp only [YS.may, Bool.and_eq_true] at hmt; exact hmt.1)
      have hI0 := fun wx => windex_any page 0 wx
      have hI1 := fun wx => windex_any page 1 wx
      rw [pidx0 h0 (by omega)] at hI0
      rw [pidx1 h0 (by omega)] at hI1
      have hset : Hid (y.set page x = ⟨((y.up1 (page / 64).toNat).la1 (page / 64).toNat (page / 8 % 8).toNat).S, ((y.up1 (page / 64).toNat).la1 (page / 64).toNat (page / 8 % 8).toNat).R, ((y.up1 (page / 64).toNat).la1 (page / 64).toNat (page / 8 % 8).toNat).s.write (((y.up1 (page / 64).toNat).la1 (page / 64).toNat (page / 8 % 8).toNat).S.pl page) x⟩) := rfl
      have i1 : page / 64 < 4 := by omega
      have j1 : page / 8 % 8 < 8 := by omega
      obtain ⟨i, hi⟩ : ∃ i : Nat, page / 64 = i := ⟨(page / 64).toNat, by omega⟩
      obtain ⟨j, hj⟩ : ∃ j : Nat, page / 8 % 8 = j := ⟨(page / 8 % 8).toNat, by omega⟩
      rw [hi] at hI0 i1
      rw [hj] at hI1 j1
      rw [hi, Int.toNat_natCast] at hup
      rw [hi, hj, Int.toNat_natCast, Int.toNat_natCast] at hla
      have hset' := hset.out
      rw [hi, hj, Int.toNat_natCast, Int.toNat_natCast] at hset'
      have hset2 : Hid (y.set page x = ⟨((y.up1 i).la1 i j).S, ((y.up1 i).la1 i j).R, ((y.up1 i).la1 i j).s.write (((y.up1 i).la1 i j).S.pl page) x⟩) := hset'
      clear hset hset' hmt hm hi hj
      have hupH : Hid (y.S.up i = 0 → 1 ≤ y.s.left) := hup
      have hlaH : Hid ((y.up1 i).S.la (i * 8 + j) = 0 → 1 ≤ (y.up1 i).s.left) := hla
      have hn := h.me.le
      have ok1 := up1_ok ok hup hn
      have ok2 := la1_ok ok1 hla (by rw [up1_n]; exact hn)
      clear hup hla
      have i4 : (i : Int) < 4 := i1
      have j8 : (j : Int) < 8 := j1
      have cu := h1.sp.upC (i := i) (by omega)
      obtain ⟨U, hU⟩ : ∃ U, Hid (y.S.up i = U) := ⟨_, rfl⟩
      rw [hU.out] at cu
      go_upto_if 35 with (go_at_call 41; first | (with_reducible refine (hI0 _).mono ?_; rintro e wq ⟨rfl, rfl⟩) | (with_reducible refine (hI1 _).mono ?_; rintro e wq ⟨rfl, rfl⟩))
      go_cut [35] (fun _ wx => YAt wx q p b c (y.up1 i) ∧ Touch (fun x => x = q ∨ x = p ∨ x = c) w wx)
      case first =>
        by_cases h0 : U = 0
        · have hu0 : y.S.up i = 0 := by rw [hU.out, h0]
          have hl1 := hupH.out hu0
          have e1 : Hid (y.up1 i = ⟨y.S.setUp i y.s.least, rset y.R y.s.least 1, (y.s.mark y.s.least 1 y.S.own).roots y.S i y.s.least⟩) := by show _ = _; unfold YS.up1; rw [if_pos hu0]
          have hfl := least_lt hl1 hn
          have hy := h1
          subst h0
          go_upto_region 5 with fail
          refine wp_region_held_drew (S := fun _ => True) (by kernel_rfl) trivial (fun hHeld => ?_)
          refine wpAnyH_take (i := 0) (oi := { dst := some 36, op := _, type := _, pos := _, after := _, guard := _ }) (v := ?_) rfl (by kernel_rfl) (by kernel_rfl) (by kernel_rfl) (fun _ _ _ h => h) (Or.inl ⟨by rfl, ?_⟩) (by assumption) ?_
          rotate_left
          · intro wz hSw; (try dsimp only at hSw); go_simp; try with_reducible rfl
          (try simp only [Act.put]); (try simp only [List.setIfInBounds_toArray]); (try simp only [List.set_cons_succ]); (try simp only [List.set_cons_zero])
          refine wpAnyH_take (i := 1) (oi := { dst := some 37, op := _, type := _, pos := _, after := _, guard := _ }) (v := ?_) rfl (by kernel_rfl) (by kernel_rfl) (by kernel_rfl) (fun _ _ _ h => h) (Or.inl ⟨by rfl, ?_⟩) (by assumption) ?_
          rotate_left
          · intro wz hSw; (try dsimp only at hSw); go_simp; try with_reducible rfl
          (try simp only [Act.put]); (try simp only [List.setIfInBounds_toArray]); (try simp only [List.set_cons_succ]); (try simp only [List.set_cons_zero])
          refine wpAnyH_take (i := 2) (oi := { dst := some 38, op := _, type := _, pos := _, after := _, guard := _ }) (v := ?_) rfl (by kernel_rfl) (by kernel_rfl) (by kernel_rfl) (fun _ _ _ h => h) (Or.inl ⟨by rfl, ?_⟩) (by assumption) ?_
          rotate_left
          · intro wz hSw; (try dsimp only at hSw); go_simp; try with_reducible rfl
          (try simp only [Act.put]); (try simp only [List.setIfInBounds_toArray]); (try simp only [List.set_cons_succ]); (try simp only [List.set_cons_zero])
          refine wpAnyH_take (i := 4) (oi := { dst := some 40, op := _, type := _, pos := _, after := _, guard := _ }) (v := ?_) rfl (by kernel_rfl) (by kernel_rfl) (by kernel_rfl) (fun _ _ _ h => h) (Or.inl ⟨by rfl, ?_⟩) (by assumption) ?_
          rotate_left
          · intro wz hSw; (try dsimp only at hSw); go_simp; try with_reducible rfl
          (try simp only [Act.put]); (try simp only [List.setIfInBounds_toArray]); (try simp only [List.set_cons_succ]); (try simp only [List.set_cons_zero])
          refine wpAnyH_take (i := 5) (oi := { dst := some 41, op := _, type := _, pos := _, after := _, guard := _ }) (v := ?_) rfl (by kernel_rfl) (by kernel_rfl) (by kernel_rfl) (fun _ _ _ h => h) (Or.inl ⟨by rfl, ?_⟩) (by assumption) ?_
          rotate_left
          · intro wz hSw; (try dsimp only at hSw); go_simp; try with_reducible rfl
          (try simp only [Act.put]); (try simp only [List.setIfInBounds_toArray]); (try simp only [List.set_cons_succ]); (try simp only [List.set_cons_zero])
          have h0d := hy.drew
          have td : Touch (fun x => x = q ∨ x = p ∨ x = c) wc wc.drew := (Touch.refl _ wc).drew
          generalize wc.drew = W0 at *
          refine wpAnyH_ready (rs := [3]) (by kernel_rfl) (by simp) ?_
          refine AllReadyH.cons (o := { dst := some 39, op := _, type := _, pos := _, after := _, guard := _ }) rfl (fun K hK => ?_) AllReadyH.nil
          go_simp
          refine (stake_any h0d hl1).mono ?_
          rintro e w1 ⟨rfl, h1, t1⟩
          try dsimp only
          refine hK.out _ _ trivial (fun hHeld => ?_)
          clear hK K
          (try simp only [Act.put]); (try simp only [List.setIfInBounds_toArray]); (try simp only [List.set_cons_succ]); (try simp only [List.set_cons_zero])
          refine wpAnyH_take (i := 6) (oi := { dst := some 42, op := _, type := _, pos := _, after := _, guard := _ }) (v := ?_) rfl (by kernel_rfl) (by kernel_rfl) (by kernel_rfl) (fun _ _ _ h => h) (Or.inl ⟨by rfl, ?_⟩) (by assumption) ?_
          rotate_left
          · intro wz hSw; (try dsimp only at hSw); go_simp; try with_reducible rfl
          (try simp only [Act.put]); (try simp only [List.setIfInBounds_toArray]); (try simp only [List.set_cons_succ]); (try simp only [List.set_cons_zero])
          have cc := h1.sp.upC (i := i) (by omega)
          have cf := h1.sp.frozen (5 + i)
          refine wpAnyH_ready (rs := [7]) (by kernel_rfl) (by simp) ?_
          refine AllReadyH.cons (o := { dst := none, op := _, type := _, pos := _, after := _, guard := _ }) rfl (fun K hK => ?_) AllReadyH.nil
          go_simp
          refine hK.out _ _ trivial (fun hHeld => ?_)
          clear hK K
          (try simp only [Act.put]); (try simp only [List.setIfInBounds_toArray]); (try simp only [List.set_cons_succ]); (try simp only [List.set_cons_zero])
          refine wpAnyH_done (by kernel_rfl) ?_ _
          have hs1 := h1.sp.setUp (i := i) (by omega) (y.s.least : Int)
          have ts : Touch (· = q) w1 (w1.setCell ⟨q, 5 + i, none⟩ (.int .i64 y.s.least)) := (Touch.refl (· = q) w1).setCell (p := ⟨q, 5 + i, none⟩) rfl _
          have h2 := Sys.mk hs1 (h1.po.touch ts (fun e => h1.qp e.symm)) (h1.me.touch ts (fun e => h1.qb e.symm) (fun e => h1.qc e.symm))
          have t2 := (td.trans (t1.mono (fun x _ e => Or.inr e))).trans (ts.mono (fun x _ e => Or.inl e))
          generalize w1.setCell ⟨q, 5 + i, none⟩ (.int .i64 y.s.least) = W2 at *
          clear cc cf h1 t1 ts hs1 td h0d
          have c5 := h2.sp.upC (i := i) (by omega)
          have c5' : W2.cell? ⟨q, 5 + i, none⟩ = some (.int .i64 y.s.least) := by rw [c5]; simp [SS.setUp]
          clear c5
          have okS : (y.S.setUp i y.s.least).ok := by have := ok1; rw [e1.out] at this; exact this
          have hPR := putRoots_any h2 okS i y.s.least ⟨hfl.1, hfl.2.1⟩ ⟨by omega, by omega⟩
          go_wp2_with (go_at_call 42; refine hPR.mono ?_; rintro e w3 ⟨rfl, h3, t3⟩)
          go_meet
          rw [e1.out]
          exact ⟨h3, (t1.trans t2).trans (t3.mono (fun x _ e => Or.inr (Or.inr e)))⟩
        · have hu0 : y.S.up i ≠ 0 := by rw [hU.out]; exact h0
          have e1 : Hid (y.up1 i = y) := by show _ = _; unfold YS.up1; rw [if_neg hu0]
          have h0' : (U == 0) = false := by simpa using h0
          go_wp2_with fail
          go_meet
          rw [e1.out]
          exact ⟨h1, t1⟩
      case rest =>
        clear h1 t1 cu tn
        obtain ⟨h1, t1⟩ := hcut
        obtain ⟨z, hz⟩ : ∃ z, Hid (y.up1 i = z) := ⟨_, rfl⟩
        rw [hz.out] at h1 ok1 ok2 hlaH hset2
        clear hz hupH hU
        have hn2 := h1.me.le
        have cl : wc.cell? ⟨q, 9 + i * 8 + j, none⟩ = some (.int .i64 (z.S.la (i * 8 + j))) := by rw [Nat.add_assoc]; exact h1.sp.laC (k := i * 8 + j) (by omega)
        obtain ⟨V, hV⟩ : ∃ V, Hid (z.S.la (i * 8 + j) = V) := ⟨_, rfl⟩
        rw [hV.out] at cl
        go_upto_if 60 with fail
        go_cut [60] (fun _ wx => YAt wx q p b c (z.la1 i j) ∧ Touch (fun x => x = q ∨ x = p ∨ x = c) w wx)
        case first =>
          by_cases h0 : V = 0
          · have hu0 : z.S.la (i * 8 + j) = 0 := by rw [hV.out, h0]
            have hl1 := hlaH.out hu0
            have e1 : Hid (z.la1 i j = ⟨z.S.setLa (i * 8 + j) z.s.least, rset z.R z.s.least 1, (z.s.mark z.s.least 1 z.S.own).write (z.S.up i * 8 + j) (opn z.s.least)⟩) := by show _ = _; unfold YS.la1; rw [if_pos hu0]
            have hfl := least_lt hl1 hn2
            have hy := h1
            subst h0
            go_upto_region 8 with fail
            refine wp_region_held_drew (S := fun _ => True) (by kernel_rfl) trivial (fun hHeld => ?_)
            refine wpAnyH_take (i := 0) (oi := { dst := some 61, op := _, type := _, pos := _, after := _, guard := _ }) (v := ?_) rfl (by kernel_rfl) (by kernel_rfl) (by kernel_rfl) (fun _ _ _ h => h) (Or.inl ⟨by rfl, ?_⟩) (by assumption) ?_
            rotate_left
            · intro wz hSw; (try dsimp only at hSw); go_simp; try with_reducible rfl
            (try simp only [Act.put]); (try simp only [List.setIfInBounds_toArray]); (try simp only [List.set_cons_succ]); (try simp only [List.set_cons_zero])
            refine wpAnyH_take (i := 1) (oi := { dst := some 62, op := _, type := _, pos := _, after := _, guard := _ }) (v := ?_) rfl (by kernel_rfl) (by kernel_rfl) (by kernel_rfl) (fun _ _ _ h => h) (Or.inl ⟨by rfl, ?_⟩) (by assumption) ?_
            rotate_left
            · intro wz hSw; (try dsimp only at hSw); go_simp; try with_reducible rfl
            (try simp only [Act.put]); (try simp only [List.setIfInBounds_toArray]); (try simp only [List.set_cons_succ]); (try simp only [List.set_cons_zero])
            refine wpAnyH_take (i := 2) (oi := { dst := some 63, op := _, type := _, pos := _, after := _, guard := _ }) (v := ?_) rfl (by kernel_rfl) (by kernel_rfl) (by kernel_rfl) (fun _ _ _ h => h) (Or.inl ⟨by rfl, ?_⟩) (by assumption) ?_
            rotate_left
            · intro wz hSw; (try dsimp only at hSw); go_simp; try with_reducible rfl
            (try simp only [Act.put]); (try simp only [List.setIfInBounds_toArray]); (try simp only [List.set_cons_succ]); (try simp only [List.set_cons_zero])
            refine wpAnyH_take (i := 3) (oi := { dst := some 64, op := _, type := _, pos := _, after := _, guard := _ }) (v := ?_) rfl (by kernel_rfl) (by kernel_rfl) (by kernel_rfl) (fun _ _ _ h => h) (Or.inl ⟨by rfl, ?_⟩) (by assumption) ?_
            rotate_left
            · intro wz hSw; (try dsimp only at hSw); go_simp; try with_reducible rfl
            (try simp only [Act.put]); (try simp only [List.setIfInBounds_toArray]); (try simp only [List.set_cons_succ]); (try simp only [List.set_cons_zero])
            refine wpAnyH_take (i := 5) (oi := { dst := some 66, op := _, type := _, pos := _, after := _, guard := _ }) (v := ?_) rfl (by kernel_rfl) (by kernel_rfl) (by kernel_rfl) (fun _ _ _ h => h) (Or.inl ⟨by rfl, ?_⟩) (by assumption) ?_
            rotate_left
            · intro wz hSw; (try dsimp only at hSw); go_simp; try with_reducible rfl
            (try simp only [Act.put]); (try simp only [List.setIfInBounds_toArray]); (try simp only [List.set_cons_succ]); (try simp only [List.set_cons_zero])
            refine wpAnyH_take (i := 6) (oi := { dst := some 67, op := _, type := _, pos := _, after := _, guard := _ }) (v := ?_) rfl (by kernel_rfl) (by kernel_rfl) (by kernel_rfl) (fun _ _ _ h => h) (Or.inl ⟨by rfl, ?_⟩) (by assumption) ?_
            rotate_left
            · intro wz hSw; (try dsimp only at hSw); go_simp; try with_reducible rfl
            (try simp only [Act.put]); (try simp only [List.setIfInBounds_toArray]); (try simp only [List.set_cons_succ]); (try simp only [List.set_cons_zero])
            refine wpAnyH_take (i := 7) (oi := { dst := some 68, op := _, type := _, pos := _, after := _, guard := _ }) (v := ?_) rfl (by kernel_rfl) (by kernel_rfl) (by kernel_rfl) (fun _ _ _ h => h) (Or.inl ⟨by rfl, ?_⟩) (by assumption) ?_
            rotate_left
            · intro wz hSw; (try dsimp only at hSw); go_simp; try with_reducible rfl
            (try simp only [Act.put]); (try simp only [List.setIfInBounds_toArray]); (try simp only [List.set_cons_succ]); (try simp only [List.set_cons_zero])
            have h0d := hy.drew
            have td : Touch (fun x => x = q ∨ x = p ∨ x = c) wc wc.drew := (Touch.refl _ wc).drew
            generalize wc.drew = W0 at *
            refine wpAnyH_ready (rs := [4]) (by kernel_rfl) (by simp) ?_
            refine AllReadyH.cons (o := { dst := some 65, op := _, type := _, pos := _, after := _, guard := _ }) rfl (fun K hK => ?_) AllReadyH.nil
            go_simp
            refine (stake_any h0d hl1).mono ?_
            rintro e w1 ⟨rfl, h1, t1⟩
            try dsimp only
            refine hK.out _ _ trivial (fun hHeld => ?_)
            clear hK K
            (try simp only [Act.put]); (try simp only [List.setIfInBounds_toArray]); (try simp only [List.set_cons_succ]); (try simp only [List.set_cons_zero])
            refine wpAnyH_take (i := 8) (oi := { dst := some 69, op := _, type := _, pos := _, after := _, guard := _ }) (v := ?_) rfl (by kernel_rfl) (by kernel_rfl) (by kernel_rfl) (fun _ _ _ h => h) (Or.inl ⟨by rfl, ?_⟩) (by assumption) ?_
            rotate_left
            · intro wz hSw; (try dsimp only at hSw); go_simp; try with_reducible rfl
            (try simp only [Act.put]); (try simp only [List.setIfInBounds_toArray]); (try simp only [List.set_cons_succ]); (try simp only [List.set_cons_zero])
            have cc : w1.cell? ⟨q, 9 + i * 8 + j, none⟩ = some (.int .i64 (z.S.la (i * 8 + j))) := by rw [Nat.add_assoc]; exact h1.sp.laC (k := i * 8 + j) (by omega)
            have cf := h1.sp.frozen (9 + i * 8 + j)
            refine wpAnyH_ready (rs := [9]) (by kernel_rfl) (by simp) ?_
            refine AllReadyH.cons (o := { dst := none, op := _, type := _, pos := _, after := _, guard := _ }) rfl (fun K hK => ?_) AllReadyH.nil
            go_simp
            refine hK.out _ _ trivial (fun hHeld => ?_)
            clear hK K
            (try simp only [Act.put]); (try simp only [List.setIfInBounds_toArray]); (try simp only [List.set_cons_succ]); (try simp only [List.set_cons_zero])
            refine wpAnyH_done (by kernel_rfl) ?_ _
            have hs1 : SpAt (w1.setCell ⟨q, 9 + i * 8 + j, none⟩ (.int .i64 z.s.least)) q b p (z.S.setLa (i * 8 + j) z.s.least) := by rw [Nat.add_assoc]; exact h1.sp.setLa (i := i * 8 + j) (by omega) (z.s.least : Int)
            have ts : Touch (· = q) w1 (w1.setCell ⟨q, 9 + i * 8 + j, none⟩ (.int .i64 z.s.least)) := (Touch.refl (· = q) w1).setCell (p := ⟨q, 9 + i * 8 + j, none⟩) rfl _
            have h2 := Sys.mk hs1 (h1.po.touch ts (fun e => h1.qp e.symm)) (h1.me.touch ts (fun e => h1.qb e.symm) (fun e => h1.qc e.symm))
            have t2 := (td.trans (t1.mono (fun x _ e => Or.inr e))).trans (ts.mono (fun x _ e => Or.inl e))
            generalize w1.setCell ⟨q, 9 + i * 8 + j, none⟩ (.int .i64 z.s.least) = W2 at *
            clear cc cf h1 t1 ts hs1 td h0d
            have hqc := h2.qc
            have S0 : ∀ wx, Touch (· = c) W2 wx → wx.cell? ⟨q, 0, none⟩ = some (.pointer (some ⟨b, 0, none⟩)) ∧ wx.cell? ⟨q, 5 + i, none⟩ = some (.int .i64 (z.S.up i)) ∧ wx.cell? ⟨q, 9 + i * 8 + j, none⟩ = some (.int .i64 z.s.least) := fun wx tx => by
              have sx := h2.sp.touch tx hqc
              refine ⟨sx.memC, sx.upC (i := i) (by omega), ?_⟩
              rw [Nat.add_assoc, sx.laC (k := i * 8 + j) (by omega)]; simp [SS.setLa]
            have hO := fun wx => open_any (z.s.least : Int) wx
            have hui := ok1.up i
            have t0 : Touch (· = c) W2 W2.drew := (Touch.refl _ W2).drew
            have hP1 : ∀ wx, Touch Nil W2.drew wx → Calls Try.prog 40 #[.pointer (some ⟨b, 0, none⟩), .int .i64 (z.S.up i), .int .i64 j, .agg #[.bool true, .bool true, .bool true, .bool false, .int .i64 z.s.least]] wx fun e w' => e = .returned (.tuple #[]) ∧ MemAt w' b c ((z.s.mark z.s.least 1 z.S.own).write (z.S.up i * 8 + j) (opn z.s.least)) ∧ Touch (· = c) W2 w' := fun wx tx => by
              refine (put_any ((h2.drew.nil tx).me) (z.S.up i) j true true false z.s.least ⟨hfl.1, hfl.2.1⟩ hui ⟨by omega, by omega⟩).mono ?_
              rintro e w' ⟨rfl, m', t'⟩
              exact ⟨rfl, m', t0.trans ((tx.mono (fun _ _ h => h.elim)).trans t')⟩
            obtain ⟨u, hu⟩ : ∃ u, Hid (z.S.up i = u) := ⟨_, rfl⟩
            obtain ⟨f, hf⟩ : ∃ f : Int, Hid ((z.s.least : Int) = f) := ⟨_, rfl⟩
            simp only [hu.out, hf.out] at S0 hP1
            rw [hf.out] at hO
            go_upto_region 9 with fail
            go_region_held3 (fun wx => wx.cell? ⟨q, 0, none⟩ = some (.pointer (some ⟨b, 0, none⟩)) ∧ wx.cell? ⟨q, 5 + i, none⟩ = some (.int .i64 u) ∧ wx.cell? ⟨q, 9 + i * 8 + j, none⟩ = some (.int .i64 f)) (first | (exact S0 _ t0) | (exact S0 _ t3) | (exact S0 _ t4))
              (first | (go_at_call 54; refine (hO _).mono ?_; rintro e w3 ⟨rfl, tn3⟩; have t3 : Touch (· = c) W2 w3 := t0.trans (tn3.mono (fun _ _ h => h.elim))) | (go_at_call 40; with_reducible refine (hP1 _ tn3).mono ?_; rintro e w4 ⟨rfl, m4, t4⟩))
            go_wp2_with fail
            go_meet
            rw [e1.out]
            simp only [hu.out, hf.out]
            refine ⟨⟨?_, ?_, m4⟩, (t1.trans t2).trans (t4.mono (fun x _ e => Or.inr (Or.inr e)))⟩
            · have := h2.sp.touch t4 hqc
              rw [hf.out] at this; exact this
            · have := h2.po.touch t4 (h2.po.nec h2.me)
              rw [hf.out] at this; exact this
          · have hu0 : z.S.la (i * 8 + j) ≠ 0 := by rw [hV.out]; exact h0
            have e1 : Hid (z.la1 i j = z) := by show _ = _; unfold YS.la1; rw [if_neg hu0]
            have h0' : (V == 0) = false := by simpa using h0
            go_wp2_with fail
            go_meet
            rw [e1.out]
            exact ⟨h1, t1⟩
        case rest =>
          clear h1 t1 cl hV
          obtain ⟨h1, t1⟩ := hcut
          obtain ⟨v, hv⟩ : ∃ v, Hid (z.la1 i j = v) := ⟨_, rfl⟩
          rw [hv.out] at h1 ok2 hset2
          clear hv hlaH
          have hqc := h1.qc
          have c0 := h1.sp.memC
          have hll := ok2.la ((page / 64).toNat * 8 + (page / 8 % 8).toNat)
          have hpl : v.S.pl page < 1000 := by unfold SS.pl; omega
          have hPl : Calls Try.prog 56 #[.pointer (some ⟨q, 0, none⟩), .int .i64 page] wc.drew fun e w' => e = .returned (.int .i64 (v.S.pl page)) ∧ Touch Nil wc w' := by
            refine (place_any h1.drew.sp ok2 page h0 h256).mono ?_
            rintro e w' ⟨rfl, m, rfl⟩
            exact ⟨rfl, ((Touch.refl Nil wc).drew).drews m⟩
          have c0d : wc.drew.cell? ⟨q, 0, none⟩ = some (.pointer (some ⟨b, 0, none⟩)) := c0
          go_upto_region 10 with fail
          go_region_held3 (fun wx => wx.cell? ⟨q, 0, none⟩ = some (.pointer (some ⟨b, 0, none⟩))) (first | (exact c0d) | (exact s5.memC) | (exact s6.memC))
            (first | (go_at_call 56; with_reducible refine hPl.mono ?_; rintro e w5 ⟨rfl, t5⟩; have s5 := h1.sp.touch t5 (fun h => h); have m5 := h1.me.touch t5 (fun h => h) (fun h => h)) | (go_at_call 55; refine (write_any m5 _ _ (by omega)).mono ?_; rintro e w6 ⟨rfl, m6, t6⟩; have s6 := s5.touch t6 hqc))
          go_wp2
          go_ret
          rw [hset2.out]
          refine ⟨rfl, ⟨s6, (h1.po.touch t5 (fun h => h)).touch t6 (h1.po.nec h1.me), m6⟩, (t1.trans (t5.mono (fun _ _ h => h.elim))).trans (t6.mono (fun x _ e => Or.inr (Or.inr e)))⟩
end Go.Proofs.Ytoododpeoffieaa
/-
  A process's tables: what all share (Boot).
-/
namespace Go.Proofs.Ytoododpeoffieaa
open Go.ChangeShapes Go.WideShapes Go.ChangeAt Go.RowKit

def MS.markL (s : MS) (c : Int) (l : List Nat) : MS := l.foldl (fun s (f : Nat) => s.mark (f : Int) c (-1)) s
def MS.markAll (s : MS) : MS := (((s.mark 0 5 (-1)).markL 4 (List.range' 1 2)).markL 1 (List.range' 3 12)).mark 12 3 (-1)
def MS.mapA (s : MS) (k : Nat) : MS := (List.range k).foldl (fun s (j : Nat) => s.write (3 * 8 + (j : Int)) (packV true false false (4 + (j : Int)))) s
def MS.mapB (s : MS) (g : Bool) (k : Nat) : MS := (List.range k).foldl (fun s (f : Nat) => s.write ((4 + (f : Int) / 8) * 8 + (f : Int) % 8) (packV true false g (f : Int))) s
def MS.layGate (s : MS) : MS := (s.write (13 * 8 + 0) (packV true true false 14)).write (14 * 8 + 0) (packV false true true 12)
/-- What Boot makes of a memory. -/
def MS.boot (s : MS) (kpti : Bool) : MS := ((s.markAll.mapA 8).mapB (!kpti) s.n).layGate

theorem markL_snoc (s : MS) (c : Int) (a k : Nat) : s.markL c (List.range' a (k + 1)) = (s.markL c (List.range' a k)).mark ((a + k : Nat) : Int) c (-1) := by
  unfold MS.markL
  rw [List.range'_concat, List.foldl_append]; simp
theorem mapA_succ (s : MS) (k : Nat) : s.mapA (k + 1) = (s.mapA k).write (3 * 8 + (k : Int)) (packV true false false (4 + (k : Int))) := by
  unfold MS.mapA; rw [List.range_succ, List.foldl_append]; rfl
theorem mapB_zero (s : MS) (g : Bool) : s.mapB g 0 = s := rfl
theorem mapB_succ (s : MS) (g : Bool) (k : Nat) : s.mapB g (k + 1) = (s.mapB g k).write ((4 + (k : Int) / 8) * 8 + (k : Int) % 8) (packV true false g (k : Int)) := by
  unfold MS.mapB; rw [List.range_succ, List.foldl_append]; rfl

set_option maxHeartbeats 1000000 in
theorem markAll_any {w : World} {b c : Nat} {s : MS} (m : MemAt w b c s) :
    Calls Try.prog 28 #[.pointer (some ⟨b, 0, none⟩)] w fun e w' => e = .returned (.tuple #[]) ∧ MemAt w' b c s.markAll ∧ Touch (· = c) w w' := by
  go_enter Try.func28, Try.ntmps28
  go_wp2_with (go_at_call 60; refine (mark_any m _ _ _).mono ?_; rintro e w1 ⟨rfl, m1, t1⟩)
  go_loopg [2] 2 (fun g i wr => ∃ k : Nat, g + k = 2 ∧ i = .int .i64 (1 + (k : Int)) ∧ MemAt wr b c ((s.mark 0 5 (-1)).markL 4 (List.range' 1 k)) ∧ Touch (· = c) w wr)
  case atStart => exact ⟨0, by omega, rfl, m1, t1⟩
  case round =>
    obtain ⟨k, hg, rfl, mk, tk⟩ := hrel
    by_cases hk : k < 2
    · have k1 : 1 + (k : Int) ≤ 2 := by omega
      have hM := mark_any mk ((1 + k : Nat) : Int) 4 (-1)
      rw [← markL_snoc] at hM
      have e : ((1 + k : Nat) : Int) = 1 + (k : Int) := by omega
      rw [e] at hM
      go_wp2_with (go_at_call 60; refine hM.mono ?_; rintro e w2 ⟨rfl, m2, t2⟩)
      go_roundg (2 - (k + 1))
      case measure => omega
      case rel => exact ⟨k + 1, by omega, by go_num, m2, tk.trans t2⟩
    · have k1 : ¬ (1 + (k : Int) ≤ 2) := by omega
      obtain rfl : k = 2 := by omega
      go_wp2_with fail
      go_loopg [3] 12 (fun g i wr => ∃ k : Nat, g + k = 12 ∧ i = .int .i64 (3 + (k : Int)) ∧ MemAt wr b c (((s.mark 0 5 (-1)).markL 4 (List.range' 1 2)).markL 1 (List.range' 3 k)) ∧ Touch (· = c) w wr)
      case atStart => exact ⟨0, by omega, rfl, mk, tk⟩
      case round =>
        clear mk tk hg k1 hk
        obtain ⟨k, hg, rfl, mk, tk⟩ := hrel
        by_cases hk : k < 12
        · have k1 : 3 + (k : Int) ≤ 14 := by omega
          have hM := mark_any mk ((3 + k : Nat) : Int) 1 (-1)
          rw [← markL_snoc] at hM
          have e : ((3 + k : Nat) : Int) = 3 + (k : Int) := by omega
          rw [e] at hM
          go_wp2_with (go_at_call 60; refine hM.mono ?_; rintro e w2 ⟨rfl, m2, t2⟩)
          go_roundg (12 - (k + 1))
          case measure => omega
          case rel => exact ⟨k + 1, by omega, by go_num, m2, tk.trans t2⟩
        · have k1 : ¬ (3 + (k : Int) ≤ 14) := by omega
          obtain rfl : k = 12 := by omega
          go_wp2_with (go_at_call 60; refine (mark_any mk _ _ _).mono ?_; rintro e w2 ⟨rfl, m2, t2⟩)
          go_end0
          exact ⟨rfl, m2, tk.trans t2⟩

set_option maxHeartbeats 1000000 in
theorem layGate_any {w : World} {b c : Nat} {s : MS} (m : MemAt w b c s) :
    Calls Try.prog 30 #[.pointer (some ⟨b, 0, none⟩)] w fun e w' => e = .returned (.tuple #[]) ∧ MemAt w' b c s.layGate ∧ Touch (· = c) w w' := by
  have hI := fun l wx => windex_any 448 l wx
  have hI1 := hI 1
  have hI2 := hI 2
  rw [show pidx 448 1 = 0 by decide] at hI1
  rw [show pidx 448 2 = 0 by decide] at hI2
  go_enter Try.func30, Try.ntmps30
  go_upto_region 1 with (first | (go_at_call 41; with_reducible refine (hI1 _).mono ?_; rintro e wq ⟨rfl, rfl⟩) | (go_at_call 40; refine (put_any m 13 0 true true false 14 (by decide) (by decide) (by decide)).mono ?_; rintro e w1 ⟨rfl, m1, t1⟩))
  go_wp2_with (first | (go_at_call 41; with_reducible refine (hI2 _).mono ?_; rintro e wq ⟨rfl, rfl⟩) | (go_at_call 40; refine (put_any m1 14 0 false true true 12 (by decide) (by decide) (by decide)).mono ?_; rintro e w2 ⟨rfl, m2, t2⟩))
  go_end0
  exact ⟨rfl, m2, t1.trans t2⟩

theorem lt_of_block' {w : World} {k : Nat} {o : Obj} (h : w.heap[k]? = some o) : k < w.heap.size := (Array.getElem?_eq_some_iff.1 h).1
/-- A configuration's value. -/
def cfV (F P : Int) (kpti inv : Bool) : Value := .agg #[.int .i64 F, .int .i64 P, .bool kpti, .bool inv]

set_option maxHeartbeats 2000000 in
theorem layMap_any {w : World} {b c : Nat} {s : MS} (m : MemAt w b c s) (n : Nat) (hn : n ≤ 64) (P : Int) (kpti inv : Bool) :
    Calls Try.prog 29 #[cfV n P kpti inv, .pointer (some ⟨b, 0, none⟩)] w fun e w' => e = .returned (.tuple #[]) ∧ MemAt w' b c ((s.mapA 8).mapB (!kpti) n) ∧ Touch (· = c) w w' := by
  unfold cfV
  go_enter Try.func29, Try.ntmps29
  go_upto_block 0 with fail
  have hb : (w.alloc (.cells #[.int .i64 n, .int .i64 P, .bool kpti, .bool inv] 24)).heap[w.heap.size]? = some (.cells #[.int .i64 n, .int .i64 P, .bool kpti, .bool inv] 24 (0, 0)) := heap_alloc_new w _
  have t0 : Touch (· = c) w _ := (Touch.refl (· = c) w).alloc (.cells #[.int .i64 n, .int .i64 P, .bool kpti, .bool inv] 24)
  have m0 := m.touch ((Touch.refl Nil w).alloc (.cells #[.int .i64 n, .int .i64 P, .bool kpti, .bool inv] 24)) (fun h => h) (fun h => h)
  have hcl : c < w.heap.size := m.row.lt
  generalize w.alloc (.cells #[.int .i64 n, .int .i64 P, .bool kpti, .bool inv] 24) = W at *
  generalize w.heap.size = G at *
  have hlt : G < W.heap.size := lt_of_block' hb
  have HC : ∀ wx, Touch (· = c) W wx → wx.cell? ⟨G, 0, none⟩ = some (.int .i64 n) ∧ wx.cell? ⟨G, 2, none⟩ = some (.bool kpti) := fun wx tx => by
    have := (tx.block G hlt (by omega)).trans hb
    simp [World.cell?, this]
  go_cut [6] (fun _ wx => MemAt wx b c (s.mapA 8) ∧ Touch (· = c) W wx)
  case first =>
    go_wp2_with fail
    go_loopg [6] 8 (fun g i wr => ∃ k : Nat, g + k = 8 ∧ i = .int .i64 k ∧ MemAt wr b c (s.mapA k) ∧ Touch (· = c) W wr)
    case atStart => exact ⟨0, by omega, rfl, m0, Touch.refl _ _⟩
    case round =>
      obtain ⟨k, hg, rfl, mk, tk⟩ := hrel
      by_cases hk : k < 8
      · have k1 : (k : Int) < 8 := by omega
        have hM := put_any mk 3 (k : Int) true false false (4 + (k : Int)) ⟨by omega, by omega⟩ (by decide) ⟨by omega, by omega⟩
        rw [← mapA_succ] at hM
        have hw : IntKind.i64.wrap (4 + (k : Int)) = 4 + (k : Int) := by rw [IntKind.wrap_i64]; omega
        go_wp2_with (go_at_call 40; refine hM.mono ?_; rintro e w2 ⟨rfl, m2, t2⟩)
        go_roundg (8 - (k + 1))
        case measure => omega
        case rel => exact ⟨k + 1, by omega, by go_num, m2, tk.trans t2⟩
      · have k1 : ¬ ((k : Int) < 8) := by omega
        obtain rfl : k = 8 := by omega
        go_wp2_with fail
        go_meet
        exact ⟨mk, tk⟩
  case rest =>
    obtain ⟨m1, t1⟩ := hcut
    obtain ⟨c0, c2⟩ := HC _ t1
    go_wp2_with fail
    go_loopg [18] n (fun g i wr => ∃ k : Nat, g + k = n ∧ i = .int .i64 k ∧ MemAt wr b c ((s.mapA 8).mapB (!kpti) k) ∧ Touch (· = c) W wr)
    case atStart => exact ⟨0, by omega, rfl, by rw [mapB_zero]; exact m1, t1⟩
    case round =>
      clear c0 c2 m1 t1
      obtain ⟨k, hg, rfl, mk, tk⟩ := hrel
      by_cases hk : k < n
      · have k1 : (k : Int) < (n : Int) := by omega
        obtain ⟨c0, c2⟩ := HC _ tk
        have hM := put_any mk (4 + (k : Int) / 8) ((k : Int) % 8) true false (!kpti) (k : Int) ⟨by omega, by omega⟩ ⟨by omega, by omega⟩ ⟨by omega, by omega⟩
        rw [← mapB_succ] at hM
        have e1 : (k : Int).tdiv 8 = (k : Int) / 8 := Int.tdiv_eq_ediv_of_nonneg (by omega)
        have e2 : (k : Int).tmod 8 = (k : Int) % 8 := Int.tmod_eq_emod_of_nonneg (by omega)
        have hw : IntKind.i64.wrap (4 + (k : Int) / 8) = 4 + (k : Int) / 8 := by rw [IntKind.wrap_i64]; omega
        have hw2 : IntKind.i64.wrap ((k : Int) / 8) = (k : Int) / 8 := by rw [IntKind.wrap_i64]; omega
        have hw3 : IntKind.i64.wrap ((k : Int) % 8) = (k : Int) % 8 := by rw [IntKind.wrap_i64]; omega
        go_wp2_with (go_at_call 40; refine hM.mono ?_; rintro e w2 ⟨rfl, m2, t2⟩)
        go_roundg (n - (k + 1))
        case measure => omega
        case rel => exact ⟨k + 1, by omega, by go_num, m2, tk.trans t2⟩
      · have k1 : ¬ ((k : Int) < (n : Int)) := by omega
        obtain rfl : k = n := by omega
        go_wp2_with fail
        go_end0
        exact ⟨rfl, mk, t0.trans tk⟩
end Go.Proofs.Ytoododpeoffieaa
/-
  A process's tables: Boot, New, Roots.
-/
namespace Go.Proofs.Ytoododpeoffieaa
open Go.ChangeShapes Go.WideShapes Go.ChangeAt Go.RowKit

set_option maxHeartbeats 1000000 in
theorem fits_yes {w : World} {b c : Nat} {s : MS} (m : MemAt w b c s) (P : Int) (kpti inv : Bool) (h24 : 24 ≤ s.n) (hP : 1 ≤ P ∧ P ≤ 2) :
    Calls Try.prog 27 #[cfV s.n P kpti inv, .pointer (some ⟨b, 0, none⟩)] w fun e w' => e = .returned (.bool true) ∧ Touch Nil w w' := by
  have hle := m.le
  have g1 : (24 : Int) ≤ (s.n : Int) := by omega
  have g2 : (s.n : Int) ≤ 64 := by omega
  have g3 := hP.1
  have g4 := hP.2
  have t0 := (Touch.refl Nil w).alloc (.cells #[.int .i64 s.n, .int .i64 P, .bool kpti, .bool inv] 24)
  have m0 := m.touch t0 (fun h => h) (fun h => h)
  have hF : ∀ n, Calls Try.prog 32 #[.pointer (some ⟨b, 0, none⟩)] ((w.alloc (.cells #[.int .i64 s.n, .int .i64 P, .bool kpti, .bool inv] 24)).drewN n) fun e w' => e = .returned (.int .i64 s.n) ∧ w' = (w.alloc (.cells #[.int .i64 s.n, .int .i64 P, .bool kpti, .bool inv] 24)).drewN n := fun n => by
    refine (frames_any (m0.touch ((Touch.refl Nil _).drews n) (fun h => h) (fun h => h))).mono ?_
    rintro e w' ⟨rfl, rfl⟩
    exact ⟨rfl, rfl⟩
  have hc0 : (w.alloc (.cells #[.int .i64 s.n, .int .i64 P, .bool kpti, .bool inv] 24)).cell? ⟨w.heap.size, 0, none⟩ = some (.int .i64 s.n) := by simp [go_sem]
  have hc1 : (w.alloc (.cells #[.int .i64 s.n, .int .i64 P, .bool kpti, .bool inv] 24)).cell? ⟨w.heap.size, 1, none⟩ = some (.int .i64 P) := by simp [go_sem]
  unfold cfV
  go_enter Try.func27, Try.ntmps27
  go_upto_region 1 with fail
  generalize w.alloc (.cells #[.int .i64 s.n, .int .i64 P, .bool kpti, .bool inv] 24) = W at *
  generalize w.heap.size = G at *
  generalize (s.n : Int) = F at *
  have hFF : (F == F) = true := by simp
  go_quiet ((go_at_call 32; with_reducible exact Calls.quiet_of_same (hF _)))
  go_wp2
  go_ret
  exact ⟨rfl, t0.drews _⟩

set_option maxHeartbeats 1000000 in
theorem boot_yes {w : World} {b c : Nat} {s : MS} (m : MemAt w b c s) (P : Int) (kpti inv : Bool) (h24 : 24 ≤ s.n) (hP : 1 ≤ P ∧ P ≤ 2) :
    Calls Try.prog 8 #[cfV s.n P kpti inv, .pointer (some ⟨b, 0, none⟩)] w fun e w' => e = .returned (.tuple #[.agg #[.int .i64 3, .int .i64 13], .bool true]) ∧ MemAt w' b c (s.boot kpti) ∧ Touch (· = c) w w' := by
  have hle := m.le
  have hcl : c < w.heap.size := m.row.lt
  have hf := fun wx (tx : Touch Nil w wx) => fits_yes (m.touch tx (fun h => h) (fun h => h)) P kpti inv h24 hP
  have t0 := ((Touch.refl Nil w).alloc (.cells #[.int .i64 s.n, .int .i64 P, .bool kpti, .bool inv] 24)).alloc (.cells #[.int .i64 0, .int .i64 0] 33)
  have hg : ((w.alloc (.cells #[.int .i64 s.n, .int .i64 P, .bool kpti, .bool inv] 24)).alloc (.cells #[.int .i64 0, .int .i64 0] 33)).heap[w.heap.size]? = some (.cells #[.int .i64 s.n, .int .i64 P, .bool kpti, .bool inv] 24 (0, 0)) := (Below.heap_alloc _ _ _ (by simp)).trans (heap_alloc_new w _)
  have hk : ((w.alloc (.cells #[.int .i64 s.n, .int .i64 P, .bool kpti, .bool inv] 24)).alloc (.cells #[.int .i64 0, .int .i64 0] 33)).heap[w.heap.size + 1]? = some (.cells #[.int .i64 0, .int .i64 0] 33 (0, 0)) := by
    have := heap_alloc_new (w.alloc (.cells #[.int .i64 s.n, .int .i64 P, .bool kpti, .bool inv] 24)) (.cells #[.int .i64 0, .int .i64 0] 33)
    rw [World.size_alloc] at this
    exact this
  unfold cfV at *
  go_enter Try.func8, Try.ntmps8
  go_upto_region 1 with fail
  generalize (w.alloc (.cells #[.int .i64 s.n, .int .i64 P, .bool kpti, .bool inv] 24)).alloc (.cells #[.int .i64 0, .int .i64 0] 33) = W at *
  have hlt : w.heap.size + 1 < W.heap.size := lt_of_block' hk
  have HG : ∀ wx, Touch (· = c) W wx → (wx.cell? ⟨w.heap.size, 0, none⟩ = some (.int .i64 s.n) ∧ wx.cell? ⟨w.heap.size, 1, none⟩ = some (.int .i64 P) ∧ wx.cell? ⟨w.heap.size, 2, none⟩ = some (.bool kpti) ∧ wx.cell? ⟨w.heap.size, 3, none⟩ = some (.bool inv)) ∧ wx.cell? ⟨w.heap.size + 1, 0, none⟩ = some (.int .i64 0) ∧ wx.cell? ⟨w.heap.size + 1, 1, none⟩ = some (.int .i64 0) ∧ ∀ i, wx.frozen? ⟨w.heap.size + 1, i, none⟩ = false := fun wx tx => by
    have h1 := (tx.block w.heap.size (by omega) (by omega)).trans hg
    have h2 := (tx.block (w.heap.size + 1) (by omega) (by omega)).trans hk
    simp [World.cell?, World.frozen?, h1, h2]
  obtain ⟨⟨a0, a1, a2, a3⟩, _⟩ := HG _ (Touch.refl _ W)
  go_wp2_with fail
  refine (hf _ t0).mono ?_
  rintro e w1 ⟨rfl, t1⟩
  have t1c : Touch (· = c) W w1 := t1.mono (fun _ _ h => h.elim)
  have m1 := (m.touch t0 (fun h => h) (fun h => h)).touch t1 (fun h => h) (fun h => h)
  clear a0 a1 a2 a3
  go_wp2_with fail
  refine (markAll_any m1).mono ?_
  rintro e w2 ⟨rfl, m2, t2⟩
  have t2c := t1c.trans t2
  obtain ⟨⟨a0, a1, a2, a3⟩, _⟩ := HG _ t2c
  have hL := layMap_any m2 s.n hle P kpti inv
  unfold cfV at hL
  go_wp2_with fail
  refine hL.mono ?_
  rintro e w3 ⟨rfl, m3, t3⟩
  have t3c := t2c.trans t3
  clear a0 a1 a2 a3 hL
  go_wp2_with fail
  refine (layGate_any m3).mono ?_
  rintro e w4 ⟨rfl, m4, t4⟩
  have t4c := t3c.trans t4
  obtain ⟨_, b0, b1, bf⟩ := HG _ t4c
  have hc1 : c ≠ w.heap.size + 1 := by omega
  have ts : Touch (fun x => x = w.heap.size + 1) w4 ((w4.setCell ⟨w.heap.size + 1, 0, none⟩ (.int .i64 3)).setCell ⟨w.heap.size + 1, 1, none⟩ (.int .i64 13)) := ((Touch.refl (fun x => x = w.heap.size + 1) w4).setCell (p := ⟨w.heap.size + 1, 0, none⟩) rfl _).setCell (p := ⟨w.heap.size + 1, 1, none⟩) rfl _
  have mb : b < w.heap.size := by obtain ⟨_, ht⟩ := m.top; exact ht.lt
  go_wp2_with fail
  refine bodyPost_ret (v := .tuple #[.agg #[.int .i64 3, .int .i64 13], .bool true]) (by simp [results, Try.results8, go_sem, b0, b1]) rfl ⟨rfl, m4.touch ts (by omega) hc1, ?_⟩
  exact ((t0.mono (fun _ _ h => h.elim)).trans t4c).transNew ts (fun i hi e => by omega)

set_option maxHeartbeats 400000 in
theorem sroots_any {w : World} {q b p : Nat} {S : SS} (h : SpAt w q b p S) :
    Calls Try.prog 22 #[.pointer (some ⟨q, 0, none⟩)] w fun e w' => e = .returned (.tuple #[.int .i64 S.kern, .int .i64 S.user]) ∧ Touch Nil w w' := by
  have h3 := h.kernC
  have h4 := h.userC
  go_enter Try.func22, Try.ntmps22
  go_upto_region 1 with fail
  go_quiet (fail)
  go_wp2
  go_ret2
  exact ⟨rfl, (Touch.refl Nil w).drews _⟩
end Go.Proofs.Ytoododpeoffieaa
/-
  A process's tables: New.
-/
namespace Go.Proofs.Ytoododpeoffieaa
open Go.ChangeShapes Go.WideShapes Go.ChangeAt Go.RowKit

/-- A new space. -/
def YS.new (own : Int) (kpti : Bool) (R : Nat → Int) (s : MS) : YS :=
  let k := (s.least : Int)
  let s1 := s.mark k 1 own
  let u := if kpti = true then (s1.least : Int) else k
  let S : SS := ⟨own, k, u, fun _ => 0, fun _ => 0⟩
  ⟨S, if kpti = true then rset (rset R k 1) u 1 else rset R k 1, ((if kpti = true then s1.mark u 1 own else s1).write (k * 8 + 4) (packV true false false 3)).roots S 7 13⟩

def spZ (b p : Nat) (own : Int) : Array Value := #[.pointer (some ⟨b, 0, none⟩), .pointer (some ⟨p, 0, none⟩), .int .i64 own] ++ Array.replicate 38 (.int .i64 0)
theorem space_new (W : World) (b p : Nat) (own : Int) : SpAt (W.alloc (.cells #[.pointer (some ⟨b, 0, none⟩), .pointer (some ⟨p, 0, none⟩), .int .i64 own, .int .i64 0, .int .i64 0, .int .i64 0, .int .i64 0, .int .i64 0, .int .i64 0, .int .i64 0, .int .i64 0, .int .i64 0, .int .i64 0, .int .i64 0, .int .i64 0, .int .i64 0, .int .i64 0, .int .i64 0, .int .i64 0, .int .i64 0, .int .i64 0, .int .i64 0, .int .i64 0, .int .i64 0, .int .i64 0, .int .i64 0, .int .i64 0, .int .i64 0, .int .i64 0, .int .i64 0, .int .i64 0, .int .i64 0, .int .i64 0, .int .i64 0, .int .i64 0, .int .i64 0, .int .i64 0, .int .i64 0, .int .i64 0, .int .i64 0, .int .i64 0] 96)) W.heap.size b p ⟨own, 0, 0, fun _ => 0, fun _ => 0⟩ := by
  have e : (#[.pointer (some ⟨b, 0, none⟩), .pointer (some ⟨p, 0, none⟩), .int .i64 own, .int .i64 0, .int .i64 0, .int .i64 0, .int .i64 0, .int .i64 0, .int .i64 0, .int .i64 0, .int .i64 0, .int .i64 0, .int .i64 0, .int .i64 0, .int .i64 0, .int .i64 0, .int .i64 0, .int .i64 0, .int .i64 0, .int .i64 0, .int .i64 0, .int .i64 0, .int .i64 0, .int .i64 0, .int .i64 0, .int .i64 0, .int .i64 0, .int .i64 0, .int .i64 0, .int .i64 0, .int .i64 0, .int .i64 0, .int .i64 0, .int .i64 0, .int .i64 0, .int .i64 0, .int .i64 0, .int .i64 0, .int .i64 0, .int .i64 0, .int .i64 0] : Array Value) = spZ b p own := by kernel_rfl
  rw [e]
  have hs : (spZ b p own).size = 41 := by unfold spZ; simp
  have := World.rowIs_alloc W (spZ b p own) 96 (SS.cell b p ⟨own, 0, 0, fun _ => 0, fun _ => 0⟩) (fun i hi => ?_)
  · rw [hs] at this
    exact ⟨this⟩
  rw [hs] at hi
  unfold spZ
  rcases (by omega : i = 0 ∨ i = 1 ∨ i = 2 ∨ 3 ≤ i) with rfl | rfl | rfl | h3
  · rw [Array.getElem?_append_left (by simp)]; rfl
  · rw [Array.getElem?_append_left (by simp)]; rfl
  · rw [Array.getElem?_append_left (by simp)]; rfl
  · rw [Array.getElem?_append_right (by simpa using h3), Array.getElem?_replicate, if_pos (by simp; omega)]
    unfold SS.cell
    rw [if_neg (by omega), if_neg (by omega), if_neg (by omega)]
    split
    · rfl
    · split
      · rfl
      · split <;> rfl
theorem Sys.kern {w : World} {q p b c : Nat} {S : SS} {R : Nat → Int} {s : MS} (h : Sys w q p b c S R s) (k : Int) : Sys (w.setCell ⟨q, 3, none⟩ (.int .i64 k)) q p b c { S with kern := k } R s := by
  have ts : Touch (· = q) w (w.setCell ⟨q, 3, none⟩ (.int .i64 k)) := (Touch.refl (· = q) w).setCell (p := ⟨q, 3, none⟩) rfl _
  refine ⟨⟨(h.sp.row.set 3 _).congr fun i _ => ?_⟩, h.po.touch ts (fun e => h.qp e.symm), h.me.touch ts (fun e => h.qb e.symm) (fun e => h.qc e.symm)⟩
  unfold SS.cell
  by_cases e : i = 3
  · subst e; rfl
  · rw [if_neg e]
    repeat (split <;> try rfl)
theorem Sys.kernT {w : World} {q p b c : Nat} {S : SS} {R : Nat → Int} {s : MS} (_ : Sys w q p b c S R s) (k : Int) : Touch (· = q) w (w.setCell ⟨q, 3, none⟩ (.int .i64 k)) := (Touch.refl (· = q) w).setCell (p := ⟨q, 3, none⟩) rfl _
theorem Sys.user {w : World} {q p b c : Nat} {S : SS} {R : Nat → Int} {s : MS} (h : Sys w q p b c S R s) (k : Int) : Sys (w.setCell ⟨q, 4, none⟩ (.int .i64 k)) q p b c { S with user := k } R s := by
  have ts : Touch (· = q) w (w.setCell ⟨q, 4, none⟩ (.int .i64 k)) := (Touch.refl (· = q) w).setCell (p := ⟨q, 4, none⟩) rfl _
  refine ⟨⟨(h.sp.row.set 4 _).congr fun i _ => ?_⟩, h.po.touch ts (fun e => h.qp e.symm), h.me.touch ts (fun e => h.qb e.symm) (fun e => h.qc e.symm)⟩
  unfold SS.cell
  by_cases e : i = 4
  · subst e; rfl
  · rw [if_neg e]
    repeat (split <;> try rfl)
theorem Sys.userT {w : World} {q p b c : Nat} {S : SS} {R : Nat → Int} {s : MS} (_ : Sys w q p b c S R s) (k : Int) : Touch (· = q) w (w.setCell ⟨q, 4, none⟩ (.int .i64 k)) := (Touch.refl (· = q) w).setCell (p := ⟨q, 4, none⟩) rfl _

set_option maxRecDepth 20000 in
set_option maxHeartbeats 4000000 in
theorem new_yes {w : World} {p b c : Nat} {R : Nat → Int} {s : MS} (po : PoolAt w p b R) (me : MemAt w b c s) (F P : Int) (kpti inv : Bool) (own : Int) (hl : (if kpti = true then 2 else 1) ≤ s.left) :
    Calls Try.prog 12 #[cfV F P kpti inv, .agg #[.int .i64 3, .int .i64 13], .pointer (some ⟨b, 0, none⟩), .pointer (some ⟨p, 0, none⟩), .int .i64 own] w fun e w' => ∃ q, e = .returned (.tuple #[.pointer (some ⟨q, 0, none⟩), .bool true]) ∧ w.heap.size ≤ q ∧ YAt w' q p b c (YS.new own kpti R s) ∧ Touch (fun x => x = p ∨ x = c) w w' := by
  unfold cfV
  cases kpti with
  | true =>
    simp only [if_true] at hl
    have l1 : ¬ ((s.left : Int) < 2) := by omega
    have t0 := ((Touch.refl Nil w).alloc (.cells #[.int .i64 F, .int .i64 P, .bool true, .bool inv] 24)).alloc (.cells #[.int .i64 3, .int .i64 13] 33)
    have po0 := po.touch t0 (fun h => h)
    have me0 := me.touch t0 (fun h => h) (fun h => h)
    have hf : ((w.alloc (.cells #[.int .i64 F, .int .i64 P, .bool true, .bool inv] 24)).alloc (.cells #[.int .i64 3, .int .i64 13] 33)).heap[w.heap.size + 1]? = some (.cells #[.int .i64 3, .int .i64 13] 33 (0, 0)) := by
      have := heap_alloc_new (w.alloc (.cells #[.int .i64 F, .int .i64 P, .bool true, .bool inv] 24)) (.cells #[.int .i64 3, .int .i64 13] 33)
      rw [World.size_alloc] at this
      exact this
    have hg : ((w.alloc (.cells #[.int .i64 F, .int .i64 P, .bool true, .bool inv] 24)).alloc (.cells #[.int .i64 3, .int .i64 13] 33)).heap[w.heap.size]? = some (.cells #[.int .i64 F, .int .i64 P, .bool true, .bool inv] 24 (0, 0)) := (Below.heap_alloc _ _ _ (by simp)).trans (heap_alloc_new w _)
    have hfq := (Below.heap_alloc ((w.alloc (.cells #[.int .i64 F, .int .i64 P, .bool true, .bool inv] 24)).alloc (.cells #[.int .i64 3, .int .i64 13] 33)) (.cells #[.pointer (some ⟨b, 0, none⟩), .pointer (some ⟨p, 0, none⟩), .int .i64 own, .int .i64 0, .int .i64 0, .int .i64 0, .int .i64 0, .int .i64 0, .int .i64 0, .int .i64 0, .int .i64 0, .int .i64 0, .int .i64 0, .int .i64 0, .int .i64 0, .int .i64 0, .int .i64 0, .int .i64 0, .int .i64 0, .int .i64 0, .int .i64 0, .int .i64 0, .int .i64 0, .int .i64 0, .int .i64 0, .int .i64 0, .int .i64 0, .int .i64 0, .int .i64 0, .int .i64 0, .int .i64 0, .int .i64 0, .int .i64 0, .int .i64 0, .int .i64 0, .int .i64 0, .int .i64 0, .int .i64 0, .int .i64 0, .int .i64 0, .int .i64 0] 96) (w.heap.size + 1) (by simp)).trans hf
    have hgq := (Below.heap_alloc ((w.alloc (.cells #[.int .i64 F, .int .i64 P, .bool true, .bool inv] 24)).alloc (.cells #[.int .i64 3, .int .i64 13] 33)) (.cells #[.pointer (some ⟨b, 0, none⟩), .pointer (some ⟨p, 0, none⟩), .int .i64 own, .int .i64 0, .int .i64 0, .int .i64 0, .int .i64 0, .int .i64 0, .int .i64 0, .int .i64 0, .int .i64 0, .int .i64 0, .int .i64 0, .int .i64 0, .int .i64 0, .int .i64 0, .int .i64 0, .int .i64 0, .int .i64 0, .int .i64 0, .int .i64 0, .int .i64 0, .int .i64 0, .int .i64 0, .int .i64 0, .int .i64 0, .int .i64 0, .int .i64 0, .int .i64 0, .int .i64 0, .int .i64 0, .int .i64 0, .int .i64 0, .int .i64 0, .int .i64 0, .int .i64 0, .int .i64 0, .int .i64 0, .int .i64 0, .int .i64 0, .int .i64 0] 96) (w.heap.size) (by simp; omega)).trans hg
    have hsz : ((w.alloc (.cells #[.int .i64 F, .int .i64 P, .bool true, .bool inv] 24)).alloc (.cells #[.int .i64 3, .int .i64 13] 33)).heap.size = w.heap.size + 1 + 1 := by simp
    have tq := t0.alloc (.cells #[.pointer (some ⟨b, 0, none⟩), .pointer (some ⟨p, 0, none⟩), .int .i64 own, .int .i64 0, .int .i64 0, .int .i64 0, .int .i64 0, .int .i64 0, .int .i64 0, .int .i64 0, .int .i64 0, .int .i64 0, .int .i64 0, .int .i64 0, .int .i64 0, .int .i64 0, .int .i64 0, .int .i64 0, .int .i64 0, .int .i64 0, .int .i64 0, .int .i64 0, .int .i64 0, .int .i64 0, .int .i64 0, .int .i64 0, .int .i64 0, .int .i64 0, .int .i64 0, .int .i64 0, .int .i64 0, .int .i64 0, .int .i64 0, .int .i64 0, .int .i64 0, .int .i64 0, .int .i64 0, .int .i64 0, .int .i64 0, .int .i64 0, .int .i64 0] 96)
    have sp0 := space_new ((w.alloc (.cells #[.int .i64 F, .int .i64 P, .bool true, .bool inv] 24)).alloc (.cells #[.int .i64 3, .int .i64 13] 33)) b p own
    rw [hsz] at sp0
    have h0 : Sys (((w.alloc (.cells #[.int .i64 F, .int .i64 P, .bool true, .bool inv] 24)).alloc (.cells #[.int .i64 3, .int .i64 13] 33)).alloc (.cells #[.pointer (some ⟨b, 0, none⟩), .pointer (some ⟨p, 0, none⟩), .int .i64 own, .int .i64 0, .int .i64 0, .int .i64 0, .int .i64 0, .int .i64 0, .int .i64 0, .int .i64 0, .int .i64 0, .int .i64 0, .int .i64 0, .int .i64 0, .int .i64 0, .int .i64 0, .int .i64 0, .int .i64 0, .int .i64 0, .int .i64 0, .int .i64 0, .int .i64 0, .int .i64 0, .int .i64 0, .int .i64 0, .int .i64 0, .int .i64 0, .int .i64 0, .int .i64 0, .int .i64 0, .int .i64 0, .int .i64 0, .int .i64 0, .int .i64 0, .int .i64 0, .int .i64 0, .int .i64 0, .int .i64 0, .int .i64 0, .int .i64 0, .int .i64 0] 96)) (w.heap.size + 1 + 1) p b c ⟨own, 0, 0, fun _ => 0, fun _ => 0⟩ R s := ⟨sp0, po.touch tq (fun h => h), me.touch tq (fun h => h) (fun h => h)⟩
    have hcl : c < w.heap.size := me.row.lt
    have hpl : p < w.heap.size := po.row.lt
    clear sp0 hf hg hsz
    go_enter Try.func12, Try.ntmps12
    go_upto_region 4 with fail
    go_upto_region 7 with (go_at_call 38; refine (pleft_any po0 me0).mono ?_; rintro e wq ⟨rfl, rfl⟩)
    clear po0 me0 t0
    generalize (((w.alloc (.cells #[.int .i64 F, .int .i64 P, .bool true, .bool inv] 24)).alloc (.cells #[.int .i64 3, .int .i64 13] 33)).alloc (.cells #[.pointer (some ⟨b, 0, none⟩), .pointer (some ⟨p, 0, none⟩), .int .i64 own, .int .i64 0, .int .i64 0, .int .i64 0, .int .i64 0, .int .i64 0, .int .i64 0, .int .i64 0, .int .i64 0, .int .i64 0, .int .i64 0, .int .i64 0, .int .i64 0, .int .i64 0, .int .i64 0, .int .i64 0, .int .i64 0, .int .i64 0, .int .i64 0, .int .i64 0, .int .i64 0, .int .i64 0, .int .i64 0, .int .i64 0, .int .i64 0, .int .i64 0, .int .i64 0, .int .i64 0, .int .i64 0, .int .i64 0, .int .i64 0, .int .i64 0, .int .i64 0, .int .i64 0, .int .i64 0, .int .i64 0, .int .i64 0, .int .i64 0, .int .i64 0] 96)) = W at *
    have HF : ∀ wx, Touch (fun x => x = p ∨ x = c ∨ x = w.heap.size + 1 + 1) W wx → wx.cell? ⟨w.heap.size + 1, 0, none⟩ = some (.int .i64 3) ∧ wx.cell? ⟨w.heap.size + 1, 1, none⟩ = some (.int .i64 13) ∧ wx.cell? ⟨w.heap.size, 2, none⟩ = some (.bool true) := fun wx tx => by
      have := (tx.block (w.heap.size + 1) (lt_of_block' hfq) (by omega)).trans hfq
      have h2 := (tx.block w.heap.size (lt_of_block' hgq) (by omega)).trans hgq
      simp [World.cell?, this, h2]
    have t0 : Touch (fun x => x = p ∨ x = c) w W := tq.mono (fun _ _ h => h.elim)
    obtain ⟨q, hq⟩ : ∃ q, Hid (w.heap.size + 1 + 1 = q) := ⟨_, rfl⟩
    have hqn : w.heap.size ≤ q := by rw [← hq.out]; omega
    rw [hq.out] at h0 HF
    rw [hq.out]
    clear hfq hgq tq
    have TT0 : Touch (fun x => x = p ∨ x = c ∨ x = q) W W := Touch.refl _ W
    obtain ⟨k, hk⟩ : ∃ k : Nat, Hid (s.least = k) := ⟨_, rfl⟩
    have hL1 := least_left (s := s) (by omega)
    have hT1 := stake_any h0 (by omega)
    rw [hk.out] at hT1 hL1
    have hk64 : (k : Int) < 64 := by have := hL1.hi; have := me.le; omega
    go_upto_region 8 with (go_at_call 39; refine hT1.mono ?_; rintro e w1 ⟨rfl, h1, t1⟩; have c3 := h1.sp.kernC; have z3 := h1.sp.frozen 3)
    have h2 := h1.kern (k : Int)
    have t2 := (TT0.trans (t1.mono (fun x _ e => by rcases e with e | e; exact Or.inl e; exact Or.inr (Or.inl e)))).trans ((h1.kernT (k : Int)).mono (fun x _ e => Or.inr (Or.inr e)))
    clear c3 z3 hT1 h1 t1 h0 TT0
    generalize w1.setCell ⟨q, 3, none⟩ (.int .i64 (k : Int)) = W1 at *
    have c3 := h2.sp.kernC
    have c4 := h2.sp.userC
    have z4 := h2.sp.frozen 4
    obtain ⟨f0, f1, f2⟩ := HF _ t2
    go_upto_region 9 with fail
    have h3 := h2.user (k : Int)
    have t3 := t2.trans ((h2.userT (k : Int)).mono (fun x _ e => Or.inr (Or.inr e)))
    clear c3 c4 z4 f0 f1 f2 h2 t2
    generalize W1.setCell ⟨q, 4, none⟩ (.int .i64 (k : Int)) = W2 at *
    obtain ⟨f0, f1, f2⟩ := HF _ t3
    have hl2 : 1 ≤ (s.mark (k : Int) 1 own).left := by have := mark_left hL1 own; omega
    obtain ⟨u, hu⟩ : ∃ u : Nat, Hid ((s.mark (k : Int) 1 own).least = u) := ⟨_, rfl⟩
    have hL2 := least_left hl2
    have hT2 := stake_any h3 hl2
    dsimp only at hT2
    rw [hu.out] at hT2 hL2
    have hu64 : (u : Int) < 64 := by have h1 := hL2.hi; have := me.le; rw [MS.mark_n] at h1; omega
    go_upto_region 11 with (go_at_call 39; refine hT2.mono ?_; rintro e w1 ⟨rfl, h4, t4⟩; have c4 := h4.sp.userC; have z4 := h4.sp.frozen 4)
    have h5 := h4.user (u : Int)
    have t5 := (t3.trans (t4.mono (fun x _ e => by rcases e with e | e; exact Or.inl e; exact Or.inr (Or.inl e)))).trans ((h4.userT (u : Int)).mono (fun x _ e => Or.inr (Or.inr e)))
    clear c4 z4 hT2 h4 t4 h3 t3 f0 f1 f2
    generalize w1.setCell ⟨q, 4, none⟩ (.int .i64 (u : Int)) = W5 at *
    dsimp only at h5
    obtain ⟨f0, f1, f2⟩ := HF _ t5
    have hI0 := fun wx => windex_any 256 0 wx
    have hI7 := fun wx => windex_any 448 0 wx
    rw [show pidx 256 0 = 4 by decide] at hI0
    rw [show pidx 448 0 = 7 by decide] at hI7
    have hqc := h5.qc
    have hpc := h5.po.nec h5.me
    have hP1 : ∀ wx, Touch Nil W5 wx → Calls Try.prog 40 #[.pointer (some ⟨b, 0, none⟩), .int .i64 k, .int .i64 4, .agg #[.bool true, .bool true, .bool false, .bool false, .int .i64 3]] wx fun e w' => e = .returned (.tuple #[]) ∧ Sys w' q p b c ⟨own, k, (u : Int), fun _ => 0, fun _ => 0⟩ (rset (rset R k 1) u 1) (((s.mark (k : Int) 1 own).mark (u : Int) 1 own).write (k * 8 + 4) (packV true false false 3)) ∧ Touch (fun x => x = p ∨ x = c ∨ x = q) W w' := fun wx tx => by
      refine (put_any ((h5.nil tx).me) k 4 true false false 3 (by decide) ⟨by omega, by omega⟩ (by decide)).mono ?_
      rintro e w' ⟨rfl, m', t'⟩
      exact ⟨rfl, ⟨(h5.nil tx).sp.touch t' hqc, (h5.nil tx).po.touch t' hpc, m'⟩, (t5.trans (tx.mono (fun _ _ h => h.elim))).trans (t'.mono (fun x _ e => Or.inr (Or.inl e)))⟩
    have td : Touch Nil W5 W5.drew := (Touch.refl _ _).drew
    have tdq : Touch (fun x => x = p ∨ x = c ∨ x = q) W W5.drew := t5.drew
    have c3d := (h5.nil td).sp.kernC
    go_upto_region 11 with fail
    go_region_held3 (fun wx => wx.cell? ⟨q, 3, none⟩ = some (.int .i64 k) ∧ wx.cell? ⟨w.heap.size + 1, 0, none⟩ = some (.int .i64 3)) (first | (exact ⟨c3d, (HF _ tdq).1⟩) | (exact ⟨h6.sp.kernC, (HF _ t6).1⟩))
      (first | (go_at_call 41; with_reducible refine (hI0 _).mono ?_; rintro e wq ⟨rfl, rfl⟩) | (go_at_call 40; with_reducible refine (hP1 _ td).mono ?_; rintro e w6 ⟨rfl, h6, t6⟩))
    have ok6 : SS.ok ⟨own, k, (u : Int), fun _ => 0, fun _ => 0⟩ := ⟨⟨by show (0 : Int) ≤ k; omega, hk64⟩, ⟨by show (0 : Int) ≤ (u : Int); omega, by show (u : Int) < 64; omega⟩, fun _ => ⟨Int.le_refl 0, by show (0 : Int) < 64; decide⟩, fun _ => ⟨Int.le_refl 0, by show (0 : Int) < 64; decide⟩⟩
    have hd6 := h6.drew
    have td6 : Touch (fun x => x = p ∨ x = c ∨ x = q) W w6.drew := t6.drew
    have hPR := putRoots_any hd6 ok6 7 13 (by decide) (by decide)
    clear c3d td tdq hP1 f0 f1 f2 h5 t5
    go_upto_region 12 with fail
    go_region_held3 (fun wx => wx.cell? ⟨w.heap.size + 1, 1, none⟩ = some (.int .i64 13)) (first | (exact (HF _ td6).2.1) | (exact (HF _ t7).2.1))
      (first | (go_at_call 41; with_reducible refine (hI7 _).mono ?_; rintro e wq ⟨rfl, rfl⟩) | (go_at_call 42; with_reducible refine hPR.mono ?_; rintro e w7 ⟨rfl, h7, tt7⟩; have t7 := td6.trans (tt7.mono (fun x _ e => Or.inr (Or.inl e)))))
    go_wp2
    go_ret2
    refine ⟨q, rfl, hqn, ?_, t0.transNew t7 (fun i hi e => by omega)⟩
    have e1 : YS.new own true R s = ⟨⟨own, k, (u : Int), fun _ => 0, fun _ => 0⟩, (rset (rset R k 1) u 1), (((s.mark (k : Int) 1 own).mark (u : Int) 1 own).write (k * 8 + 4) (packV true false false 3)).roots ⟨own, k, (u : Int), fun _ => 0, fun _ => 0⟩ 7 13⟩ := by
      unfold YS.new
      simp only [hk.out, hu.out, if_true]
    rw [e1]
    exact h7

  | false =>
    simp only [if_false, Bool.false_eq_true] at hl
    have l1 : ¬ ((s.left : Int) < 1) := by omega
    have t0 := ((Touch.refl Nil w).alloc (.cells #[.int .i64 F, .int .i64 P, .bool false, .bool inv] 24)).alloc (.cells #[.int .i64 3, .int .i64 13] 33)
    have po0 := po.touch t0 (fun h => h)
    have me0 := me.touch t0 (fun h => h) (fun h => h)
    have hf : ((w.alloc (.cells #[.int .i64 F, .int .i64 P, .bool false, .bool inv] 24)).alloc (.cells #[.int .i64 3, .int .i64 13] 33)).heap[w.heap.size + 1]? = some (.cells #[.int .i64 3, .int .i64 13] 33 (0, 0)) := by
      have := heap_alloc_new (w.alloc (.cells #[.int .i64 F, .int .i64 P, .bool false, .bool inv] 24)) (.cells #[.int .i64 3, .int .i64 13] 33)
      rw [World.size_alloc] at this
      exact this
    have hg : ((w.alloc (.cells #[.int .i64 F, .int .i64 P, .bool false, .bool inv] 24)).alloc (.cells #[.int .i64 3, .int .i64 13] 33)).heap[w.heap.size]? = some (.cells #[.int .i64 F, .int .i64 P, .bool false, .bool inv] 24 (0, 0)) := (Below.heap_alloc _ _ _ (by simp)).trans (heap_alloc_new w _)
    have hfq := (Below.heap_alloc ((w.alloc (.cells #[.int .i64 F, .int .i64 P, .bool false, .bool inv] 24)).alloc (.cells #[.int .i64 3, .int .i64 13] 33)) (.cells #[.pointer (some ⟨b, 0, none⟩), .pointer (some ⟨p, 0, none⟩), .int .i64 own, .int .i64 0, .int .i64 0, .int .i64 0, .int .i64 0, .int .i64 0, .int .i64 0, .int .i64 0, .int .i64 0, .int .i64 0, .int .i64 0, .int .i64 0, .int .i64 0, .int .i64 0, .int .i64 0, .int .i64 0, .int .i64 0, .int .i64 0, .int .i64 0, .int .i64 0, .int .i64 0, .int .i64 0, .int .i64 0, .int .i64 0, .int .i64 0, .int .i64 0, .int .i64 0, .int .i64 0, .int .i64 0, .int .i64 0, .int .i64 0, .int .i64 0, .int .i64 0, .int .i64 0, .int .i64 0, .int .i64 0, .int .i64 0, .int .i64 0, .int .i64 0] 96) (w.heap.size + 1) (by simp)).trans hf
    have hgq := (Below.heap_alloc ((w.alloc (.cells #[.int .i64 F, .int .i64 P, .bool false, .bool inv] 24)).alloc (.cells #[.int .i64 3, .int .i64 13] 33)) (.cells #[.pointer (some ⟨b, 0, none⟩), .pointer (some ⟨p, 0, none⟩), .int .i64 own, .int .i64 0, .int .i64 0, .int .i64 0, .int .i64 0, .int .i64 0, .int .i64 0, .int .i64 0, .int .i64 0, .int .i64 0, .int .i64 0, .int .i64 0, .int .i64 0, .int .i64 0, .int .i64 0, .int .i64 0, .int .i64 0, .int .i64 0, .int .i64 0, .int .i64 0, .int .i64 0, .int .i64 0, .int .i64 0, .int .i64 0, .int .i64 0, .int .i64 0, .int .i64 0, .int .i64 0, .int .i64 0, .int .i64 0, .int .i64 0, .int .i64 0, .int .i64 0, .int .i64 0, .int .i64 0, .int .i64 0, .int .i64 0, .int .i64 0, .int .i64 0] 96) (w.heap.size) (by simp; omega)).trans hg
    have hsz : ((w.alloc (.cells #[.int .i64 F, .int .i64 P, .bool false, .bool inv] 24)).alloc (.cells #[.int .i64 3, .int .i64 13] 33)).heap.size = w.heap.size + 1 + 1 := by simp
    have tq := t0.alloc (.cells #[.pointer (some ⟨b, 0, none⟩), .pointer (some ⟨p, 0, none⟩), .int .i64 own, .int .i64 0, .int .i64 0, .int .i64 0, .int .i64 0, .int .i64 0, .int .i64 0, .int .i64 0, .int .i64 0, .int .i64 0, .int .i64 0, .int .i64 0, .int .i64 0, .int .i64 0, .int .i64 0, .int .i64 0, .int .i64 0, .int .i64 0, .int .i64 0, .int .i64 0, .int .i64 0, .int .i64 0, .int .i64 0, .int .i64 0, .int .i64 0, .int .i64 0, .int .i64 0, .int .i64 0, .int .i64 0, .int .i64 0, .int .i64 0, .int .i64 0, .int .i64 0, .int .i64 0, .int .i64 0, .int .i64 0, .int .i64 0, .int .i64 0, .int .i64 0] 96)
    have sp0 := space_new ((w.alloc (.cells #[.int .i64 F, .int .i64 P, .bool false, .bool inv] 24)).alloc (.cells #[.int .i64 3, .int .i64 13] 33)) b p own
    rw [hsz] at sp0
    have h0 : Sys (((w.alloc (.cells #[.int .i64 F, .int .i64 P, .bool false, .bool inv] 24)).alloc (.cells #[.int .i64 3, .int .i64 13] 33)).alloc (.cells #[.pointer (some ⟨b, 0, none⟩), .pointer (some ⟨p, 0, none⟩), .int .i64 own, .int .i64 0, .int .i64 0, .int .i64 0, .int .i64 0, .int .i64 0, .int .i64 0, .int .i64 0, .int .i64 0, .int .i64 0, .int .i64 0, .int .i64 0, .int .i64 0, .int .i64 0, .int .i64 0, .int .i64 0, .int .i64 0, .int .i64 0, .int .i64 0, .int .i64 0, .int .i64 0, .int .i64 0, .int .i64 0, .int .i64 0, .int .i64 0, .int .i64 0, .int .i64 0, .int .i64 0, .int .i64 0, .int .i64 0, .int .i64 0, .int .i64 0, .int .i64 0, .int .i64 0, .int .i64 0, .int .i64 0, .int .i64 0, .int .i64 0, .int .i64 0] 96)) (w.heap.size + 1 + 1) p b c ⟨own, 0, 0, fun _ => 0, fun _ => 0⟩ R s := ⟨sp0, po.touch tq (fun h => h), me.touch tq (fun h => h) (fun h => h)⟩
    have hcl : c < w.heap.size := me.row.lt
    have hpl : p < w.heap.size := po.row.lt
    clear sp0 hf hg hsz
    go_enter Try.func12, Try.ntmps12
    go_upto_region 4 with fail
    go_upto_region 7 with (go_at_call 38; refine (pleft_any po0 me0).mono ?_; rintro e wq ⟨rfl, rfl⟩)
    clear po0 me0 t0
    generalize (((w.alloc (.cells #[.int .i64 F, .int .i64 P, .bool false, .bool inv] 24)).alloc (.cells #[.int .i64 3, .int .i64 13] 33)).alloc (.cells #[.pointer (some ⟨b, 0, none⟩), .pointer (some ⟨p, 0, none⟩), .int .i64 own, .int .i64 0, .int .i64 0, .int .i64 0, .int .i64 0, .int .i64 0, .int .i64 0, .int .i64 0, .int .i64 0, .int .i64 0, .int .i64 0, .int .i64 0, .int .i64 0, .int .i64 0, .int .i64 0, .int .i64 0, .int .i64 0, .int .i64 0, .int .i64 0, .int .i64 0, .int .i64 0, .int .i64 0, .int .i64 0, .int .i64 0, .int .i64 0, .int .i64 0, .int .i64 0, .int .i64 0, .int .i64 0, .int .i64 0, .int .i64 0, .int .i64 0, .int .i64 0, .int .i64 0, .int .i64 0, .int .i64 0, .int .i64 0, .int .i64 0, .int .i64 0] 96)) = W at *
    have HF : ∀ wx, Touch (fun x => x = p ∨ x = c ∨ x = w.heap.size + 1 + 1) W wx → wx.cell? ⟨w.heap.size + 1, 0, none⟩ = some (.int .i64 3) ∧ wx.cell? ⟨w.heap.size + 1, 1, none⟩ = some (.int .i64 13) ∧ wx.cell? ⟨w.heap.size, 2, none⟩ = some (.bool false) := fun wx tx => by
      have := (tx.block (w.heap.size + 1) (lt_of_block' hfq) (by omega)).trans hfq
      have h2 := (tx.block w.heap.size (lt_of_block' hgq) (by omega)).trans hgq
      simp [World.cell?, this, h2]
    have t0 : Touch (fun x => x = p ∨ x = c) w W := tq.mono (fun _ _ h => h.elim)
    obtain ⟨q, hq⟩ : ∃ q, Hid (w.heap.size + 1 + 1 = q) := ⟨_, rfl⟩
    have hqn : w.heap.size ≤ q := by rw [← hq.out]; omega
    rw [hq.out] at h0 HF
    rw [hq.out]
    clear hfq hgq tq
    have TT0 : Touch (fun x => x = p ∨ x = c ∨ x = q) W W := Touch.refl _ W
    obtain ⟨k, hk⟩ : ∃ k : Nat, Hid (s.least = k) := ⟨_, rfl⟩
    have hL1 := least_left (s := s) (by omega)
    have hT1 := stake_any h0 (by omega)
    rw [hk.out] at hT1 hL1
    have hk64 : (k : Int) < 64 := by have := hL1.hi; have := me.le; omega
    go_upto_region 8 with (go_at_call 39; refine hT1.mono ?_; rintro e w1 ⟨rfl, h1, t1⟩; have c3 := h1.sp.kernC; have z3 := h1.sp.frozen 3)
    have h2 := h1.kern (k : Int)
    have t2 := (TT0.trans (t1.mono (fun x _ e => by rcases e with e | e; exact Or.inl e; exact Or.inr (Or.inl e)))).trans ((h1.kernT (k : Int)).mono (fun x _ e => Or.inr (Or.inr e)))
    clear c3 z3 hT1 h1 t1 h0 TT0
    generalize w1.setCell ⟨q, 3, none⟩ (.int .i64 (k : Int)) = W1 at *
    have c3 := h2.sp.kernC
    have c4 := h2.sp.userC
    have z4 := h2.sp.frozen 4
    obtain ⟨f0, f1, f2⟩ := HF _ t2
    go_upto_region 9 with fail
    have h3 := h2.user (k : Int)
    have t3 := t2.trans ((h2.userT (k : Int)).mono (fun x _ e => Or.inr (Or.inr e)))
    clear c3 c4 z4 f0 f1 f2 h2 t2
    generalize W1.setCell ⟨q, 4, none⟩ (.int .i64 (k : Int)) = W2 at *
    obtain ⟨f0, f1, f2⟩ := HF _ t3
    go_upto_region 11 with fail
    have h5 := h3
    have t5 := t3
    clear h3 t3 f0 f1 f2
    generalize W2 = W5 at *
    dsimp only at h5
    obtain ⟨f0, f1, f2⟩ := HF _ t5
    have hI0 := fun wx => windex_any 256 0 wx
    have hI7 := fun wx => windex_any 448 0 wx
    rw [show pidx 256 0 = 4 by decide] at hI0
    rw [show pidx 448 0 = 7 by decide] at hI7
    have hqc := h5.qc
    have hpc := h5.po.nec h5.me
    have hP1 : ∀ wx, Touch Nil W5 wx → Calls Try.prog 40 #[.pointer (some ⟨b, 0, none⟩), .int .i64 k, .int .i64 4, .agg #[.bool true, .bool true, .bool false, .bool false, .int .i64 3]] wx fun e w' => e = .returned (.tuple #[]) ∧ Sys w' q p b c ⟨own, k, (k : Int), fun _ => 0, fun _ => 0⟩ (rset R k 1) ((s.mark (k : Int) 1 own).write (k * 8 + 4) (packV true false false 3)) ∧ Touch (fun x => x = p ∨ x = c ∨ x = q) W w' := fun wx tx => by
      refine (put_any ((h5.nil tx).me) k 4 true false false 3 (by decide) ⟨by omega, by omega⟩ (by decide)).mono ?_
      rintro e w' ⟨rfl, m', t'⟩
      exact ⟨rfl, ⟨(h5.nil tx).sp.touch t' hqc, (h5.nil tx).po.touch t' hpc, m'⟩, (t5.trans (tx.mono (fun _ _ h => h.elim))).trans (t'.mono (fun x _ e => Or.inr (Or.inl e)))⟩
    have td : Touch Nil W5 W5.drew := (Touch.refl _ _).drew
    have tdq : Touch (fun x => x = p ∨ x = c ∨ x = q) W W5.drew := t5.drew
    have c3d := (h5.nil td).sp.kernC
    go_upto_region 11 with fail
    go_region_held3 (fun wx => wx.cell? ⟨q, 3, none⟩ = some (.int .i64 k) ∧ wx.cell? ⟨w.heap.size + 1, 0, none⟩ = some (.int .i64 3)) (first | (exact ⟨c3d, (HF _ tdq).1⟩) | (exact ⟨h6.sp.kernC, (HF _ t6).1⟩))
      (first | (go_at_call 41; with_reducible refine (hI0 _).mono ?_; rintro e wq ⟨rfl, rfl⟩) | (go_at_call 40; with_reducible refine (hP1 _ td).mono ?_; rintro e w6 ⟨rfl, h6, t6⟩))
    have ok6 : SS.ok ⟨own, k, (k : Int), fun _ => 0, fun _ => 0⟩ := ⟨⟨by show (0 : Int) ≤ k; omega, hk64⟩, ⟨by show (0 : Int) ≤ (k : Int); omega, by show (k : Int) < 64; omega⟩, fun _ => ⟨Int.le_refl 0, by show (0 : Int) < 64; decide⟩, fun _ => ⟨Int.le_refl 0, by show (0 : Int) < 64; decide⟩⟩
    have hd6 := h6.drew
    have td6 : Touch (fun x => x = p ∨ x = c ∨ x = q) W w6.drew := t6.drew
    have hPR := putRoots_any hd6 ok6 7 13 (by decide) (by decide)
    clear c3d td tdq hP1 f0 f1 f2 h5 t5
    go_upto_region 12 with fail
    go_region_held3 (fun wx => wx.cell? ⟨w.heap.size + 1, 1, none⟩ = some (.int .i64 13)) (first | (exact (HF _ td6).2.1) | (exact (HF _ t7).2.1))
      (first | (go_at_call 41; with_reducible refine (hI7 _).mono ?_; rintro e wq ⟨rfl, rfl⟩) | (go_at_call 42; with_reducible refine hPR.mono ?_; rintro e w7 ⟨rfl, h7, tt7⟩; have t7 := td6.trans (tt7.mono (fun x _ e => Or.inr (Or.inl e)))))
    go_wp2
    go_ret2
    refine ⟨q, rfl, hqn, ?_, t0.transNew t7 (fun i hi e => by omega)⟩
    have e1 : YS.new own false R s = ⟨⟨own, k, (k : Int), fun _ => 0, fun _ => 0⟩, (rset R k 1), ((s.mark (k : Int) 1 own).write (k * 8 + 4) (packV true false false 3)).roots ⟨own, k, (k : Int), fun _ => 0, fun _ => 0⟩ 7 13⟩ := by
      unfold YS.new
      simp only [hk.out, if_false, Bool.false_eq_true]
    rw [e1]
    exact h7

end Go.Proofs.Ytoododpeoffieaa
/-
  A process's tables: Tables.
-/
namespace Go.Proofs.Ytoododpeoffieaa
open Go.ChangeShapes Go.WideShapes Go.ChangeAt Go.RowKit

def ilist (l : List Int) : List Value := l.map (fun x => Value.int .i64 x)
theorem ilist_len (l : List Int) : (ilist l).length = l.length := by simp [ilist]
theorem ilist_get (l : List Int) {i : Nat} (h : i < l.length) : (ilist l)[i]? = some (.int .i64 (l.getD i 0)) := by
  simp [ilist, List.getD, h]
/-- A list of the call's own, since the heap's size was base. -/
abbrev OL (w : World) (base : Nat) (a : Option Addr) (cap : Nat) (l : List Int) : Prop := w.ownsRow base 3 1 (.slice a l.length cap) l.length (ilist l)
theorem OL.cells {w : World} {base cap : Nat} {a : Option Addr} {l : List Int} (h : OL w base a cap l) : l = [] ∨ ∃ g, a = some ⟨g, 0, none⟩ ∧ base ≤ g ∧ g < w.heap.size ∧ ∀ i, i < l.length → w.cell? ⟨g, i, none⟩ = some (.int .i64 (l.getD i 0)) ∧ w.frozen? ⟨g, i, none⟩ = false := by
  by_cases hn : l = []
  · exact Or.inl hn
  · right
    have hpos := List.length_pos_iff.2 hn
    have h' := h
    obtain ⟨h1, h2⟩ := h
    rcases h2 with ⟨_, h0⟩ | ⟨g, c, cur, hv, hgb, hcur, _, _, _, ht⟩
    · omega
    · cases hv
      refine ⟨g, rfl, hgb, (h'.lt g rfl).2, fun i hi => ⟨?_, h'.frozenAt i⟩⟩
      rw [h'.cellAt i (by omega), ilist_get l hi]
theorem app_int {wr : World} {base n cap : Nat} {a : Option Addr} {xs : List Value} (h0 : wr.ownsRow base 3 1 (.slice a n cap) n xs) (hb : base ≤ wr.heap.size) (few : n ≤ 1000) (x : Int) :
    ∃ g c wN, (Builtin.append_ #[22, 22] 22 #[.slice a n cap, .slice (some ⟨wr.heap.size, 0, none⟩) 1 1]).run Try.prog (wr.alloc (.cells #[.int .i64 x] 3)) = .ok (.slice (some ⟨g, 0, none⟩) (n + 1) c) wN ∧
      wN.ownsRow base 3 1 (.slice (some ⟨g, 0, none⟩) (n + 1) c) (n + 1) (xs ++ [.int .i64 x]) ∧ Below base wr wN := by
  obtain ⟨i, hi, hzz⟩ := Option.map_eq_some_iff.1 (show (Try.prog.info? 3).map (fun i => (i.zero, i.size, i.bytes)) = some (some (.int .i64 0), 1, 8) by kernel_rfl)
  simp only [Prod.mk.injEq] at hzz
  obtain ⟨hz0, hz1, hz2⟩ := hzz
  have bA := (Below.refl wr.heap.size wr).alloc (Nat.le_refl _) (.cells #[.int .i64 x] 3)
  have h1 := h0.alloc (.cells #[.int .i64 x] 3)
  obtain ⟨v', wN, hr, ho, hg, hn⟩ := run_append_own (P := Try.prog) _ base 22 22 3 i (.int .i64 0) 1 8 Try.underlying22 hi hz0 hz1 hz2 rfl (by decide) (.slice a n cap) n xs h1 ⟨wr.heap.size, 0, none⟩ 1 1 [.int .i64 x] rfl
    (fun j u hu => by
      have hj : j < 1 := (List.getElem?_eq_some_iff.1 hu).1
      obtain rfl : j = 0 := by omega
      cases hu; simp [go_sem])
    (fun u hu => by simp at hu; subst hu; rfl) (by unfold maxLen; omega) (by omega) (by simp; omega)
  obtain ⟨ho1, ho2⟩ := ho
  rcases ho2 with ⟨_, h00⟩ | ⟨g', c, cur, rfl, hgb, hcur, hc1, hc2, hc3, hc4⟩
  · omega
  · exact ⟨g', c, wN, hr, ⟨ho1, Or.inr ⟨g', c, cur, rfl, hgb, hcur, hc1, hc2, hc3, hc4⟩⟩, (bA.mono hb).grown hg (by simp; omega) (fun k hk => (h1.lt k hk).1)⟩

/-- A table more, if it is one and not there already. -/
def addP (l : List Int) (x : Int) : List Int := if x = 0 ∨ x ∈ l then l else l ++ [x]
theorem addP_len (l : List Int) (x : Int) : (addP l x).length ≤ l.length + 1 := by unfold addP; split <;> simp

set_option maxHeartbeats 400000 in
theorem sindex_l {w : World} {base cap : Nat} {a : Option Addr} {l : List Int} (h : OL w base a cap l) (few : l.length ≤ 1000) (x : Int) :
    Calls Try.prog 80 #[.slice a l.length cap, .int .i64 x] w fun e w' => (∃ r : Int, e = .returned (.int .i64 r) ∧ (0 ≤ r ↔ x ∈ l)) ∧ w = w' := by
  have hc := h.cells
  go_enter Try.func80, Try.ntmps80
  go_wp2_with fail
  go_loopg [8] l.length (fun g v wx => ∃ k : Nat, g + k = l.length ∧ v = .int .i64 k ∧ Hid (x ∉ l.take k) ∧ wx = w)
  case atStart => exact ⟨0, by omega, rfl, (by show x ∉ l.take 0; simp), rfl⟩
  case round =>
    obtain ⟨k, hg, rfl, hno, rfl⟩ := hrel
    by_cases hk : k < l.length
    · have k1 : (k : Int) < (l.length : Int) := by omega
      rcases hc with hc | ⟨g, rfl, _, _, hc⟩
      · subst hc; simp at hk
      have cc := (hc k hk).1
      have hts := take_snocI hk
      obtain ⟨y, hy⟩ : ∃ y, Hid (l.getD k 0 = y) := ⟨_, rfl⟩
      have hyl : Hid (y ∈ l) := by show y ∈ l; rw [← hy.out]; simp [List.getD, hk]
      rw [hy.out] at cc hts
      clear hc
      cases e : (x == y)
      · have hne : x ≠ y := by simpa using e
        have hn2 : Hid (x ∉ l.take (k + 1)) := by
          show x ∉ _
          rw [hts, List.mem_append]
          rintro (h | h)
          · exact hno.out h
          · exact hne (by simpa using h)
        clear hts
        go_wp2_with fail
        go_roundg (l.length - (k + 1))
        case measure => omega
        case rel => exact ⟨k + 1, by omega, by go_num, hn2, rfl⟩
      · have he : x = y := by simpa using e
        have hm : Hid (x ∈ l) := by
          show x ∈ l
          rw [he]; exact hyl.out
        clear hts
        go_wp2_with fail
        go_ret
        exact ⟨⟨k, rfl, fun _ => hm.out, fun _ => by omega⟩, rfl⟩
    · have k1 : ¬ ((k : Int) < (l.length : Int)) := by omega
      have hn : Hid (x ∉ l) := by
        have := hno.out
        rw [List.take_of_length_le (by omega)] at this
        exact this
      go_wp2_with fail
      go_ret
      exact ⟨⟨-1, rfl, fun h => by omega, fun h => absurd h hn.out⟩, rfl⟩

set_option maxHeartbeats 400000 in
theorem scontains_l {w : World} {base cap : Nat} {a : Option Addr} {l : List Int} (h : OL w base a cap l) (few : l.length ≤ 1000) (x : Int) :
    Calls Try.prog 74 #[.slice a l.length cap, .int .i64 x] w fun e w' => e = .returned (.bool (decide (x ∈ l))) ∧ w = w' := by
  go_enter Try.func74, Try.ntmps74
  go_wp2_with (go_at_call 80; refine (sindex_l h few x).mono ?_; rintro e wq ⟨⟨r, rfl, hr⟩, rfl⟩)
  go_ret
  refine ⟨?_, rfl⟩
  have : decide (0 ≤ r) = decide (x ∈ l) := by rw [Bool.eq_iff_iff]; simp [hr]
  rw [← this]; rfl

set_option maxRecDepth 20000 in
set_option maxHeartbeats 400000 in
theorem add_any {w : World} {base cap : Nat} {a : Option Addr} {l : List Int} (h : OL w base a cap l) (hb : base ≤ w.heap.size) (few : l.length ≤ 1000) (x : Int) :
    Calls Try.prog 57 #[.slice a l.length cap, .int .i64 x] w fun e w' => ∃ a' cap', e = .returned (.slice a' (addP l x).length cap') ∧ OL w' base a' cap' (addP l x) ∧ Below base w w' := by
  by_cases hx : x = 0
  · have e : addP l x = l := by unfold addP; rw [if_pos (Or.inl hx)]
    rw [e]
    subst hx
    go_enter Try.func57, Try.ntmps57
    go_wp2
    go_ret
    exact ⟨a, cap, rfl, h, Below.refl _ _⟩
  · have hx' : (x == 0) = false := by simpa using hx
    by_cases hm : x ∈ l
    · have e : addP l x = l := by unfold addP; rw [if_pos (Or.inr hm)]
      rw [e]
      have hC := scontains_l h few x
      rw [decide_eq_true hm] at hC
      go_enter Try.func57, Try.ntmps57
      go_wp2_with (go_at_call 74; refine hC.mono ?_; rintro e wq ⟨rfl, rfl⟩)
      go_ret
      exact ⟨a, cap, rfl, h, Below.refl _ _⟩
    · have e : addP l x = l ++ [x] := by unfold addP; rw [if_neg (by simp [hx, hm])]
      have hC := scontains_l h few x
      rw [decide_eq_false hm] at hC
      obtain ⟨g, c, wN, hrun, hoN, bN⟩ := app_int h hb few x
      rw [e]
      go_enter Try.func57, Try.ntmps57
      go_upto_region 3 with (go_at_call 74; refine hC.mono ?_; rintro e wq ⟨rfl, rfl⟩)
      go_wp2_with (refine Lib.wpList_append_run_sl _ rfl _ _ 22 rfl _ _ rfl rfl hrun ?_)
      go_ret
      refine ⟨some ⟨g, 0, none⟩, c, by simp, ?_, bN⟩
      have : ilist (l ++ [x]) = ilist l ++ [.int .i64 x] := by simp [ilist]
      rw [OL, this, List.length_append]; exact hoN
end Go.Proofs.Ytoododpeoffieaa
/-
  A process's tables: Boot where the configuration may not be.
-/
namespace Go.Proofs.Ytoododpeoffieaa
open Go.ChangeShapes Go.WideShapes Go.ChangeAt Go.RowKit

def fitB (n : Nat) (N P : Int) : Bool := decide (24 ≤ N) && decide (N ≤ 64) && (N == (n : Int)) && decide (1 ≤ P) && decide (P ≤ 2)
set_option maxRecDepth 20000 in
set_option maxHeartbeats 2000000 in
theorem fits_no {w : World} {b c : Nat} {s : MS} (m : MemAt w b c s) (N P : Int) (kpti inv : Bool) (hn : fitB s.n N P = false) :
    Calls Try.prog 27 #[cfV N P kpti inv, .pointer (some ⟨b, 0, none⟩)] w fun e w' => e = .returned (.bool false) ∧ Touch Nil w w' := by
  have hle := m.le
  have t0 := (Touch.refl Nil w).alloc (.cells #[.int .i64 N, .int .i64 P, .bool kpti, .bool inv] 24)
  have m0 := m.touch t0 (fun h => h) (fun h => h)
  have hF : ∀ n, Calls Try.prog 32 #[.pointer (some ⟨b, 0, none⟩)] ((w.alloc (.cells #[.int .i64 N, .int .i64 P, .bool kpti, .bool inv] 24)).drewN n) fun e w' => e = .returned (.int .i64 s.n) ∧ w' = (w.alloc (.cells #[.int .i64 N, .int .i64 P, .bool kpti, .bool inv] 24)).drewN n := fun n => by
    refine (frames_any (m0.touch ((Touch.refl Nil _).drews n) (fun h => h) (fun h => h))).mono ?_
    rintro e w' ⟨rfl, rfl⟩
    exact ⟨rfl, rfl⟩
  have hc0 : (w.alloc (.cells #[.int .i64 N, .int .i64 P, .bool kpti, .bool inv] 24)).cell? ⟨w.heap.size, 0, none⟩ = some (.int .i64 N) := by simp [go_sem]
  have hc1 : (w.alloc (.cells #[.int .i64 N, .int .i64 P, .bool kpti, .bool inv] 24)).cell? ⟨w.heap.size, 1, none⟩ = some (.int .i64 P) := by simp [go_sem]
  unfold cfV
  go_enter Try.func27, Try.ntmps27
  go_upto_region 1 with fail
  generalize w.alloc (.cells #[.int .i64 N, .int .i64 P, .bool kpti, .bool inv] 24) = W at *
  generalize w.heap.size = G at *
  unfold fitB at hn
  generalize (s.n : Int) = F at *
  by_cases g1 : 24 ≤ N
  · by_cases g2 : N ≤ 64
    · cases g3 : (N == F)
      · go_quiet ((go_at_call 32; with_reducible exact Calls.quiet_of_same (hF _)))
        go_wp2
        go_ret
        exact ⟨rfl, t0.drews _⟩
      · by_cases g4 : 1 ≤ P
        · have g5 : ¬ P ≤ 2 := fun g5 => by rw [decide_eq_true g1, decide_eq_true g2, g3, decide_eq_true g4, decide_eq_true g5] at hn; cases hn
          go_quiet ((go_at_call 32; with_reducible exact Calls.quiet_of_same (hF _)))
          go_wp2
          go_ret
          exact ⟨rfl, t0.drews _⟩
        · go_quiet ((go_at_call 32; with_reducible exact Calls.quiet_of_same (hF _)))
          go_wp2
          go_ret
          exact ⟨rfl, t0.drews _⟩
    · go_quiet ((go_at_call 32; with_reducible exact Calls.quiet_of_same (hF _)))
      go_wp2
      go_ret
      exact ⟨rfl, t0.drews _⟩
  · go_quiet ((go_at_call 32; with_reducible exact Calls.quiet_of_same (hF _)))
    go_wp2
    go_ret
    exact ⟨rfl, t0.drews _⟩
end Go.Proofs.Ytoododpeoffieaa
/-
  A process's tables: Boot where a configuration may not be.
-/
namespace Go.Proofs.Ytoododpeoffieaa
open Go.ChangeShapes Go.WideShapes Go.ChangeAt Go.RowKit

set_option maxHeartbeats 1000000 in
theorem boot_no {w : World} {b c : Nat} {s : MS} (m : MemAt w b c s) (N P : Int) (kpti inv : Bool) (hn : fitB s.n N P = false) :
    Calls Try.prog 8 #[cfV N P kpti inv, .pointer (some ⟨b, 0, none⟩)] w fun e w' => e = .returned (.tuple #[.agg #[.int .i64 0, .int .i64 0], .bool false]) ∧ Touch Nil w w' := by
  have hf := fun wx (tx : Touch Nil w wx) => fits_no (m.touch tx (fun h => h) (fun h => h)) N P kpti inv hn
  have t0 := ((Touch.refl Nil w).alloc (.cells #[.int .i64 N, .int .i64 P, .bool kpti, .bool inv] 24)).alloc (.cells #[.int .i64 0, .int .i64 0] 33)
  have hg : ((w.alloc (.cells #[.int .i64 N, .int .i64 P, .bool kpti, .bool inv] 24)).alloc (.cells #[.int .i64 0, .int .i64 0] 33)).heap[w.heap.size]? = some (.cells #[.int .i64 N, .int .i64 P, .bool kpti, .bool inv] 24 (0, 0)) := (Below.heap_alloc _ _ _ (by simp)).trans (heap_alloc_new w _)
  have hk : ((w.alloc (.cells #[.int .i64 N, .int .i64 P, .bool kpti, .bool inv] 24)).alloc (.cells #[.int .i64 0, .int .i64 0] 33)).heap[w.heap.size + 1]? = some (.cells #[.int .i64 0, .int .i64 0] 33 (0, 0)) := by
    have := heap_alloc_new (w.alloc (.cells #[.int .i64 N, .int .i64 P, .bool kpti, .bool inv] 24)) (.cells #[.int .i64 0, .int .i64 0] 33)
    rw [World.size_alloc] at this
    exact this
  unfold cfV at *
  go_enter Try.func8, Try.ntmps8
  go_upto_region 1 with fail
  generalize (w.alloc (.cells #[.int .i64 N, .int .i64 P, .bool kpti, .bool inv] 24)).alloc (.cells #[.int .i64 0, .int .i64 0] 33) = W at *
  have hlt : w.heap.size + 1 < W.heap.size := lt_of_block' hk
  have HG : ∀ wx, Touch Nil W wx → (wx.cell? ⟨w.heap.size, 0, none⟩ = some (.int .i64 N) ∧ wx.cell? ⟨w.heap.size, 1, none⟩ = some (.int .i64 P) ∧ wx.cell? ⟨w.heap.size, 2, none⟩ = some (.bool kpti) ∧ wx.cell? ⟨w.heap.size, 3, none⟩ = some (.bool inv)) ∧ wx.cell? ⟨w.heap.size + 1, 0, none⟩ = some (.int .i64 0) ∧ wx.cell? ⟨w.heap.size + 1, 1, none⟩ = some (.int .i64 0) ∧ ∀ i, wx.frozen? ⟨w.heap.size + 1, i, none⟩ = false := fun wx tx => by
    have h1 := (tx.block w.heap.size (by omega) id).trans hg
    have h2 := (tx.block (w.heap.size + 1) (by omega) id).trans hk
    simp [World.cell?, World.frozen?, h1, h2]
  obtain ⟨⟨a0, a1, a2, a3⟩, _⟩ := HG _ (Touch.refl _ W)
  go_wp2_with fail
  refine (hf _ t0).mono ?_
  rintro e w1 ⟨rfl, t1⟩
  clear a0 a1 a2 a3
  obtain ⟨_, b0, b1, bf⟩ := HG _ t1
  have ts : Touch (fun x => x = w.heap.size + 1) w1 ((w1.setCell ⟨w.heap.size + 1, 0, none⟩ (.int .i64 0)).setCell ⟨w.heap.size + 1, 1, none⟩ (.int .i64 0)) := ((Touch.refl (fun x => x = w.heap.size + 1) w1).setCell (p := ⟨w.heap.size + 1, 0, none⟩) rfl _).setCell (p := ⟨w.heap.size + 1, 1, none⟩) rfl _
  go_wp2_with fail
  refine bodyPost_ret (v := .tuple #[.agg #[.int .i64 0, .int .i64 0], .bool false]) (by simp [results, Try.results8, go_sem, b0, b1]) rfl ⟨rfl, ?_⟩
  exact (t0.trans t1).transNew ts (fun i hi e => by omega)
end Go.Proofs.Ytoododpeoffieaa
/-
  penumbraplay.Conf: a configuration of a number.
-/
namespace Go.Proofs.Ytoododpeoffieaa
open Go.ChangeShapes Go.WideShapes Go.ChangeAt Go.RowKit

def sixA : Array Value := #[.int .i64 64, .int .i64 40, .int .i64 24, .int .i64 30, .int .i64 27, .int .i64 48]
theorem six_at {k : Int} (h0 : 0 ≤ k) (h1 : k < 6) : ∃ y : Int, sixA[k.toNat]? = some (.int .i64 y) ∧ 24 ≤ y ∧ y ≤ 64 := by
  rcases (by omega : k = 0 ∨ k = 1 ∨ k = 2 ∨ k = 3 ∨ k = 4 ∨ k = 5) with rfl | rfl | rfl | rfl | rfl | rfl
  · exact ⟨64, rfl, by omega, by omega⟩
  · exact ⟨40, rfl, by omega, by omega⟩
  · exact ⟨24, rfl, by omega, by omega⟩
  · exact ⟨30, rfl, by omega, by omega⟩
  · exact ⟨27, rfl, by omega, by omega⟩
  · exact ⟨48, rfl, by omega, by omega⟩
set_option maxRecDepth 20000 in
set_option maxHeartbeats 4000000 in
theorem conf_any (n : Int) (hn : (Lit.int .i64 n).wf = true) (w : World) :
    Calls Try.prog 4 #[.int .i64 n] w fun e w' => ∃ (F P : Int) (kpti inv : Bool), e = .returned (cfV F P kpti inv) ∧ (24 ≤ F ∧ F ≤ 64) ∧ (1 ≤ P ∧ P ≤ 2) ∧ Touch Nil w w' := by
  have f0 := bounds_i64 hn
  have q6 : IntKind.i64.wrap (n.tdiv 6) = n.tdiv 6 := by rw [IntKind.wrap_i64]; have := tdiv_two n 6 (by omega); omega
  have q12 : IntKind.i64.wrap (n.tdiv 12) = n.tdiv 12 := by rw [IntKind.wrap_i64]; have := tdiv_two n 12 (by omega); omega
  have q36 : IntKind.i64.wrap (n.tdiv 36) = n.tdiv 36 := by rw [IntKind.wrap_i64]; have := tdiv_two n 36 (by omega); omega
  have k0 := Int.emod_nonneg n (b := 6) (by omega)
  have k6 := Int.emod_lt_of_pos n (b := 6) (by omega)
  have p0 := Int.emod_nonneg (n.tdiv 6) (b := 2) (by omega)
  have p2 := Int.emod_lt_of_pos (n.tdiv 6) (b := 2) (by omega)
  have v1 : IntKind.i64.wrap (1 + n.tdiv 6 % 2) = 1 + n.tdiv 6 % 2 := by rw [IntKind.wrap_i64]; omega
  obtain ⟨y, hy, hy1, hy2⟩ := six_at k0 k6
  go_enter Try.func4, Try.ntmps4
  go_upto_region 2 with fail
  have hB0 := heap_alloc_new w (.cells #[.int .i64 0, .int .i64 0, .bool false, .bool false] 24)
  have t0 := (Touch.refl Nil w).alloc (.cells #[.int .i64 0, .int .i64 0, .bool false, .bool false] 24)
  have s0 : w.heap.size < (w.alloc (.cells #[.int .i64 0, .int .i64 0, .bool false, .bool false] 24)).heap.size := by simp
  generalize w.alloc (.cells #[.int .i64 0, .int .i64 0, .bool false, .bool false] 24) = W0 at *
  have hC : (W0.alloc (.cells sixA 3)).cell? ⟨W0.heap.size, (n % 6).toNat, none⟩ = some (.int .i64 y) := by
    have h := heap_alloc_new W0 (.cells sixA 3)
    unfold World.cell?; rw [h]; simp [hy]
  have hold : (W0.alloc (.cells sixA 3)).heap[w.heap.size]? = some (.cells #[.int .i64 0, .int .i64 0, .bool false, .bool false] 24 (0, 0)) := (Below.heap_alloc _ _ _ s0).trans hB0
  have d : ((W0.alloc (.cells sixA 3)).cell? ⟨w.heap.size, 0, none⟩ = some (.int .i64 0) ∧ (W0.alloc (.cells sixA 3)).cell? ⟨w.heap.size, 1, none⟩ = some (.int .i64 0) ∧ (W0.alloc (.cells sixA 3)).cell? ⟨w.heap.size, 2, none⟩ = some (.bool false) ∧ (W0.alloc (.cells sixA 3)).cell? ⟨w.heap.size, 3, none⟩ = some (.bool false)) ∧ ∀ i, (W0.alloc (.cells sixA 3)).frozen? ⟨w.heap.size, i, none⟩ = false := by
    simp [World.cell?, World.frozen?, hold]
  have d' : (W0.cell? ⟨w.heap.size, 0, none⟩ = some (.int .i64 0) ∧ W0.cell? ⟨w.heap.size, 1, none⟩ = some (.int .i64 0) ∧ W0.cell? ⟨w.heap.size, 2, none⟩ = some (.bool false) ∧ W0.cell? ⟨w.heap.size, 3, none⟩ = some (.bool false)) ∧ ∀ i, W0.frozen? ⟨w.heap.size, i, none⟩ = false := by
    simp [World.cell?, World.frozen?, hB0]
  obtain ⟨⟨d0, d1, d2, d3⟩, fz⟩ := d'
  clear d hold
  have hne : w.heap.size ≠ W0.heap.size := by omega
  have hne' : W0.heap.size ≠ w.heap.size := by omega
  unfold sixA at *
  obtain ⟨kp, hkp⟩ : ∃ kp, ((n.tdiv 12).tmod 3 != 2) = kp := ⟨_, rfl⟩
  obtain ⟨iv, hiv⟩ : ∃ iv, ((n.tdiv 36).tmod 3 != 2) = iv := ⟨_, rfl⟩
  have hR0 : W0.rowIs w.heap.size 24 4 (fun i => if i < 2 then .int .i64 0 else .bool false) := ⟨_, hB0, rfl, fun i hi => by
    match i, hi with
    | 0, _ | 1, _ | 2, _ | 3, _ => rfl⟩
  have hRF : ((((((W0.setCell ⟨w.heap.size, 0, none⟩ (.int .i64 y)).setCell ⟨w.heap.size, 1, none⟩ (.int .i64 (1 + n.tdiv 6 % 2))).setCell ⟨w.heap.size, 2, none⟩ (.bool kp)).setCell ⟨w.heap.size, 3, none⟩ (.bool iv)).alloc (.cells #[.int .i64 64, .int .i64 40, .int .i64 24, .int .i64 30, .int .i64 27, .int .i64 48] 3)).drew).rowIs w.heap.size 24 4 (fun j => if j = 3 then .bool iv else if j = 2 then .bool kp else if j = 1 then .int .i64 (1 + n.tdiv 6 % 2) else if j = 0 then .int .i64 y else if j < 2 then .int .i64 0 else .bool false) := ((((hR0.set 0 _).set 1 _).set 2 _).set 3 _).alloc _
  have tF : Touch Nil w ((((((W0.setCell ⟨w.heap.size, 0, none⟩ (.int .i64 y)).setCell ⟨w.heap.size, 1, none⟩ (.int .i64 (1 + n.tdiv 6 % 2))).setCell ⟨w.heap.size, 2, none⟩ (.bool kp)).setCell ⟨w.heap.size, 3, none⟩ (.bool iv)).alloc (.cells #[.int .i64 64, .int .i64 40, .int .i64 24, .int .i64 30, .int .i64 27, .int .i64 48] 3)).drew) := (((((t0.setNew (p := ⟨w.heap.size, 0, none⟩) (Nat.le_refl _) _).setNew (p := ⟨w.heap.size, 1, none⟩) (Nat.le_refl _) _).setNew (p := ⟨w.heap.size, 2, none⟩) (Nat.le_refl _) _).setNew (p := ⟨w.heap.size, 3, none⟩) (Nat.le_refl _) _).alloc _).drew
  go_region_with (first | (go_at_call 5; refine (within_any _ _ _ (by decide) (by decide)).mono ?_; rintro e w5 ⟨hx, hw⟩; subst hx; subst hw))
  all_goals
    generalize (((((W0.setCell ⟨w.heap.size, 0, none⟩ (.int .i64 y)).setCell ⟨w.heap.size, 1, none⟩ (.int .i64 (1 + n.tdiv 6 % 2))).setCell ⟨w.heap.size, 2, none⟩ (.bool kp)).setCell ⟨w.heap.size, 3, none⟩ (.bool iv)).alloc (.cells #[.int .i64 64, .int .i64 40, .int .i64 24, .int .i64 30, .int .i64 27, .int .i64 48] 3)).drew = WF at *
    have e0 := hRF.cell (i := 0) (by omega)
    have e1 := hRF.cell (i := 1) (by omega)
    have e2 := hRF.cell (i := 2) (by omega)
    have e3 := hRF.cell (i := 3) (by omega)
    simp only [show ¬ ((0 : Nat) = 3) by omega, show ¬ ((0 : Nat) = 2) by omega, show ¬ ((0 : Nat) = 1) by omega, show ¬ ((1 : Nat) = 3) by omega, show ¬ ((1 : Nat) = 2) by omega, show ¬ ((2 : Nat) = 3) by omega, if_true, if_false] at e0 e1 e2 e3
    go_wp2_with fail
    refine bodyPost_ret (v := cfV y (1 + n.tdiv 6 % 2) kp iv) (by unfold cfV; simp [results, Try.results4, go_sem, e0, e1, e2, e3]) rfl ⟨y, _, kp, iv, rfl, ⟨hy1, hy2⟩, ⟨by omega, by omega⟩, tF⟩
end Go.Proofs.Ytoododpeoffieaa
/-
  The document's BootSpace: its tables are the program's, in another order (plain, then its walk).
-/
namespace Go.Proofs.Ytoododpeoffieaa
open Go.ChangeShapes Go.WideShapes Go.ChangeAt Go.RowKit

theorem MS.mark_eq {s : MS} {f : Nat} {c : Int} (o : Int) (hf : f < s.n) (h0 : 0 ≤ c) (h1 : c ≤ 5) : s.mark (f : Int) c o = ⟨s.n, s.W, fun i => if i = f then c else s.C i, fun i => if i = f then o else s.O i⟩ := by
  unfold MS.mark
  rw [if_pos (s.mayM_mk _ _ ((s.hasF_iff _).2 (by omega)) h0 h1), Int.toNat_natCast]
def refL : List Nat := [3, 4, 5, 6, 7, 8, 9, 10, 11, 13, 14]
def MS.markR (s : MS) : MS := (((s.mark 0 5 (-1)).markL 4 (List.range' 1 2)).markL 1 refL).mark 12 3 (-1)
/-- Marks as functions. -/
theorem MS.markL_eq (c o : Int) (h0 : 0 ≤ c) (h1 : c ≤ 5) : ∀ (l : List Nat) (s : MS), o = -1 → (∀ f ∈ l, f < s.n) → s.markL c l = ⟨s.n, s.W, fun i => if i ∈ l then c else s.C i, fun i => if i ∈ l then -1 else s.O i⟩
  | [], s, _, _ => by simp [MS.markL]
  | f :: l, s, ho, hl => by
    have e : s.markL c (f :: l) = (s.mark (f : Int) c (-1)).markL c l := rfl
    rw [e, MS.mark_eq _ (hl f (List.mem_cons_self ..)) h0 h1, MS.markL_eq c o h0 h1 l ⟨s.n, s.W, fun i => if i = f then c else s.C i, fun i => if i = f then -1 else s.O i⟩ ho (fun g hg => hl g (List.mem_cons_of_mem _ hg))]
    simp only [MS.mk.injEq, true_and]
    constructor
    · funext i
      by_cases a : i ∈ l
      · rw [if_pos a, if_pos (List.mem_cons_of_mem _ a)]
      · rw [if_neg a]
        by_cases b : i = f
        · rw [if_pos b, if_pos (by rw [b]; exact List.mem_cons_self ..)]
        · rw [if_neg b, if_neg (by simp [a, b])]
    · funext i
      by_cases a : i ∈ l
      · rw [if_pos a, if_pos (List.mem_cons_of_mem _ a)]
      · rw [if_neg a]
        by_cases b : i = f
        · rw [if_pos b, if_pos (by rw [b]; exact List.mem_cons_self ..)]
        · rw [if_neg b, if_neg (by simp [a, b])]
theorem MS.markR_eq {s : MS} (h : 24 ≤ s.n) : s.markR = s.markAll := by
  unfold MS.markR MS.markAll
  have e0 : s.mark 0 5 (-1) = _ := MS.mark_eq (s := s) (f := 0) (c := 5) (-1) (by omega) (by omega) (by omega)
  rw [e0]
  have e1 := MS.markL_eq 4 (-1) (by omega) (by omega) (List.range' 1 2) ⟨s.n, s.W, fun i => if i = 0 then 5 else s.C i, fun i => if i = 0 then -1 else s.O i⟩ rfl (fun f hf => by simp at hf; show f < s.n; omega)
  rw [e1]
  generalize hs1 : (⟨s.n, s.W, fun i => if i ∈ List.range' 1 2 then 4 else if i = 0 then 5 else s.C i, fun i => if i ∈ List.range' 1 2 then -1 else if i = 0 then -1 else s.O i⟩ : MS) = s1 at *
  have hn : s1.n = s.n := by rw [← hs1]
  have a := MS.markL_eq 1 (-1) (by omega) (by omega) refL s1 rfl (fun f hf => by simp [refL] at hf; omega)
  have b := MS.markL_eq 1 (-1) (by omega) (by omega) (List.range' 3 12) s1 rfl (fun f hf => by simp at hf; omega)
  rw [a, b]
  have c := fun C O => MS.mark_eq (s := ⟨s1.n, s1.W, C, O⟩) (f := 12) (c := 3) (-1) (by show 12 < s1.n; omega) (by omega) (by omega)
  rw [show ((12 : Nat) : Int) = 12 from rfl] at c
  rw [c, c]
  have key : ∀ i : Nat, i ≠ 12 → (i ∈ refL ↔ i ∈ List.range' 3 12) := by
    intro i hi
    simp [refL]
    omega
  simp only [MS.mk.injEq, true_and]
  constructor
  · funext i
    by_cases e : i = 12
    · rw [if_pos e, if_pos e]
    · rw [if_neg e, if_neg e]
      by_cases q : i ∈ refL
      · rw [if_pos q, if_pos ((key i e).1 q)]
      · rw [if_neg q, if_neg (fun z => q ((key i e).2 z))]
  · funext i
    by_cases e : i = 12
    · rw [if_pos e, if_pos e]
    · rw [if_neg e, if_neg e]
      by_cases q : i ∈ refL
      · rw [if_pos q, if_pos ((key i e).1 q)]
      · rw [if_neg q, if_neg (fun z => q ((key i e).2 z))]
/-- The map's words: its upper table's first j, its last ones' first m. -/
def MS.rmap (s : MS) (g : Bool) (j m : Nat) : MS := { s with W := fun i => if 24 ≤ i ∧ i < 24 + j then packV true false false ((4 + (i - 24) : Nat) : Int) else if 32 ≤ i ∧ i < 32 + m then packV true false g ((i - 32 : Nat) : Int) else s.W i }
theorem MS.rmap_zero (s : MS) (g : Bool) : s.rmap g 0 0 = s := by
  unfold MS.rmap
  have : (fun i => if 24 ≤ i ∧ i < 24 + 0 then packV true false false ((4 + (i - 24) : Nat) : Int) else if 32 ≤ i ∧ i < 32 + 0 then packV true false g ((i - 32 : Nat) : Int) else s.W i) = s.W := by
    funext i; rw [if_neg (by omega), if_neg (by omega)]
  rw [this]
theorem MS.rmap_a {s : MS} (h : 24 ≤ s.n) (g : Bool) {j : Nat} (m : Nat) (hj : j < 8) : (s.rmap g j m).write (24 + (j : Int)) (packV true false false (4 + (j : Int))) = s.rmap g (j + 1) m := by
  unfold MS.write
  rw [if_pos ((MS.hasW_iff _ _).2 (by show _ ∧ _ < 8 * (s.n : Int); omega))]
  unfold MS.rmap
  simp only [MS.mk.injEq, true_and, and_true]
  funext i
  by_cases e : i = (24 + (j : Int)).toNat
  · rw [if_pos e, if_pos (by omega), show ((4 + (i - 24) : Nat) : Int) = 4 + (j : Int) by omega]
  · rw [if_neg e]
    by_cases a : 24 ≤ i ∧ i < 24 + j
    · rw [if_pos a, if_pos (show 24 ≤ i ∧ i < 24 + (j + 1) by omega)]
    · rw [if_neg a, if_neg (show ¬ (24 ≤ i ∧ i < 24 + (j + 1)) by omega)]
theorem MS.rmap_b {s : MS} (h : 24 ≤ s.n) (g : Bool) {j m : Nat} (hm : m < 64) (hj : j ≤ 8) : (s.rmap g j m).write (32 + (m : Int)) (packV true false g (m : Int)) = s.rmap g j (m + 1) := by
  unfold MS.write
  rw [if_pos ((MS.hasW_iff _ _).2 (by show _ ∧ _ < 8 * (s.n : Int); omega))]
  unfold MS.rmap
  simp only [MS.mk.injEq, true_and, and_true]
  funext i
  by_cases e : i = (32 + (m : Int)).toNat
  · rw [if_pos e, if_neg (by omega), if_pos (by omega), show ((i - 32 : Nat) : Int) = (m : Int) by omega]
  · rw [if_neg e]
    by_cases a : 24 ≤ i ∧ i < 24 + j
    · rw [if_pos a, if_pos a]
    · rw [if_neg a, if_neg a]
      by_cases b : 32 ≤ i ∧ i < 32 + m
      · rw [if_pos b, if_pos (show 32 ≤ i ∧ i < 32 + (m + 1) by omega)]
      · rw [if_neg b, if_neg (show ¬ (32 ≤ i ∧ i < 32 + (m + 1)) by omega)]
theorem MS.mapA_eq {s : MS} (h : 24 ≤ s.n) (g : Bool) : ∀ k, k ≤ 8 → s.mapA k = s.rmap g k 0
  | 0, _ => by rw [MS.rmap_zero]; rfl
  | k + 1, hk => by
    rw [mapA_succ, MS.mapA_eq h g k (by omega), show 3 * 8 + (k : Int) = 24 + (k : Int) by omega]
    exact MS.rmap_a h g 0 (by omega)
theorem MS.mapB_eq {s : MS} (h : 24 ≤ s.n) (g : Bool) : ∀ k, k ≤ 64 → (s.rmap g 8 0).mapB g k = s.rmap g 8 k
  | 0, _ => rfl
  | k + 1, hk => by
    rw [mapB_succ, MS.mapB_eq h g k (by omega), show (4 + (k : Int) / 8) * 8 + (k : Int) % 8 = 32 + (k : Int) by omega]
    exact MS.rmap_b h g (by omega) (Nat.le_refl _)
theorem MS.markAll_n (s : MS) : s.markAll.n = s.n := by
  have : ∀ (c : Int) (l : List Nat) (s : MS), (s.markL c l).n = s.n := by
    intro c l
    induction l with
    | nil => intro s; rfl
    | cons f l ih => intro s; show ((s.mark (f : Int) c (-1)).markL c l).n = _; rw [ih, MS.mark_n]
  unfold MS.markAll
  rw [MS.mark_n, this, this, MS.mark_n]
theorem MS.boot_eq {s : MS} (h : 24 ≤ s.n) (h64 : s.n ≤ 64) (kpti : Bool) : s.boot kpti = (s.markAll.rmap (!kpti) 8 s.n).layGate := by
  unfold MS.boot
  rw [MS.mapA_eq (by rw [MS.markAll_n]; exact h) (!kpti) 8 (Nat.le_refl _), MS.mapB_eq (by rw [MS.markAll_n]; exact h) (!kpti) _ h64]
end Go.Proofs.Ytoododpeoffieaa
/-
  The document's BootSpace, walked.
-/
namespace Go.Proofs.Ytoododpeoffieaa
open Go.ChangeShapes Go.WideShapes Go.ChangeAt Go.RowKit

/-- The blocks that the memory's calls turn. -/
def Tri (cw cc co : Nat) (k : Nat) : Prop := k = cw ∨ k = cc ∨ k = co
theorem RefAt.lts {w : World} {b cw cc co : Nat} {s : MS} (h : RefAt w b cw cc co s) : b < w.heap.size ∧ cw < w.heap.size ∧ cc < w.heap.size ∧ co < w.heap.size := ⟨h.top.lt, h.rw'.lt, h.rc.lt, h.ro.lt⟩

set_option maxHeartbeats 2000000 in
theorem rbootS_no {w : World} {b cw cc co : Nat} {s : MS} (m : RefAt w b cw cc co s) (N P : Int) (kpti inv : Bool) (hn : fitB s.n N P = false) :
    Calls Try.prog 25 #[cfV N P kpti inv, .pointer (some ⟨b, 0, none⟩)] w fun e w' => e = .returned (.bool false) ∧ Touch Nil w w' := by
  have t0 := (Touch.refl Nil w).alloc (.cells #[.int .i64 N, .int .i64 P, .bool kpti, .bool inv] 24)
  have m0 := m.touch t0 id id id id
  have hF : ∀ n, Calls Try.prog 33 #[.pointer (some ⟨b, 0, none⟩)] ((w.alloc (.cells #[.int .i64 N, .int .i64 P, .bool kpti, .bool inv] 24)).drewN n) fun e w' => e = .returned (.int .i64 s.n) ∧ w' = (w.alloc (.cells #[.int .i64 N, .int .i64 P, .bool kpti, .bool inv] 24)).drewN n := fun n => by
    refine (rframes_any (m0.touch ((Touch.refl Nil _).drews n) id id id id)).mono ?_
    rintro e w' ⟨rfl, rfl⟩
    exact ⟨rfl, rfl⟩
  have hc0 : (w.alloc (.cells #[.int .i64 N, .int .i64 P, .bool kpti, .bool inv] 24)).cell? ⟨w.heap.size, 0, none⟩ = some (.int .i64 N) := by simp [go_sem]
  have hc1 : (w.alloc (.cells #[.int .i64 N, .int .i64 P, .bool kpti, .bool inv] 24)).cell? ⟨w.heap.size, 1, none⟩ = some (.int .i64 P) := by simp [go_sem]
  unfold cfV
  go_enter Try.func25, Try.ntmps25
  go_upto_region 1 with fail
  generalize w.alloc (.cells #[.int .i64 N, .int .i64 P, .bool kpti, .bool inv] 24) = W at *
  generalize w.heap.size = G at *
  unfold fitB at hn
  generalize (s.n : Int) = F at *
  by_cases g1 : 24 ≤ N
  · by_cases g2 : N ≤ 64
    · cases g3 : (N == F)
      · have g3' : (N != F) = true := by rw [bne, g3]; rfl
        go_quiet ((go_at_call 33; with_reducible exact Calls.quiet_of_same (hF _)))
        go_wp2
        go_ret
        exact ⟨rfl, t0.drews _⟩
      · have g3' : (N != F) = false := by rw [bne, g3]; rfl
        by_cases g4 : 1 ≤ P
        · have g5 : ¬ P ≤ 2 := fun g5 => by rw [decide_eq_true g1, decide_eq_true g2, g3, decide_eq_true g4, decide_eq_true g5] at hn; cases hn
          have g6 : 2 < P := by omega
          go_quiet ((go_at_call 33; with_reducible exact Calls.quiet_of_same (hF _)))
          go_wp2
          go_ret
          exact ⟨rfl, t0.drews _⟩
        · have g6 : P < 1 := by omega
          go_quiet ((go_at_call 33; with_reducible exact Calls.quiet_of_same (hF _)))
          go_wp2
          go_ret
          exact ⟨rfl, t0.drews _⟩
    · have g6 : 64 < N := by omega
      go_quiet ((go_at_call 33; with_reducible exact Calls.quiet_of_same (hF _)))
      go_wp2
      go_ret
      exact ⟨rfl, t0.drews _⟩
  · have g6 : N < 24 := by omega
    go_quiet ((go_at_call 33; with_reducible exact Calls.quiet_of_same (hF _)))
    go_wp2
    go_ret
    exact ⟨rfl, t0.drews _⟩
def rlg (k : Nat) : Nat := refL.getD k 0
theorem refL_snoc : ∀ k < 11, refL.take (k + 1) = refL.take k ++ [rlg k] := by decide
def refA : Array Value := #[.int .i64 3, .int .i64 4, .int .i64 5, .int .i64 6, .int .i64 7, .int .i64 8, .int .i64 9, .int .i64 10, .int .i64 11, .int .i64 13, .int .i64 14]
theorem refA_at : ∀ k < 11, refA[k]? = some (.int .i64 ((rlg k : Nat) : Int)) := by
  intro k hk
  rcases (by omega : k = 0 ∨ k = 1 ∨ k = 2 ∨ k = 3 ∨ k = 4 ∨ k = 5 ∨ k = 6 ∨ k = 7 ∨ k = 8 ∨ k = 9 ∨ k = 10) with rfl | rfl | rfl | rfl | rfl | rfl | rfl | rfl | rfl | rfl | rfl <;> rfl
theorem markL_cons (s : MS) (c : Int) (f : Nat) (l : List Nat) : s.markL c (f :: l) = (s.mark (f : Int) c (-1)).markL c l := rfl
theorem markL_app (s : MS) (c : Int) (l : List Nat) (f : Nat) : s.markL c (l ++ [f]) = (s.markL c l).mark (f : Int) c (-1) := by
  unfold MS.markL; rw [List.foldl_append]; rfl

set_option maxRecDepth 20000 in
set_option maxHeartbeats 4000000 in
theorem rbootS_yes {w : World} {b cw cc co : Nat} {s : MS} (m : RefAt w b cw cc co s) (P : Int) (kpti inv : Bool) (h24 : 24 ≤ s.n) (hP : 1 ≤ P ∧ P ≤ 2) :
    Calls Try.prog 25 #[cfV s.n P kpti inv, .pointer (some ⟨b, 0, none⟩)] w fun e w' => e = .returned (.bool true) ∧ RefAt w' b cw cc co (s.boot kpti) ∧ Touch (Tri cw cc co) w w' := by
  have hle := m.le
  obtain ⟨lb, lw, lc, lo⟩ := m.lts
  have h64 : s.n ≤ 64 := hle
  have g1 : (24 : Int) ≤ (s.n : Int) := by omega
  have g2 : (s.n : Int) ≤ 64 := by omega
  have g3 := hP.1
  have g4 := hP.2
  have t0 := (Touch.refl Nil w).alloc (.cells #[.int .i64 s.n, .int .i64 P, .bool kpti, .bool inv] 24)
  have hB := heap_alloc_new w (.cells #[.int .i64 s.n, .int .i64 P, .bool kpti, .bool inv] 24)
  have m0 := m.touch t0 id id id id
  have hF : ∀ n, Calls Try.prog 33 #[.pointer (some ⟨b, 0, none⟩)] ((w.alloc (.cells #[.int .i64 s.n, .int .i64 P, .bool kpti, .bool inv] 24)).drewN n) fun e w' => e = .returned (.int .i64 s.n) ∧ w' = (w.alloc (.cells #[.int .i64 s.n, .int .i64 P, .bool kpti, .bool inv] 24)).drewN n := fun n => by
    refine (rframes_any (m0.touch ((Touch.refl Nil _).drews n) id id id id)).mono ?_
    rintro e w' ⟨rfl, rfl⟩
    exact ⟨rfl, rfl⟩
  have hc0 : (w.alloc (.cells #[.int .i64 s.n, .int .i64 P, .bool kpti, .bool inv] 24)).cell? ⟨w.heap.size, 0, none⟩ = some (.int .i64 s.n) := by simp [go_sem]
  have hc1 : (w.alloc (.cells #[.int .i64 s.n, .int .i64 P, .bool kpti, .bool inv] 24)).cell? ⟨w.heap.size, 1, none⟩ = some (.int .i64 P) := by simp [go_sem]
  rw [MS.boot_eq h24 h64]
  unfold cfV
  go_enter Try.func25, Try.ntmps25
  go_upto_region 1 with fail
  generalize w.alloc (.cells #[.int .i64 s.n, .int .i64 P, .bool kpti, .bool inv] 24) = W at *
  have sW := t0.size
  obtain ⟨G, hG⟩ : ∃ G, Hid (w.heap.size = G) := ⟨_, rfl⟩
  have lG : G < W.heap.size := by
    have := hG.out
    by_cases q : w.heap.size < W.heap.size
    · omega
    · rw [Array.getElem?_eq_none (by omega)] at hB; cases hB
  have neG : ∀ k, Tri cw cc co k → k ≠ G := by
    have := hG.out
    rintro k (e | e | e) <;> omega
  have HC : Hid (∀ wx, Touch (Tri cw cc co) W wx → wx.cell? ⟨G, 0, none⟩ = some (.int .i64 s.n) ∧ wx.cell? ⟨G, 2, none⟩ = some (.bool kpti)) := fun wx tx => by
    have h1 := (tx.block G lG (fun e => neG G e rfl)).trans (hG.out ▸ hB)
    simp [World.cell?, h1]
  rw [hG.out] at hc0 hc1 ⊢
  have hFF : ((s.n : Int) != (s.n : Int)) = false := by simp
  go_quiet ((go_at_call 33; with_reducible exact Calls.quiet_of_same (hF _)))
  have t1 : Touch (Tri cw cc co) W (W.drewN nq) := (Touch.refl _ W).drews nq
  have m1 := m0.touch ((Touch.refl Nil W).drews nq) id id id id
  clear hF hc0 hc1 m0
  go_wp2_with fail
  clear hFF g3 g4
  have TRI := fun {wx wy : World} (tx : Touch (fun x => x = cc ∨ x = co) wx wy) => tx.mono (S' := Tri cw cc co) (fun _ _ h => Or.inr h)
  with_reducible refine (rmark_any m1 0 5 (-1)).mono ?_
  rintro e w2 ⟨rfl, m2, t2⟩
  have T2 := t1.trans (TRI t2)
  clear m1 t1 t2
  go_wp2_with fail
  go_loopg [5] 2 (fun g i wr => ∃ k : Nat, g + k = 2 ∧ i = .int .i64 ((k : Int) + 1) ∧ RefAt wr b cw cc co ((s.mark 0 5 (-1)).markL 4 (List.range' 1 k)) ∧ Touch (Tri cw cc co) W wr)
  case atStart => exact ⟨0, by omega, rfl, m2, T2⟩
  case round =>
    clear m2 T2
    obtain ⟨k, hgk, rfl, m2, T2⟩ := hrel
    by_cases hk : k < 2
    · have k1 : (k : Int) + 1 ≤ 2 := by omega
      have hM := rmark_any m2 ((k : Int) + 1) 4 (-1)
      rw [show (k : Int) + 1 = ((1 + k : Nat) : Int) by omega, ← markL_snoc, show ((1 + k : Nat) : Int) = (k : Int) + 1 by omega] at hM
      go_wp2_with fail
      with_reducible refine hM.mono ?_
      rintro e w3 ⟨rfl, m3, t3⟩
      have T3 := T2.trans (TRI t3)
      clear hM m2 T2 t3
      go_wp2_with fail
      go_roundg (1 - k)
      case measure => omega
      case rel => exact ⟨k + 1, by omega, by go_num, m3, T3⟩
    · have hk2 : k = 2 := by omega
      subst hk2
      go_wp2_with fail
      generalize hs1 : (s.mark 0 5 (-1)).markL 4 (List.range' 1 2) = s1 at *
      have hL := heap_alloc_new wr (.cells refA 3)
      have tA := (Touch.refl Nil wr).alloc (.cells refA 3)
      have lA : wr.heap.size < (wr.alloc (.cells refA 3)).heap.size := by simp
      have m3 := m2.touch tA id id id id
      have T3 := T2.trans (tA.mono (S' := Tri cw cc co) (fun _ _ h => h.elim))
      have neL : ∀ k, Tri cw cc co k → k ≠ wr.heap.size := by
        have := T2.size
        rintro k (e | e | e) <;> omega
      clear m2 T2 tA
      unfold refA at hL lA m3 T3
      generalize wr.alloc (.cells #[.int .i64 3, .int .i64 4, .int .i64 5, .int .i64 6, .int .i64 7, .int .i64 8, .int .i64 9, .int .i64 10, .int .i64 11, .int .i64 13, .int .i64 14] 3) = WA at *
      generalize wr.heap.size = L at *
      have HL : Hid (∀ wx, Touch (Tri cw cc co) WA wx → ∀ k < 11, wx.cell? ⟨L, k, none⟩ = some (.int .i64 ((rlg k : Nat) : Int))) := fun wx tx k hk => by
        have h1 := (tx.block L lA (fun e => neL L e rfl)).trans hL
        have h2 := refA_at k hk
        unfold refA at h2
        unfold World.cell?
        rw [h1]
        simp [h2]
      clear hL neL lA
      go_loopg [47] 11 (fun g i wr => ∃ k : Nat, g + k = 11 ∧ i = .int .i64 k ∧ RefAt wr b cw cc co (s1.markL 1 (refL.take k)) ∧ Touch (Tri cw cc co) W wr ∧ Touch (Tri cw cc co) WA wr)
      case atStart => exact ⟨0, by omega, rfl, m3, T3, Touch.refl _ _⟩
      case round =>
        clear m3 T3
        obtain ⟨k, hgk, rfl, m3, T3, TA⟩ := hrel
        by_cases hk : k < 11
        · have k1 : (k : Int) < 11 := by omega
          have cc' := HL.out _ TA k hk
          have hM := rmark_any m3 ((rlg k : Nat) : Int) 1 (-1)
          rw [← markL_app, ← refL_snoc k hk] at hM
          generalize ((rlg k : Nat) : Int) = x at *
          go_wp2_with fail
          with_reducible refine hM.mono ?_
          rintro e w4 ⟨rfl, m4, t4⟩
          have T4 := T3.trans (TRI t4)
          have TA4 := TA.trans (TRI t4)
          clear hM m3 T3 TA t4 cc'
          go_wp2_with fail
          go_roundg (10 - k)
          case measure => omega
          case rel => exact ⟨k + 1, by omega, by go_num, m4, T4, TA4⟩
        · have hk11 : k = 11 := by omega
          subst hk11
          rw [show refL.take 11 = refL from rfl] at m3
          clear HL TA
          have hM := rmark_any m3 12 3 (-1)
          rw [← hs1, show ((((s.mark 0 5 (-1)).markL 4 (List.range' 1 2)).markL 1 refL).mark 12 3 (-1)) = s.markAll from MS.markR_eq h24] at hM
          clear hs1
          go_wp2_with fail
          with_reducible refine hM.mono ?_
          rintro e w4 ⟨rfl, m4, t4⟩
          have T4 := T3.trans (TRI t4)
          clear hM m3 T3 t4
          have hn2 := MS.markAll_n s
          obtain ⟨s2, hs2⟩ : ∃ s2, Hid (s.markAll = s2) := ⟨_, rfl⟩
          rw [hs2.out] at m4 hn2
          have h24' : 24 ≤ s2.n := by omega
          go_wp2_with fail
          go_loopg [8] 8 (fun g i wr => ∃ j : Nat, g + j = 8 ∧ i = .int .i64 j ∧ RefAt wr b cw cc co (s2.rmap (!kpti) j (min (8 * j) s.n)) ∧ Touch (Tri cw cc co) W wr)
          case atStart => exact ⟨0, by omega, rfl, by rw [Nat.mul_zero, Nat.zero_min, MS.rmap_zero]; exact m4, T4⟩
          case round =>
            clear m4 T4
            obtain ⟨j, hgj, rfl, m4, T4⟩ := hrel
            by_cases hj : j < 8
            · have j1 : (j : Int) < 8 := by omega
              have hW := fun wx (m : RefAt wx b cw cc co (s2.rmap (!kpti) j (min (8 * j) s.n))) => rwrite_any m (24 + (j : Int)) (packV true false false (4 + (j : Int)))
              rw [MS.rmap_a h24' (!kpti) _ hj] at hW
              have hb := bits_any true false false (4 + (j : Int))
              go_wp2_with fail
              with_reducible refine (hb _ (by omega) (by omega)).mono ?_
              rintro e w5 ⟨rfl, t5⟩
              have m5 := m4.touch t5 id id id id
              have T5 := T4.trans (t5.mono (S' := Tri cw cc co) (fun _ _ h => h.elim))
              go_wp2_with fail
              with_reducible refine (hW _ m5).mono ?_
              rintro e w6 ⟨rfl, m6, t6⟩
              have T6 := T5.trans (t6.mono (S' := Tri cw cc co) (fun _ _ h => Or.inl h))
              clear hW hb m4 T4 m5 T5 t5 t6
              go_wp2_with fail
              go_loopg [9] 8 (fun g i wr => ∃ k : Nat, g + k = 8 ∧ i = .int .i64 k ∧ RefAt wr b cw cc co (s2.rmap (!kpti) (j + 1) (min (8 * j + k) s.n)) ∧ Touch (Tri cw cc co) W wr)
              case atStart => exact ⟨0, by omega, rfl, m6, T6⟩
              case round =>
                clear m6 T6
                obtain ⟨k, hgk, rfl, m6, T6⟩ := hrel
                by_cases hk : k < 8
                · have k1 : (k : Int) < 8 := by omega
                  obtain ⟨c0, c2⟩ := HC.out _ T6
                  by_cases hf : 8 * j + k < s.n
                  · have hf' : 8 * (j : Int) + (k : Int) < (s.n : Int) := by omega
                    have e1 : min (8 * j + k) s.n = 8 * j + k := Nat.min_eq_left (by omega)
                    have e2 : min (8 * j + (k + 1)) s.n = 8 * j + k + 1 := Nat.min_eq_left (by omega)
                    rw [e1] at m6
                    have hW := fun wx (m : RefAt wx b cw cc co (s2.rmap (!kpti) (j + 1) (8 * j + k))) => rwrite_any m ((4 + (j : Int)) * 8 + (k : Int)) (packV true false (!kpti) (8 * (j : Int) + (k : Int)))
                    rw [show (4 + (j : Int)) * 8 + (k : Int) = 32 + ((8 * j + k : Nat) : Int) by omega, show 8 * (j : Int) + (k : Int) = ((8 * j + k : Nat) : Int) by omega, MS.rmap_b h24' (!kpti) (by omega) (by omega), ← e2, show 32 + ((8 * j + k : Nat) : Int) = (4 + (j : Int)) * 8 + (k : Int) by omega, show ((8 * j + k : Nat) : Int) = 8 * (j : Int) + (k : Int) by omega] at hW
                    have hb := bits_any true false (!kpti) (8 * (j : Int) + (k : Int))
                    clear e1 e2
                    go_wp2_with fail
                    with_reducible refine (hb _ (by omega) (by omega)).mono ?_
                    rintro e w7 ⟨rfl, t7⟩
                    have m7 := m6.touch t7 id id id id
                    have T7 := T6.trans (t7.mono (S' := Tri cw cc co) (fun _ _ h => h.elim))
                    go_wp2_with fail
                    with_reducible refine (hW _ m7).mono ?_
                    rintro e w8 ⟨rfl, m8, t8⟩
                    have T8 := T7.trans (t8.mono (S' := Tri cw cc co) (fun _ _ h => Or.inl h))
                    clear hW hb m6 T6 m7 T7 t7 t8 c0 c2
                    go_wp2_with fail
                    go_roundg (7 - k)
                    case measure => omega
                    case rel => exact ⟨k + 1, by omega, by go_num, m8, T8⟩
                  · have hf' : ¬ 8 * (j : Int) + (k : Int) < (s.n : Int) := by omega
                    have e1 : min (8 * j + k) s.n = min (8 * j + (k + 1)) s.n := by omega
                    rw [e1] at m6
                    clear e1
                    go_wp2_with fail
                    go_roundg (7 - k)
                    case measure => omega
                    case rel => exact ⟨k + 1, by omega, by go_num, m6, T6⟩
                · have hk8 : k = 8 := by omega
                  subst hk8
                  rw [show 8 * j + 8 = 8 * (j + 1) by omega] at m6
                  go_wp2_with fail
                  go_roundg (7 - j)
                  case measure => omega
                  case rel => exact ⟨j + 1, by omega, by go_num, m6, T6⟩
            · have hj8 : j = 8 := by omega
              subst hj8
              rw [show min (8 * 8) s.n = s.n from Nat.min_eq_right (by omega)] at m4
              clear HC
              obtain ⟨s3, hs3⟩ : ∃ s3, Hid (s2.rmap (!kpti) 8 s.n = s3) := ⟨_, rfl⟩
              rw [hs3.out] at m4
              have hb := bits_any true true false 14
              have hc := bits_any false true true 12
              go_wp2_with fail
              with_reducible refine (hb _ (by omega) (by omega)).mono ?_
              rintro e w5 ⟨rfl, t5⟩
              have m5 := m4.touch t5 id id id id
              have T5 := T4.trans (t5.mono (S' := Tri cw cc co) (fun _ _ h => h.elim))
              have hW := rwrite_any m5 104 (packV true true false 14)
              go_wp2_with fail
              with_reducible refine hW.mono ?_
              rintro e w6 ⟨rfl, m6, t6⟩
              have T6 := T5.trans (t6.mono (S' := Tri cw cc co) (fun _ _ h => Or.inl h))
              clear hW hb m4 T4 m5 T5 t5 t6
              go_wp2_with fail
              with_reducible refine (hc _ (by omega) (by omega)).mono ?_
              rintro e w7 ⟨rfl, t7⟩
              have m7 := m6.touch t7 id id id id
              have T7 := T6.trans (t7.mono (S' := Tri cw cc co) (fun _ _ h => h.elim))
              have hW := rwrite_any m7 112 (packV false true true 12)
              go_wp2_with fail
              with_reducible refine hW.mono ?_
              rintro e w8 ⟨rfl, m8, t8⟩
              have T8 := T7.trans (t8.mono (S' := Tri cw cc co) (fun _ _ h => Or.inl h))
              clear hW hc m6 T6 m7 T7 t7 t8
              go_wp2_with fail
              go_ret
              refine ⟨rfl, ?_, (t0.mono (fun _ _ h => h.elim)).trans T8⟩
              rw [hs2.out, hs3.out]; exact m8
end Go.Proofs.Ytoododpeoffieaa
