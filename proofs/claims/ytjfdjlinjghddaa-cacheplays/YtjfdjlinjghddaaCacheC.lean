/-
  What each call of package cache comes to, but those that make one.
-/
import Derived.Test.YtjfdjlinjghddaaCacheB
import Derived.Test.YtjfdjlinjghddaaRows2
import Derived.Lib.SlFresh
namespace Go.Proofs.Ytjfdjlinjghddaa
open Go.ChangeShapes Go.WideShapes Go.ChangeAt Go.RowKit

/-- Caches lie at b: first caches at cf, their lines at C i, shared lines at cs; all within lo .. hi. -/
structure CBl (w : World) (b lo hi : Nat) (q : CQ) (cf cs capf caps : Nat) (C capC : Nat → Nat) : Prop where
  n1 : 1 ≤ q.n
  n2 : q.n ≤ 2
  rb : lo ≤ b ∧ b < hi
  rf : lo ≤ cf ∧ cf < hi
  rs : lo ≤ cs ∧ cs < hi
  rc : ∀ i, i < q.n → lo ≤ C i ∧ C i < hi
  ds : ∀ i, i < q.n → C i ≠ cs
  dd : ∀ i j, i < q.n → j < q.n → i ≠ j → C i ≠ C j
  cf1 : q.n ≤ capf
  cs1 : 32 ≤ caps ∧ caps ≤ maxLen
  cc1 : ∀ i, i < q.n → 8 ≤ capC i ∧ capC i ≤ maxLen
  okF : ∀ i, SOK 4 2 (q.F i)
  okS : SOK 8 4 q.Sh
  top : w.rowIs b 48 3 (fun i => if i = 0 then .slice (some ⟨cf, 0, none⟩) q.n capf else if i = 1 then .int .i64 4 else .slice (some ⟨cs, 0, none⟩) 32 caps)
  first : rowHas w cf 45 (q.n * 2) (fun i => if i % 2 = 0 then .int .i64 2 else .slice (some ⟨C (i / 2), 0, none⟩) 8 (capC (i / 2)))
  lines : ∀ i, i < q.n → rowHas w (C i) 3 8 (fun j => .int .i64 (tg (q.F i) 2 j))
  shared : rowHas w cs 3 32 (fun j => .int .i64 (tg q.Sh 4 j))

def CAt (w : World) (b lo hi : Nat) (q : CQ) : Prop := ∃ cf cs capf caps C capC, CBl w b lo hi q cf cs capf caps C capC

theorem rowHas_ne {w : World} {b c : Nat} {t u : TypeId} {n m : Nat} {f g : Nat → Value} (h : rowHas w b t n f) (k : rowHas w c u m g) (ht : t ≠ u) : b ≠ c := by
  obtain ⟨_, _, _, h1, _⟩ := h
  obtain ⟨_, _, _, k1, _⟩ := k
  exact rowIs_ne h1 k1 ht

namespace CBl
variable {w w' : World} {b lo hi : Nat} {q : CQ} {cf cs capf caps : Nat} {C capC : Nat → Nat}
theorem drewN (h : CBl w b lo hi q cf cs capf caps C capC) (n : Nat) : CBl (w.drewN n) b lo hi q cf cs capf caps C capC :=
  { h with top := h.top, first := h.first, lines := h.lines, shared := h.shared }
theorem touch {S : Nat → Prop} (h : CBl w b lo hi q cf cs capf caps C capC) (t : Touch S w w') (hs : ∀ k, lo ≤ k → k < hi → ¬ S k) : CBl w' b lo hi q cf cs capf caps C capC :=
  { h with top := t.row h.top (hs _ h.rb.1 h.rb.2), first := h.first.touch t (hs _ h.rf.1 h.rf.2), lines := fun i hi => (h.lines i hi).touch t (hs _ (h.rc i hi).1 (h.rc i hi).2), shared := h.shared.touch t (hs _ h.rs.1 h.rs.2) }
theorem sh (h : CBl w b lo hi q cf cs capf caps C capC) : SAt w b 1 cs caps 8 4 q.Sh :=
  ⟨Or.inr ⟨rfl, rfl⟩, h.okS, rowHas_ne (rowHas.of h.top) h.shared (by decide), h.cs1.1, h.cs1.2, h.top.cell (i := 1) (by omega), h.top.cell (i := 2) (by omega), h.shared⟩
theorem cpu (h : CBl w b lo hi q cf cs capf caps C capC) {i : Nat} (hi' : i < q.n) : SAt w cf (i * 2) (C i) (capC i) 4 2 (q.F i) := by
  refine ⟨Or.inl ⟨rfl, rfl⟩, h.okF i, rowHas_ne h.first (h.lines i hi') (by decide), (h.cc1 i hi').1, (h.cc1 i hi').2, ?_, ?_, h.lines i hi'⟩
  · rw [h.first.cell (by omega), if_pos (by omega)]; rfl
  · rw [h.first.cell (by omega), if_neg (by omega), show (i * 2 + 1) / 2 = i by omega]
theorem setSh (h : CBl w b lo hi q cf cs capf caps C capC) (t : Touch (· = cs) w w') {S' : Sets} (s : SAt w' b 1 cs caps 8 4 S') : CBl w' b lo hi { q with Sh := S' } cf cs capf caps C capC :=
  { h with okS := s.ok, shared := s.row, top := t.row h.top h.sh.ne, first := h.first.touch t (rowHas_ne h.first h.shared (by decide)), lines := fun i hi => (h.lines i hi).touch t (h.ds i hi) }
theorem setF (h : CBl w b lo hi q cf cs capf caps C capC) {i : Nat} (hi' : i < q.n) (t : Touch (· = C i) w w') {S' : Sets} (s : SAt w' cf (i * 2) (C i) (capC i) 4 2 S') : CBl w' b lo hi { q with F := fun j => if j = i then S' else q.F j } cf cs capf caps C capC :=
  { h with
    okF := fun j => by
      show SOK 4 2 (if j = i then S' else q.F j)
      split
      · exact s.ok
      · exact h.okF j
    shared := h.shared.touch t (fun e => h.ds i hi' e.symm), top := t.row h.top (rowHas_ne (rowHas.of h.top) (h.lines i hi') (by decide)), first := h.first.touch t (h.cpu hi').ne
    lines := fun j hj => by
      show rowHas w' (C j) _ 8 (fun k => .int .i64 (tg (if j = i then S' else q.F j) 2 k))
      by_cases e : j = i
      · subst e; rw [if_pos rfl]; exact s.row
      · rw [if_neg e]; exact (h.lines j hj).touch t (h.dd j i hj hi' e) }
theorem top0 (h : CBl w b lo hi q cf cs capf caps C capC) : w.cell? ⟨b, 0, none⟩ = some (.slice (some ⟨cf, 0, none⟩) q.n capf) := h.top.cell (i := 0) (by omega)
end CBl

theorem CAt.touch {S : Nat → Prop} {w w' : World} {b lo hi : Nat} {q : CQ} (h : CAt w b lo hi q) (t : Touch S w w') (hs : ∀ k, lo ≤ k → k < hi → ¬ S k) : CAt w' b lo hi q := by
  obtain ⟨cf, cs, capf, caps, C, capC, h⟩ := h
  exact ⟨cf, cs, capf, caps, C, capC, h.touch t hs⟩
theorem CAt.drewN {w : World} {b lo hi : Nat} {q : CQ} (h : CAt w b lo hi q) (n : Nat) : CAt (w.drewN n) b lo hi q := by
  obtain ⟨cf, cs, capf, caps, C, capC, h⟩ := h
  exact ⟨cf, cs, capf, caps, C, capC, h.drewN n⟩

theorem atV_nn (S : Sets) (K : Nat) (x : Int) : decide (0 ≤ atV S K x) = (decide (0 ≤ x) && S.has K x) := by
  unfold atV
  by_cases h : 0 ≤ x
  · rw [if_pos h, pl_nn]; simp [h, Sets.has]
  · rw [if_neg h]; simp [h]

set_option maxHeartbeats 400000 in
theorem chas_any {w : World} {b lo hi : Nat} {q : CQ} (h : CAt w b lo hi q) (u : Int) :
    Calls Try.prog 27 #[.pointer (some ⟨b, 0, none⟩), .int .i64 u] w fun e w' => e = .returned (.bool (q.hasC u)) ∧ w = w' := by
  obtain ⟨cf, cs, capf, caps, C, capC, h⟩ := h
  have h0 := h.top0
  have hn := h.n2
  by_cases h1 : 0 ≤ u
  · go_enter Try.func27, Try.ntmps27
    go_wp2
    go_ret
    exact ⟨ret_bool (by simp [CQ.hasC, h1]), rfl⟩
  · go_enter Try.func27, Try.ntmps27
    go_wp2
    go_ret
    exact ⟨ret_bool (by rw [eq_comm, CQ.hasC_no]; omega), rfl⟩

set_option maxHeartbeats 400000 in
theorem cnear_any {w : World} {b lo hi : Nat} {q : CQ} (h : CAt w b lo hi q) (u x : Int) (hx : x < 9223372036854775808) :
    Calls Try.prog 15 #[.pointer (some ⟨b, 0, none⟩), .int .i64 u, .int .i64 x] w fun e w' => e = .returned (.bool (q.near u x)) ∧ ∃ n, w' = w.drewN n := by
  have hh := h
  obtain ⟨cf, cs, capf, caps, C, capC, h⟩ := h
  have h0 := h.top0
  have hn := h.n2
  cases hw : q.hasC u
  · have hr : q.near u x = false := by simp [CQ.near, CQ.may, hw]
    rw [hr]
    go_enter Try.func15, Try.ntmps15
    go_wp2_with (go_at_call 27; refine (chas_any hh _).mono ?_; rintro e w' ⟨rfl, rfl⟩)
    go_ret
    exact ⟨rfl, 0, rfl⟩
  · obtain ⟨b1, b2⟩ := (q.hasC_iff u).1 hw
    have hr : q.near u x = decide (0 ≤ atV (q.F u.toNat) 4 x) := by rw [atV_nn]; simp [CQ.near, CQ.may, hw]
    rw [hr]
    have hs := h.cpu (i := u.toNat) (by omega)
    go_enter Try.func15, Try.ntmps15
    go_wp2_with (first
      | (go_at_call 27; refine (chas_any hh _).mono ?_; rintro e w' ⟨rfl, rfl⟩)
      | (go_at_call 30; refine (sat_any hs _ hx).mono ?_; rintro e w' ⟨rfl, n, rfl⟩))
    go_ret
    exact ⟨rfl, n, rfl⟩

set_option maxHeartbeats 400000 in
theorem cevict_any {w : World} {b lo hi : Nat} {q : CQ} (h : CAt w b lo hi q) (u x : Int) (hx : x < 9223372036854775808) :
    Calls Try.prog 17 #[.pointer (some ⟨b, 0, none⟩), .int .i64 u, .int .i64 x] w fun e w' => e = .returned (.bool (q.near u x)) ∧ CAt w' b lo hi (q.evict u x) ∧ Touch (fun y => lo ≤ y ∧ y < hi) w w' := by
  have hh := h
  obtain ⟨cf, cs, capf, caps, C, capC, h⟩ := h
  have h0 := h.top0
  have hn := h.n2
  cases hw : q.hasC u
  · have hr : q.near u x = false := by simp [CQ.near, CQ.may, hw]
    have hr2 : q.evict u x = q := by simp [CQ.evict, CQ.may, hw]
    rw [hr, hr2]
    go_enter Try.func17, Try.ntmps17
    go_wp2_with (go_at_call 27; refine (chas_any hh _).mono ?_; rintro e w' ⟨rfl, rfl⟩)
    go_ret
    exact ⟨rfl, hh, Touch.refl _ _⟩
  · obtain ⟨b1, b2⟩ := (q.hasC_iff u).1 hw
    have hr : q.near u x = (decide (0 ≤ x) && (q.F u.toNat).has 4 x) := by simp [CQ.near, CQ.may, hw]
    have hr2 : q.evict u x = { q with F := fun j => if j = u.toNat then (if 0 ≤ x then (q.F u.toNat).cut 4 x else q.F u.toNat) else q.F j } := by
      have hm : q.may u x = decide (0 ≤ x) := by simp [CQ.may, hw]
      unfold CQ.evict; rw [hm]
      by_cases h1 : 0 ≤ x
      · rw [if_pos (by simpa using h1), if_pos h1]
        congr 1; funext j; split
        · rename_i e; rw [e]
        · rfl
      · rw [if_neg (by simpa using h1), if_neg h1]
        cases q; congr 1; funext j; split
        · rename_i e; rw [e]
        · rfl
    rw [hr, hr2]
    have hs := h.cpu (i := u.toNat) (by omega)
    have hd := sdrop_any hs x hx
    generalize (if 0 ≤ x then (q.F u.toNat).cut 4 x else q.F u.toNat) = S' at hd hr2 ⊢
    generalize (decide (0 ≤ x) && (q.F u.toNat).has 4 x) = y at hd hr ⊢
    have hrc := h.rc u.toNat (by omega)
    go_enter Try.func17, Try.ntmps17
    go_wp2_with (first
      | (go_at_call 27; refine (chas_any hh _).mono ?_; rintro e w' ⟨rfl, rfl⟩)
      | (go_at_call 31; refine hd.mono ?_; rintro e w2 ⟨hx2, hS, hT⟩; subst hx2))
    go_ret
    exact ⟨rfl, ⟨_, _, _, _, _, _, h.setF (by omega) hT hS⟩, hT.mono fun k _ e => e ▸ hrc⟩

set_option maxHeartbeats 400000 in
theorem ctouch_any {w : World} {b lo hi : Nat} {q : CQ} (h : CAt w b lo hi q) (u x : Int) (hx : x < 9223372036854775808) :
    Calls Try.prog 10 #[.pointer (some ⟨b, 0, none⟩), .int .i64 u, .int .i64 x] w fun e w' => e = .returned (.bool (q.may u x)) ∧ CAt w' b lo hi (q.touch u x) ∧ Touch (fun y => lo ≤ y ∧ y < hi) w w' := by
  have hh := h
  obtain ⟨cf, cs, capf, caps, C, capC, h⟩ := h
  have h0 := h.top0
  have hn := h.n2
  cases hm : q.may u x
  · have hr2 : q.touch u x = q := by simp [CQ.touch, hm]
    rw [hr2]
    cases hw : q.hasC u
    · go_enter Try.func10, Try.ntmps10
      go_wp2_with (go_at_call 27; refine (chas_any hh _).mono ?_; rintro e w' ⟨rfl, rfl⟩)
      go_ret
      exact ⟨rfl, hh, Touch.refl _ _⟩
    · have h1 : x < 0 := by simp [CQ.may, hw] at hm; omega
      go_enter Try.func10, Try.ntmps10
      go_wp2_with (go_at_call 27; refine (chas_any hh _).mono ?_; rintro e w' ⟨rfl, rfl⟩)
      go_ret
      exact ⟨rfl, hh, Touch.refl _ _⟩
  · have hm' := hm
    simp only [CQ.may, Bool.and_eq_true, decide_eq_true_eq] at hm'
    obtain ⟨hw, h1⟩ := hm'
    obtain ⟨b1, b2⟩ := (q.hasC_iff u).1 hw
    have hr2 : q.touch u x = { q with F := fun j => if j = u.toNat then (q.F u.toNat).put 4 2 x else q.F j, Sh := q.Sh.put 8 4 x } := by
      unfold CQ.touch; rw [hm, if_pos rfl]
      congr 1; funext j; split
      · rename_i e; rw [e]
      · rfl
    rw [hr2]
    have hs := h.cpu (i := u.toNat) (by omega)
    have hrc := h.rc u.toNat (by omega)
    have hrs := h.rs
    go_enter Try.func10, Try.ntmps10
    go_wp2_with (first
      | (go_at_call 27; refine (chas_any hh _).mono ?_; rintro e w' ⟨rfl, rfl⟩)
      | (go_at_call_has 28 (Value.pointer (some ⟨cf, u.toNat * 2, none⟩)); refine (sadd_any hs _ h1 hx).mono ?_; rintro e w2 ⟨hx2, hS, hT⟩; subst hx2; have h2 := h.setF (by omega) hT hS)
      | (go_at_call_has 28 (Value.pointer (some ⟨b, 1, none⟩)); refine (sadd_any h2.sh _ h1 hx).mono ?_; rintro e w3 ⟨hx3, hS3, hT3⟩; subst hx3))
    go_ret
    exact ⟨rfl, ⟨_, _, _, _, _, _, h2.setSh hT3 hS3⟩, (hT.mono fun k _ e => e ▸ hrc).trans (hT3.mono fun k _ e => e ▸ hrs)⟩
end Go.Proofs.Ytjfdjlinjghddaa
