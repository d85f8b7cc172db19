/-
  The document's own caches: Clear.
-/
import Derived.Test.YtjfdjlinjghddaaRCacheD
namespace Go.Proofs.Ytjfdjlinjghddaa
open Go.ChangeShapes Go.WideShapes Go.ChangeAt Go.RowKit

/-- While a line is cleared: of the first k CPUs. -/
def CQ.clf (q : CQ) (x : Int) (k : Nat) : CQ := { q with F := fun i => if i < k then (q.F i).cut 4 x else q.F i }
theorem CQ.clf_zero (q : CQ) (x : Int) : q.clf x 0 = q := by
  unfold CQ.clf; cases q; simp
theorem CQ.clf_step (q : CQ) (x : Int) (k : Nat) : { q.clf x k with F := fun j => if j = k then (q.F k).cut 4 x else (q.clf x k).F j } = q.clf x (k + 1) := by
  unfold CQ.clf
  simp only []
  congr 1; funext j
  by_cases e : j = k
  · subst e; rw [if_pos rfl, if_pos (by omega)]
  · rw [if_neg e]
    by_cases e2 : j < k
    · rw [if_pos e2, if_pos (by omega)]
    · rw [if_neg e2, if_neg (by omega)]
theorem CQ.clf_end (q : CQ) (x : Int) (hx : 0 ≤ x) : { q.clf x q.n with Sh := q.Sh.cut 8 x } = q.clear x := by
  unfold CQ.clf CQ.clear
  rw [if_pos hx]

set_option maxRecDepth 10000 in
set_option maxHeartbeats 4000000 in
theorem rclear_any {w : World} {r lo : Nat} {q : CQ} (h : RCAt w r lo q) (x : Int) :
    Calls Try.prog 22 #[.pointer (some ⟨r, 0, none⟩), .int .i64 x] w fun e w' => e = .returned (.bool (q.cleared x)) ∧ RCAt w' r lo (q.clear x) ∧ Touch (lo ≤ ·) w w' := by
  by_cases hx : 0 ≤ x
  · have hres : q.cleared x = (q.anyF x q.n || q.Sh.has 8 x) := by unfold CQ.cleared; rw [Bool.or_comm]; simp [hx]
    rw [hres]
    clear hres
    obtain ⟨cl, c2, cap1, D, x1, x2, h⟩ := h
    have hn := h.n2
    have hk4 : (x % 4).toNat < 4 := by omega
    have hk8 : (x % 8).toNat < 8 := by omega
    have e4 : x.tmod 4 = x % 4 := Int.tmod_eq_emod_of_nonneg hx
    have e8 : x.tmod 8 = x % 8 := Int.tmod_eq_emod_of_nonneg hx
    have m1 : 0 ≤ x % 4 := by omega
    have m2 : x % 4 < 4 := by omega
    have m3 : 0 ≤ x % 8 := by omega
    have m4 : x % 8 < 8 := by omega
    have h0 := h.top0
    have hlo : lo ≤ w.heap.size := Nat.le_trans h.rr (Nat.le_of_lt h.top.lt)
    go_enter Try.func22, Try.ntmps22
    go_wp2
    go_loopw [5, 18] (fun v i wr => ∃ k : Nat, k ≤ q.n ∧ i = .int .i64 k ∧ v = .bool (q.anyF x k) ∧ ∃ x1', RBl wr r lo (q.clf x k) cl c2 cap1 D x1' x2 ∧ Touch (lo ≤ ·) w wr) (fun _ i _ => q.n - (intOf i).toNat)
    case atStart => exact ⟨0, by omega, rfl, rfl, x1, by rw [CQ.clf_zero]; exact h, Touch.refl _ _⟩
    case round =>
      clear h0
      obtain ⟨k, hk, rfl, rfl, x1', hB, hT⟩ := hrel
      have hlr : lo ≤ wr.heap.size := Nat.le_trans hlo hT.size
      by_cases hlt : k < q.n
      · have k1 : (k : Int) < q.n := by omega
        have hkn : k < (q.clf x k).n := hlt
        have t0 : wr.cell? ⟨r, 0, none⟩ = some (.slice (some ⟨cl, 0, none⟩) q.n cap1) := hB.top0
        have c1 := hB.l1.cell (i := k) hkn
        have c3 := (hB.d1 k hkn).cell (i := (x % 4).toNat) hk4
        obtain ⟨a1, p1, v1e, s1, s2, at1⟩ := hB.L1 k hkn _ hk4
        have eF : (q.clf x k).F k = q.F k := by show (if k < k then _ else _) = _; rw [if_neg (by omega)]
        rw [eF] at v1e s1 at1
        rw [v1e] at c3
        have hlen := (hB.okF k).len (x % 4).toNat
        rw [eF] at hlen
        have hcut := rcut_any at1 s1 s2 hlr x (by omega)
        have hany : Hid (q.anyF x (k + 1) = (q.anyF x k || (q.F k).has 4 x)) := rfl
        have hdec : decide (x ∈ q.F k (x % 4).toNat) = (q.F k).has 4 x := rfl
        rw [hdec] at hcut
        have okp1 := (hB.okF k).cut x
        rw [eF] at okp1
        have hp1 : (q.F k).cut 4 x (x % 4).toNat = (q.F k (x % 4).toNat).erase x := by simp [Sets.cut]
        have hq1 : ∀ j, j ≠ (x % 4).toNat → (q.F k).cut 4 x j = (q.clf x k).F k j := fun j hj => by rw [eF]; simp [Sets.cut, hj]
        go_upto_region 8 with (go_at_call 34; refine hcut.mono ?_; rintro e w1 ⟨v1, rfl, hL1, t1⟩; have hB1 := hB.touch t1 (fun _ _ _ e => e); have t0' : w1.cell? ⟨r, 0, none⟩ = some (.slice (some ⟨cl, 0, none⟩) q.n cap1) := hB1.top0; have c1' := hB1.l1.cell (i := k) hkn; have c3' := (hB1.d1 k hkn).cell (i := (x % 4).toNat) hk4; have fz := (hB1.d1 k hkn).frozen (x % 4).toNat; obtain ⟨a3, p3, rfl, s5, s6, at3⟩ := hL1)
        have hB3 := hB1.setF hkn (v := .slice a3 ((q.F k (x % 4).toNat).erase x).length p3) okp1 (by rw [hp1]; exact ⟨a3, p3, rfl, s5, s6, at3⟩) hq1
        rw [q.clf_step x k] at hB3
        have t3' : Touch (lo ≤ ·) w (w1.setCell ⟨D k, (x % 4).toNat, none⟩ (.slice a3 ((q.F k (x % 4).toNat).erase x).length p3)) := (hT.trans (t1.mono fun _ _ e => e.elim)).setCell (p := ⟨D k, (x % 4).toNat, none⟩) (h.rd k hlt) _
        generalize (q.F k).has 4 x = fb at *
        cases hfk : q.anyF x k
        · go_wp2
          go_roundw
          case rel => exact ⟨k + 1, by omega, by go_num, by rw [hany.out, hfk]; rfl, _, hB3, t3'⟩
          case measure => simp [intOf]; omega
        · go_wp2
          go_roundw
          case rel => exact ⟨k + 1, by omega, by go_num, by rw [hany.out, hfk]; rfl, _, hB3, t3'⟩
          case measure => simp [intOf]; omega
      · have hkn : k = q.n := by omega
        subst hkn
        have t1 : wr.cell? ⟨r, 1, none⟩ = some (.slice (some ⟨c2, 0, none⟩) 8 8) := hB.top1
        have c4 := hB.l2.cell (i := (x % 8).toNat) hk8
        obtain ⟨a2, p2, v2e, s3, s4, at2⟩ := hB.L2 _ hk8
        have eS : (q.clf x q.n).Sh = q.Sh := rfl
        rw [eS] at v2e s3 at2
        rw [v2e] at c4
        have hlen := hB.okS.len (x % 8).toNat
        rw [eS] at hlen
        have hcut := rcut_any at2 s3 s4 hlr x (by omega)
        have hdec : decide (x ∈ q.Sh (x % 8).toNat) = q.Sh.has 8 x := rfl
        rw [hdec] at hcut
        have okp2 := hB.okS.cut x
        rw [eS] at okp2
        have hp2 : q.Sh.cut 8 x (x % 8).toNat = (q.Sh (x % 8).toNat).erase x := by simp [Sets.cut]
        have hq2 : ∀ j, j ≠ (x % 8).toNat → q.Sh.cut 8 x j = (q.clf x q.n).Sh j := fun j hj => by rw [eS]; simp [Sets.cut, hj]
        go_upto_region 11 with (go_at_call 34; refine hcut.mono ?_; rintro e w1 ⟨v1, rfl, hL1, t1'⟩; have hB1 := hB.touch t1' (fun _ _ _ e => e); have t1'' : w1.cell? ⟨r, 1, none⟩ = some (.slice (some ⟨c2, 0, none⟩) 8 8) := hB1.top1; have c4' := hB1.l2.cell (i := (x % 8).toNat) hk8; have fz := hB1.l2.frozen (x % 8).toNat; obtain ⟨a3, p3, rfl, s5, s6, at3⟩ := hL1)
        have hB3 := hB1.setS (v := .slice a3 ((q.Sh (x % 8).toNat).erase x).length p3) okp2 (by rw [hp2]; exact ⟨a3, p3, rfl, s5, s6, at3⟩) hq2
        rw [q.clf_end x hx] at hB3
        have t3' : Touch (lo ≤ ·) w (w1.setCell ⟨c2, (x % 8).toNat, none⟩ (.slice a3 ((q.Sh (x % 8).toNat).erase x).length p3)) := (hT.trans (t1'.mono fun _ _ e => e.elim)).setCell (p := ⟨c2, (x % 8).toNat, none⟩) h.r2 _
        cases hfk : q.anyF x q.n
        · go_wp2
          go_ret
          exact ⟨ret_bool (by rw [hfk]; rfl), ⟨_, _, _, _, _, _, hB3⟩, t3'⟩
        · go_wp2
          go_ret
          exact ⟨ret_bool (by rw [hfk]; rfl), ⟨_, _, _, _, _, _, hB3⟩, t3'⟩
  · have h1 : x < 0 := by omega
    have hr : q.cleared x = false := by simp [CQ.cleared, hx]
    have hr2 : q.clear x = q := by simp [CQ.clear, hx]
    rw [hr, hr2]
    go_enter Try.func22, Try.ntmps22
    go_wp2
    go_ret
    exact ⟨rfl, h, Touch.refl _ _⟩
end Go.Proofs.Ytjfdjlinjghddaa
