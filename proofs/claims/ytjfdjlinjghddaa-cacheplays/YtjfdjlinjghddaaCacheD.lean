/-
  What Clear, Tags, Shared come to.
-/
import Derived.Test.YtjfdjlinjghddaaCacheC
import Derived.WalkSpells
namespace Go.Proofs.Ytjfdjlinjghddaa
open Go.ChangeShapes Go.WideShapes Go.ChangeAt Go.RowKit

set_option maxHeartbeats 1000000 in
theorem iclone_any {w : World} {c n cap : Nat} {f : Nat → Value} (h : rowHas w c 3 n f) (hn : n ≤ 64) :
    Calls Try.prog 29 #[.slice (some ⟨c, 0, none⟩) n cap] w fun e w' => ∃ c' cap', e = .returned (.slice (some ⟨c', 0, none⟩) n cap') ∧ w.heap.size ≤ c' ∧ rowHas w' c' 3 n f ∧ Touch Nil w w' ∧ n ≤ cap' ∧ cap' ≤ maxLen := by
  have he := fun w => Lib.run_eql_slice_nil (P := Try.prog) w 24 3 (some ⟨c, 0, none⟩) n cap 0 0 (by kernel_rfl)
  rw [← Nat.mul_one n] at h
  obtain ⟨c', cap', W', hr, hc', hrow, ht, k1, k2⟩ := append_fresh_cap (P := Try.prog) (w.alloc (.cells #[] 3)) 24 3 24 (.int .i64 0) 1 8 (by kernel_rfl) (by kernel_rfl) w.heap.size c n cap f
    (rowHas_alloc w #[] _ 0 f (by simp) (fun i hi => by omega)) (h.alloc _) (by omega) (by omega)
  rw [Nat.mul_one] at hrow
  have hge : w.heap.size ≤ c' := by rcases hc' with rfl | rfl <;> simp
  have hT : Touch Nil w W' := ((Touch.refl Nil w).alloc _).trans ht
  clear hc' ht h
  go_enter Try.func29, Try.ntmps29
  go_wp2_with (refine Lib.wpList_append_run_sl _ rfl _ _ 24 rfl _ _ rfl rfl hr ?_)
  go_ret
  exact ⟨c', cap', rfl, hge, hrow, hT, k1, k2⟩

set_option maxHeartbeats 400000 in
theorem ctags_yes {w : World} {b lo hi : Nat} {q : CQ} (h : CAt w b lo hi q) (u : Int) (hw : q.hasC u = true) :
    Calls Try.prog 11 #[.pointer (some ⟨b, 0, none⟩), .int .i64 u] w fun e w' => ∃ c' cap', e = .returned (.slice (some ⟨c', 0, none⟩) 8 cap') ∧ w.heap.size ≤ c' ∧ rowHas w' c' 3 8 (fun j => .int .i64 (tg (q.F u.toNat) 2 j)) ∧ Touch Nil w w' ∧ 8 ≤ cap' ∧ cap' ≤ maxLen := by
  have hh := h
  obtain ⟨cf, cs, capf, caps, C, capC, h⟩ := h
  have h0 := h.top0
  have hn := h.n2
  obtain ⟨b1, b2⟩ := (q.hasC_iff u).1 hw
  have hs := h.cpu (i := u.toNat) (by omega)
  have hl := hs.lines
  go_enter Try.func11, Try.ntmps11
  go_wp2_with (first
    | (go_at_call 27; refine (chas_any hh _).mono ?_; rintro e w' ⟨rfl, rfl⟩)
    | (go_at_call 29; refine (iclone_any hs.row (by omega)).mono ?_; rintro e w1 ⟨c', cap', rfl, hge, hrow, hT, k1, k2⟩))
  go_ret
  exact ⟨c', cap', rfl, hge, hrow, hT, k1, k2⟩
set_option maxHeartbeats 400000 in
theorem ctags_no {w : World} {b lo hi : Nat} {q : CQ} (h : CAt w b lo hi q) (u : Int) (hw : q.hasC u = false) :
    Calls Try.prog 11 #[.pointer (some ⟨b, 0, none⟩), .int .i64 u] w fun e w' => e = .returned (.slice none 0 0) ∧ w = w' := by
  go_enter Try.func11, Try.ntmps11
  go_wp2_with (go_at_call 27; refine (chas_any h _).mono ?_; rintro e w' ⟨rfl, rfl⟩)
  go_ret
  exact ⟨rfl, rfl⟩

set_option maxHeartbeats 400000 in
theorem cshared_any {w : World} {b lo hi : Nat} {q : CQ} (h : CAt w b lo hi q) :
    Calls Try.prog 12 #[.pointer (some ⟨b, 0, none⟩)] w fun e w' => ∃ c' cap', e = .returned (.slice (some ⟨c', 0, none⟩) 32 cap') ∧ w.heap.size ≤ c' ∧ rowHas w' c' 3 32 (fun j => .int .i64 (tg q.Sh 4 j)) ∧ Touch Nil w w' ∧ 32 ≤ cap' ∧ cap' ≤ maxLen := by
  obtain ⟨cf, cs, capf, caps, C, capC, h⟩ := h
  have hs := h.sh
  have hl := hs.lines
  go_enter Try.func12, Try.ntmps12
  go_wp2_with (go_at_call 29; refine (iclone_any hs.row (by omega)).mono ?_; rintro e w1 ⟨c', cap', rfl, hge, hrow, hT, k1, k2⟩)
  go_ret
  exact ⟨c', cap', rfl, hge, hrow, hT, k1, k2⟩

/-- While a line is cleared: of the first k CPUs, and of what is shared. -/
def CQ.clr (q : CQ) (x : Int) (k : Nat) : CQ := if 0 ≤ x then { q with F := fun i => if i < k then (q.F i).cut 4 x else q.F i, Sh := q.Sh.cut 8 x } else q
theorem CQ.clr_n (q : CQ) (x : Int) (k : Nat) : (q.clr x k).n = q.n := by unfold CQ.clr; split <;> rfl
theorem CQ.clr_F (q : CQ) (x : Int) (k i : Nat) : (q.clr x k).F i = if 0 ≤ x ∧ i < k then (q.F i).cut 4 x else q.F i := by
  unfold CQ.clr
  by_cases h : 0 ≤ x
  · rw [if_pos h]; simp [h]
  · rw [if_neg h, if_neg (by omega)]
theorem CQ.clr_step (q : CQ) (x : Int) (k : Nat) : { q.clr x k with F := fun j => if j = k then (if 0 ≤ x then (q.F k).cut 4 x else q.F k) else (q.clr x k).F j } = q.clr x (k + 1) := by
  unfold CQ.clr
  by_cases h : 0 ≤ x
  · simp only [if_pos h]
    congr 1; funext j
    by_cases e : j = k
    · subst e; rw [if_pos rfl, if_pos (by omega)]
    · rw [if_neg e]
      by_cases e2 : j < k
      · rw [if_pos e2, if_pos (by omega)]
      · rw [if_neg e2, if_neg (by omega)]
  · simp only [if_neg h]
    cases q; congr 1; funext j; split
    · rename_i e; rw [e]
    · rfl
theorem CQ.clr_start (q : CQ) (x : Int) : { q with Sh := if 0 ≤ x then q.Sh.cut 8 x else q.Sh } = q.clr x 0 := by
  unfold CQ.clr
  by_cases h : 0 ≤ x
  · simp [if_pos h]
  · simp [if_neg h]
/-- What is told so far. -/
def CQ.had (q : CQ) (x : Int) (k : Nat) : Bool := decide (0 ≤ x) && (q.Sh.has 8 x || q.anyF x k)
theorem CQ.had_start (q : CQ) (x : Int) : (decide (0 ≤ x) && q.Sh.has 8 x) = q.had x 0 := by simp [CQ.had, CQ.anyF]
theorem CQ.had_step (q : CQ) (x : Int) (k : Nat) : (if (decide (0 ≤ x) && (q.F k).has 4 x) = true then true else q.had x k) = q.had x (k + 1) := by
  have e : q.anyF x (k + 1) = (q.anyF x k || (q.F k).has 4 x) := rfl
  unfold CQ.had
  rw [e]
  cases decide (0 ≤ x) <;> cases (q.F k).has 4 x <;> simp

set_option maxRecDepth 10000 in
set_option maxHeartbeats 1000000 in
theorem cclear_any {w : World} {b lo hi : Nat} {q : CQ} (h : CAt w b lo hi q) (x : Int) (hx : x < 9223372036854775808) :
    Calls Try.prog 16 #[.pointer (some ⟨b, 0, none⟩), .int .i64 x] w fun e w' => e = .returned (.bool (q.cleared x)) ∧ CAt w' b lo hi (q.clear x) ∧ Touch (fun y => lo ≤ y ∧ y < hi) w w' := by
  obtain ⟨cf, cs, capf, caps, C, capC, h⟩ := h
  have hd := sdrop_any h.sh x hx
  have hst := q.clr_start x
  generalize (if 0 ≤ x then q.Sh.cut 8 x else q.Sh) = S' at hd hst
  rw [q.had_start] at hd
  have hn := h.n2
  have hrs := h.rs
  go_enter Try.func16, Try.ntmps16
  go_wp2_with (first
    | (go_at_call 31; refine hd.mono ?_; rintro e w2 ⟨hx2, hS, hT⟩; subst hx2; have h2 := h.setSh hT hS; rw [hst] at h2; have t0 := h2.top0; rw [CQ.clr_n] at t0))
  have hT2 : Touch (fun y => lo ≤ y ∧ y < hi) w w2 := hT.mono fun k _ e => e ▸ hrs
  clear hd hst hS hT
  go_loopw [5, 17] (fun v i wr => ∃ k : Nat, k ≤ q.n ∧ i = .int .i64 k ∧ v = .bool (q.had x k) ∧ CBl wr b lo hi (q.clr x k) cf cs capf caps C capC ∧ Touch (fun y => lo ≤ y ∧ y < hi) w wr) (fun _ i _ => q.n - (intOf i).toNat)
  case atStart => exact ⟨0, by omega, rfl, rfl, h2, hT2⟩
  case round =>
    clear h2 hT2 t0
    obtain ⟨k, hk, rfl, rfl, hB, hT⟩ := hrel
    by_cases hlt : k < q.n
    · have k1 : (k : Int) < q.n := by omega
      have t0 := hB.top0
      rw [CQ.clr_n] at t0
      have hs := hB.cpu (i := k) (by rw [CQ.clr_n]; exact hlt)
      have eF : (q.clr x k).F k = q.F k := by rw [CQ.clr_F, if_neg (by omega)]
      rw [eF] at hs
      have hd := sdrop_any hs x hx
      have hst := q.clr_step x k
      have hh := q.had_step x k
      have hrc := hB.rc k (by rw [CQ.clr_n]; exact hlt)
      have hset := fun w' (S' : Sets) (t : Touch (· = C k) wr w') => hB.setF (by rw [CQ.clr_n]; exact hlt) t (S' := S')
      generalize (if 0 ≤ x then (q.F k).cut 4 x else q.F k) = S' at hd hst
      generalize (decide (0 ≤ x) && (q.F k).has 4 x) = y at hd hh
      cases y
      · rw [if_neg (by simp)] at hh
        have hh' : Hid (q.had x k = q.had x (k + 1)) := hh
        clear hh
        go_wp2_with (go_at_call 31; refine hd.mono ?_; rintro e w3 ⟨hx2, hS, hT3⟩; subst hx2; have h3 := hset _ _ hT3 hS; rw [hst] at h3)
        go_roundw
        case rel => exact ⟨k + 1, by omega, by go_num, by rw [hh'.out], h3, hT.trans (hT3.mono fun k _ e => e ▸ hrc)⟩
        case measure => simp [intOf]; omega
      · rw [if_pos rfl] at hh
        have hh' : Hid (true = q.had x (k + 1)) := hh
        clear hh
        go_wp2_with (go_at_call 31; refine hd.mono ?_; rintro e w3 ⟨hx2, hS, hT3⟩; subst hx2; have h3 := hset _ _ hT3 hS; rw [hst] at h3)
        go_roundw
        case rel => exact ⟨k + 1, by omega, by go_num, by rw [hh'.out], h3, hT.trans (hT3.mono fun k _ e => e ▸ hrc)⟩
        case measure => simp [intOf]; omega
    · have hkn : k = q.n := by omega
      subst hkn
      go_wp2
      go_ret
      exact ⟨rfl, ⟨_, _, _, _, _, _, hB⟩, hT⟩
end Go.Proofs.Ytjfdjlinjghddaa
