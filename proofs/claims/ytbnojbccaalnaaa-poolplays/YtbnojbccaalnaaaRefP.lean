/-
  The document's own pool (penumbraref01.Pool): one contract a function.
-/
import Derived.Test.YtbnojbccaalnaaaRefC
import Derived.Test.YtbnojbccaalnaaaPoolB
import Derived.Deep.DeepCutAuto
namespace Go.Proofs.Ytbnojbccaalnaaa
open Go.ChangeShapes Go.WideShapes Go.ChangeAt Go.RowKit

/-- The document's pool lies at q, its memory at b, its references at cr. -/
structure RPoolAt (w : World) (q b cr n : Nat) (R : Nat → Int) : Prop where
  top : w.rowIs q 63 2 (fun i => if i = 0 then .pointer (some ⟨b, 0, none⟩) else .slice (some ⟨cr, 0, none⟩) n n)
  row : w.rowIs cr 3 n (fun i => .int .i64 (R i))

namespace RPoolAt
variable {w w' : World} {q b cr n : Nat} {R : Nat → Int}
theorem touch {S : Nat → Prop} (h : RPoolAt w q b cr n R) (t : Touch S w w') (h1 : ¬ S q) (h2 : ¬ S cr) : RPoolAt w' q b cr n R := ⟨t.row h.top h1, t.row h.row h2⟩
theorem drew (h : RPoolAt w q b cr n R) : RPoolAt w.drew q b cr n R := ⟨h.top, h.row⟩
theorem drewN (h : RPoolAt w q b cr n R) (k : Nat) : RPoolAt (w.drewN k) q b cr n R := ⟨h.top, h.row⟩
theorem qr (h : RPoolAt w q b cr n R) : q ≠ cr := rowIs_ne h.top h.row (by decide)
theorem set (h : RPoolAt w q b cr n R) (i : Nat) (x : Int) : RPoolAt (w.setCell ⟨cr, i, none⟩ (.int .i64 x)) q b cr n (fun j => if j = i then x else R j) := by
  refine ⟨h.top.setOther h.qr _, (h.row.set i _).congr fun j _ => ?_⟩
  by_cases e : j = i
  · rw [if_pos e, if_pos e]
  · rw [if_neg e, if_neg e]
theorem cell0 (h : RPoolAt w q b cr n R) : w.cell? ⟨q, 0, none⟩ = some (.pointer (some ⟨b, 0, none⟩)) := h.top.cell (i := 0) (by omega)
theorem cell1 (h : RPoolAt w q b cr n R) : w.cell? ⟨q, 1, none⟩ = some (.slice (some ⟨cr, 0, none⟩) n n) := h.top.cell (i := 1) (by omega)
end RPoolAt

/-- References of frames that there are not: none. -/
def Few (n : Nat) (R : Nat → Int) : Prop := (∀ i, 0 ≤ R i) ∧ ∀ i, n ≤ i → R i = 0
theorem Few.rf_has {s : MS} {R : Nat → Int} (h : Few s.n R) (hle : s.n ≤ 64) (f : Int) : (s.hasF f = true ∧ 0 ≤ f ∧ f < s.n ∧ rf R f = R f.toNat) ∨ (s.hasF f = false ∧ rf R f = 0) := by
  cases hf : s.hasF f
  · right
    refine ⟨rfl, ?_⟩
    have := (s.hasF_no f).1 hf
    unfold rf; split
    · exact h.2 _ (by omega)
    · rfl
  · left
    have := (s.hasF_iff f).1 hf
    refine ⟨rfl, this.1, this.2, ?_⟩
    unfold rf; rw [if_pos (by omega)]
theorem Few.nn {n : Nat} {R : Nat → Int} (h : Few n R) (f : Int) : 0 ≤ rf R f := by
  unfold rf; split
  · exact h.1 _
  · omega

set_option maxHeartbeats 400000 in
theorem rpnew_any {w : World} {b cw cc co : Nat} {s : MS} (r : RefAt w b cw cc co s) :
    Calls Try.prog 23 #[.pointer (some ⟨b, 0, none⟩)] w fun e w' => ∃ q cr, e = .returned (.pointer (some ⟨q, 0, none⟩)) ∧ w.heap.size ≤ q ∧ w.heap.size ≤ cr ∧ RPoolAt w' q b cr s.n (fun _ => 0) ∧ Touch Nil w w' := by
  have hle := r.le
  have mk2 := run_make_rows (P := Try.prog) 29 3 (.int .i64 0) 1 8 (by kernel_rfl) (by kernel_rfl) (s.n : Int) s.n rfl (by omega) (by omega)
  simp only [Nat.mul_one] at mk2
  go_enter Try.func23, Try.ntmps23
  go_wp2_with (go_at_call 37; refine (rframes_any r).mono ?_; rintro e wq ⟨rfl, rfl⟩)
  go_ret
  refine ⟨w.heap.size + 1, w.heap.size, rfl, by omega, by omega, ⟨?_, ?_⟩, ((Touch.refl Nil w).alloc _).alloc _⟩
  · have := World.rowIs_alloc (w.alloc (.cells (madeCells #[.int .i64 0] s.n) 3)) #[.pointer (some ⟨b, 0, none⟩), .slice (some ⟨w.heap.size, 0, none⟩) s.n s.n] 63 (fun i => if i = 0 then .pointer (some ⟨b, 0, none⟩) else .slice (some ⟨w.heap.size, 0, none⟩) s.n s.n) (fun i hi => by
      have : i = 0 ∨ i = 1 := by simp at hi; omega
      rcases this with rfl | rfl <;> rfl)
    simpa using this
  · have h1 := World.rowIs_alloc w (madeCells #[.int .i64 0] s.n) 3 (fun _ => .int .i64 0) (fun i hi => by
      rw [size_madeCells] at hi
      exact (madeCells_get _ _ _ hi).trans (by simp [Nat.mod_one]))
    rw [size_madeCells] at h1
    exact h1.alloc _

set_option maxHeartbeats 400000 in
theorem rof_any {w : World} {q b cr cw cc co : Nat} {s : MS} {R : Nat → Int} (h : RPoolAt w q b cr s.n R) (r : RefAt w b cw cc co s) (hF : Few s.n R) (f : Int) :
    Calls Try.prog 29 #[.pointer (some ⟨q, 0, none⟩), .int .i64 f] w fun e w' => e = .returned (.int .i64 (rf R f)) ∧ w = w' := by
  have h0 := h.cell0
  have h1 := h.cell1
  have hle := r.le
  rcases hF.rf_has hle f with ⟨hf, g0, g1, hr⟩ | ⟨hf, hr⟩
  · have hc := h.row.cell (i := f.toNat) (by omega)
    rw [← hr] at hc
    clear hr
    go_enter Try.func29, Try.ntmps29
    go_wp2_with (go_at_call 40; refine (rhas_any r _).mono ?_; rintro e wq ⟨rfl, rfl⟩)
    go_ret
    exact ⟨rfl, rfl⟩
  · rw [hr]
    go_enter Try.func29, Try.ntmps29
    go_wp2_with (go_at_call 40; refine (rhas_any r _).mono ?_; rintro e wq ⟨rfl, rfl⟩)
    go_ret
    exact ⟨rfl, rfl⟩

set_option maxHeartbeats 400000 in
theorem rpshare_any {w : World} {q b cr cw cc co : Nat} {s : MS} {R : Nat → Int} (h : RPoolAt w q b cr s.n R) (r : RefAt w b cw cc co s) (hF : Few s.n R) (f : Int) (hb : rf R f < 9223372036854775807) :
    Calls Try.prog 25 #[.pointer (some ⟨q, 0, none⟩), .int .i64 f] w fun e w' => e = .returned (.bool (decide (0 < rf R f))) ∧ RPoolAt w' q b cr s.n (rshare R f) ∧ Touch (· = cr) w w' := by
  have hnn := hF.nn f
  have h1c := h.cell1
  have hle := r.le
  by_cases h1 : 0 < rf R f
  · rcases hF.rf_has hle f with ⟨hf, g0, g1, hr⟩ | ⟨hf, hr⟩
    · have hd : decide (0 < rf R f) = true := by simpa using h1
      have he : rshare R f = rset R f (rf R f + 1) := if_pos h1
      have hz : (rf R f == 0) = false := by simp; omega
      have hs := h.set f.toNat (rf R f + 1)
      rw [hd, he]
      have hc := h.row.cell (i := f.toNat) (by omega)
      rw [← hr] at hc
      have hfz := h.row.frozen f.toNat
      clear hr
      go_enter Try.func25, Try.ntmps25
      go_wp2_with (go_at_call 29; refine (rof_any h r hF _).mono ?_; rintro e wq ⟨rfl, rfl⟩)
      go_ret
      exact ⟨rfl, hs, (Touch.refl (· = cr) _).setCell rfl _⟩
    · omega
  · have hd : decide (0 < rf R f) = false := by simpa using h1
    have he : rshare R f = R := if_neg h1
    have hz : rf R f = 0 := by omega
    rw [hd, he]
    go_enter Try.func25, Try.ntmps25
    go_wp2_with (go_at_call 29; refine (rof_any h r hF _).mono ?_; rintro e wq ⟨rfl, rfl⟩)
    go_ret
    exact ⟨rfl, h, Touch.refl _ _⟩

/-- The blocks of both: which the references' is not. -/
structure Off (q b cw cc co cr : Nat) : Prop where
  b : cr ≠ b
  w : cr ≠ cw
  c : cr ≠ cc
  o : cr ≠ co
  qw : q ≠ cw
  qc : q ≠ cc
  qo : q ≠ co
  qr : q ≠ cr

set_option maxHeartbeats 1000000 in
theorem rpgive_any {w : World} {q b cr cw cc co : Nat} {s : MS} {R : Nat → Int} (h : RPoolAt w q b cr s.n R) (r : RefAt w b cw cc co s) (hF : Few s.n R) (hO : Off q b cw cc co cr) (f : Int) (hb : rf R f < 9223372036854775807) :
    Calls Try.prog 26 #[.pointer (some ⟨q, 0, none⟩), .int .i64 f] w fun e w' => e = .returned (.bool (decide (0 < rf R f))) ∧ RPoolAt w' q b cr s.n (rgive R f) ∧ RefAt w' b cw cc co (s.given R f) ∧ Touch (fun x => x = cr ∨ x = cw ∨ x = cc ∨ x = co) w w' := by
  have hnn := hF.nn f
  have h1c := h.cell1
  have h0c := h.cell0
  have hle := r.le
  by_cases h1 : 0 < rf R f
  · rcases hF.rf_has hle f with ⟨hf, g0, g1, hr⟩ | ⟨hf, hr⟩
    · have hd : decide (0 < rf R f) = true := by simpa using h1
      have he : rgive R f = rset R f (rf R f - 1) := if_pos h1
      have hz : (rf R f == 0) = false := by simp; omega
      have hs : RPoolAt _ q b cr s.n (rset R f (rf R f - 1)) := h.set f.toNat (rf R f - 1)
      have ht : Touch (· = cr) w (w.setCell ⟨cr, f.toNat, none⟩ (.int .i64 (rf R f - 1))) := (Touch.refl (· = cr) w).setCell (p := ⟨cr, f.toNat, none⟩) rfl _
      have hm : RefAt (w.setCell ⟨cr, f.toNat, none⟩ (.int .i64 (rf R f - 1))) b cw cc co s := r.touch ht (Ne.symm hO.b) (Ne.symm hO.w) (Ne.symm hO.c) (Ne.symm hO.o)
      rw [hd, he]
      have hc := h.row.cell (i := f.toNat) (by omega)
      rw [← hr] at hc
      have hfz := h.row.frozen f.toNat
      have hc2 := hs.row.cell (i := f.toNat) (by omega)
      have hc2' : rset R f (rf R f - 1) f.toNat = rf R f - 1 := by simp [rset]
      rw [hc2'] at hc2
      have t0 := hs.cell0
      have t1 := hs.cell1
      by_cases hx : rf R f = 1
      · have hg : s.given R f = (s.zero f).mark f 0 (-1) := if_pos hx
        rw [hg]
        rw [hx] at hs ht hm hc hc2 t0 t1 ⊢
        clear hc2' he h1 hg hr hd hz
        go_enter Try.func26, Try.ntmps26
        go_upto_region 4 with (go_at_call 29; refine (rof_any h r hF _).mono ?_; rintro e wq ⟨rfl, rfl⟩)
        have hs' : RPoolAt (w.setCell ⟨cr, f.toNat, none⟩ (.int .i64 0)) q b cr s.n _ := hs
        have hm' : RefAt (w.setCell ⟨cr, f.toNat, none⟩ (.int .i64 0)) b cw cc co s := hm
        have ht' : Touch (· = cr) w (w.setCell ⟨cr, f.toNat, none⟩ (.int .i64 0)) := ht
        have hc2' : (w.setCell ⟨cr, f.toNat, none⟩ (.int .i64 0)).cell? _ = some (.int .i64 0) := hc2
        have t0' : (w.setCell ⟨cr, f.toNat, none⟩ (.int .i64 0)).cell? _ = _ := t0
        have t1' : (w.setCell ⟨cr, f.toNat, none⟩ (.int .i64 0)).cell? _ = _ := t1
        clear hs hm ht hc2 t0 t1
        generalize w.setCell ⟨cr, f.toNat, none⟩ (.int .i64 0) = w1 at *
        go_wp2_with (first
          | (go_at_call 39; refine (rzero_any hm' _).mono ?_; rintro e w2 ⟨hx2, hM2, hT2⟩; subst hx2; have hP2 := hs'.touch hT2 hO.qw hO.w; have ht3 := hP2.cell0)
          | (go_at_call 38; refine (rmark_any hM2 _ _ _).mono ?_; rintro e w3 ⟨hx3, hM3, hT3⟩; subst hx3))
        go_ret
        exact ⟨rfl, hP2.touch hT3 (fun e => e.elim hO.qc hO.qo) (fun e => e.elim hO.c hO.o), hM3, ((ht'.mono fun _ _ e => Or.inl e).trans (hT2.mono fun _ _ e => Or.inr (Or.inl e))).trans (hT3.mono fun _ _ e => Or.inr (Or.inr e))⟩
      · have hg : s.given R f = s := if_neg hx
        rw [hg]
        have hne : (rf R f - 1 == 0) = false := by simp; omega
        clear hc2' he hg hr
        go_enter Try.func26, Try.ntmps26
        go_upto_region 4 with (go_at_call 29; refine (rof_any h r hF _).mono ?_; rintro e wq ⟨rfl, rfl⟩)
        generalize w.setCell ⟨cr, f.toNat, none⟩ (.int .i64 (rf R f - 1)) = w1 at *
        go_wp2
        go_ret
        exact ⟨rfl, hs, hm, ht.mono fun _ _ e => Or.inl e⟩
    · omega
  · have hd : decide (0 < rf R f) = false := by simpa using h1
    have he : rgive R f = R := if_neg h1
    have hg : s.given R f = s := if_neg (by omega)
    have hz : rf R f = 0 := by omega
    rw [hd, he, hg]
    go_enter Try.func26, Try.ntmps26
    go_wp2_with (go_at_call 29; refine (rof_any h r hF _).mono ?_; rintro e wq ⟨rfl, rfl⟩)
    go_ret
    exact ⟨rfl, h, r, Touch.refl _ _⟩

theorem RefAt.cls1 {w : World} {b cw cc co : Nat} {s : MS} (r : RefAt w b cw cc co s) : w.cell? ⟨b, 1, none⟩ = some (.slice (some ⟨cc, 0, none⟩) s.n s.n) := r.top.cell (i := 1) (by omega)

set_option maxHeartbeats 1000000 in
theorem rpleft_any {w : World} {q b cr cw cc co : Nat} {s : MS} {R : Nat → Int} (h : RPoolAt w q b cr s.n R) (r : RefAt w b cw cc co s) :
    Calls Try.prog 28 #[.pointer (some ⟨q, 0, none⟩)] w fun e w' => e = .returned (.int .i64 s.left) ∧ w = w' := by
  have h0 := h.cell0
  have h1 := r.cls1
  have hle := r.le
  go_enter Try.func28, Try.ntmps28
  go_wp2
  go_loop [3, 4] (fun n f => ∃ k : Nat, k ≤ s.n - 15 ∧ n = .int .i64 (cnt s.C k) ∧ f = .int .i64 (15 + (k : Int))) (fun _ f => s.n - (intOf f).toNat)
  case atStart => exact ⟨0, by omega, rfl, rfl⟩
  case round =>
    obtain ⟨k, hk, rfl, rfl⟩ := hrel
    have hcl := cnt_le s.C k
    by_cases hlt : 15 + k < s.n
    · have k1 : 15 + (k : Int) < s.n := by omega
      have hc := r.rc.cell (i := 15 + k) hlt
      have hstep : cnt s.C (k + 1) = cnt s.C k + if s.C (15 + k) = 0 then 1 else 0 := rfl
      by_cases hz : s.C (15 + k) = 0
      · rw [hz] at hc
        rw [if_pos hz] at hstep
        go_wp2_with (go_at_call 37; refine (rframes_any r).mono ?_; rintro e wq ⟨rfl, rfl⟩)
        go_round
        case rel => exact ⟨k + 1, by omega, by rw [hstep]; go_num, by go_num⟩
        case measure => simp [intOf]; omega
      · have hz' : (s.C (15 + k) == 0) = false := by simpa using hz
        rw [if_neg hz] at hstep
        go_wp2_with (go_at_call 37; refine (rframes_any r).mono ?_; rintro e wq ⟨rfl, rfl⟩)
        go_round
        case rel => exact ⟨k + 1, by omega, by rw [hstep]; go_num, by go_num⟩
        case measure => simp [intOf]; omega
    · have hkn : k = s.n - 15 := by omega
      have k1 : (s.n : Int) ≤ 15 + (k : Int) := by omega
      go_wp2_with (go_at_call 37; refine (rframes_any r).mono ?_; rintro e wq ⟨rfl, rfl⟩)
      go_ret
      exact ⟨ret_int (by unfold MS.left; rfl), rfl⟩

set_option maxHeartbeats 400000 in
theorem rptake_class {w : World} (q : Nat) (k o : Int) (h1 : k ≠ 1) (h2 : k ≠ 2) :
    Calls Try.prog 24 #[.pointer (some ⟨q, 0, none⟩), .int .i64 k, .int .i64 o] w fun e w' => e = .returned (.tuple #[.int .i64 0, .bool false]) ∧ w = w' := by
  have e1 : (k != 1) = true := by simpa using h1
  have e2 : (k != 2) = true := by simpa using h2
  go_enter Try.func24, Try.ntmps24
  go_wp2
  go_ret2
  exact ⟨rfl, rfl⟩

set_option maxHeartbeats 1000000 in
theorem rptake_none {w : World} {q b cr cw cc co : Nat} {s : MS} {R : Nat → Int} (h : RPoolAt w q b cr s.n R) (r : RefAt w b cw cc co s) (k o : Int) (hN : NoneFree s) :
    Calls Try.prog 24 #[.pointer (some ⟨q, 0, none⟩), .int .i64 k, .int .i64 o] w fun e w' => e = .returned (.tuple #[.int .i64 0, .bool false]) ∧ w = w' := by
  by_cases hk : k = 1 ∨ k = 2
  · have h0 := h.cell0
    have h1 := r.cls1
    have hle := r.le
    rcases hk with rfl | rfl
    all_goals
      go_enter Try.func24, Try.ntmps24
      go_wp2
      go_loop [8] (fun f => ∃ k : Nat, k ≤ s.n - 15 ∧ f = .int .i64 (15 + (k : Int))) (fun f => s.n - (intOf f).toNat)
      case atStart => exact ⟨0, by omega, rfl⟩
      case round =>
        obtain ⟨k, hk, rfl⟩ := hrel
        by_cases hlt : 15 + k < s.n
        · have k1 : 15 + (k : Int) < s.n := by omega
          have hc := r.rc.cell (i := 15 + k) hlt
          have hz : (s.C (15 + k) == 0) = false := by simpa using hN (15 + k) (by omega) hlt
          go_wp2_with (go_at_call 37; refine (rframes_any r).mono ?_; rintro e wq ⟨rfl, rfl⟩)
          go_round
          case rel => exact ⟨k + 1, by omega, by go_num⟩
          case measure => simp [intOf]; omega
        · have k1 : (s.n : Int) ≤ 15 + (k : Int) := by omega
          go_wp2_with (go_at_call 37; refine (rframes_any r).mono ?_; rintro e wq ⟨rfl, rfl⟩)
          go_ret2
          exact ⟨rfl, rfl⟩
  · exact rptake_class q k o (by omega) (by omega)

set_option maxHeartbeats 1000000 in
theorem rptake_least {w : World} {q b cr cw cc co : Nat} {s : MS} {R : Nat → Int} (h : RPoolAt w q b cr s.n R) (r : RefAt w b cw cc co s) (hO : Off q b cw cc co cr) (k o : Int) (hk : k = 1 ∨ k = 2) {f : Nat} (hL : Least s f) :
    Calls Try.prog 24 #[.pointer (some ⟨q, 0, none⟩), .int .i64 k, .int .i64 o] w fun e w' => e = .returned (.tuple #[.int .i64 f, .bool true]) ∧ RPoolAt w' q b cr s.n (rset R f 1) ∧ RefAt w' b cw cc co (s.mark f k o) ∧ Touch (fun x => x = cr ∨ x = cw ∨ x = cc ∨ x = co) w w' := by
  have h0 := h.cell0
  have h1 := r.cls1
  have hle := r.le
  obtain ⟨l1, l2, l3, l4⟩ := hL
  rcases hk with rfl | rfl
  all_goals
    go_enter Try.func24, Try.ntmps24
    go_wp2
    go_loop [8] (fun i => ∃ k : Nat, 15 + k ≤ f ∧ i = .int .i64 (15 + (k : Int))) (fun i => s.n - (intOf i).toNat)
    case atStart => exact ⟨0, by omega, rfl⟩
    case round =>
      obtain ⟨k, hk, rfl⟩ := hrel
      have k1 : 15 + (k : Int) < s.n := by omega
      have hc := r.rc.cell (i := 15 + k) (by omega)
      by_cases hlt : 15 + k < f
      · have hz : (s.C (15 + k) == 0) = false := by simpa using l4 (15 + k) (by omega) hlt
        go_wp2_with (go_at_call 37; refine (rframes_any r).mono ?_; rintro e wq ⟨rfl, rfl⟩)
        go_round
        case rel => exact ⟨k + 1, by omega, by go_num⟩
        case measure => simp [intOf]; omega
      · have hkf : f = 15 + k := by omega
        subst hkf
        rw [l3] at hc
        go_wp2_with (first
          | (go_at_call 37; refine (rframes_any r).mono ?_; rintro e wq ⟨rfl, rfl⟩)
          | (go_at_call 38; refine (rmark_any r _ _ _).mono ?_; rintro e w2 ⟨hx2, hM2, hT2⟩; subst hx2; have hP2 := h.touch hT2 (fun e => e.elim hO.qc hO.qo) (fun e => e.elim hO.c hO.o); have hc2 := hP2.row.cell (i := 15 + k) (by omega); have hc3 := hP2.cell1; have hfz := hP2.row.frozen (15 + k)))
        go_ret2
        have hS := hP2.set (15 + k) 1
        have hT3 : Touch (· = cr) w2 (w2.setCell ⟨cr, 15 + k, none⟩ (.int .i64 1)) := (Touch.refl (· = cr) w2).setCell (p := ⟨cr, 15 + k, none⟩) rfl _
        exact ⟨rfl, hS, hM2.touch hT3 (Ne.symm hO.b) (Ne.symm hO.w) (Ne.symm hO.c) (Ne.symm hO.o), (hT2.mono fun _ _ e => Or.inr (Or.inr e)).trans (hT3.mono fun _ _ e => Or.inl e)⟩
end Go.Proofs.Ytbnojbccaalnaaa
