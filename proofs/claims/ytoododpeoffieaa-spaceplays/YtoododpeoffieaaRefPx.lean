/-
  The document's own pool (penumbraref01.Pool): one contract a function.
-/
import Derived.Test.YtoododpeoffieaaMemFx
import Derived.Deep.DeepCutAuto
import Derived.Test.YtoododpeoffieaaEntAx
import Derived.Deep.RegionHeld3
namespace Go.Proofs.Ytoododpeoffieaa
open Go.ChangeShapes Go.WideShapes Go.ChangeAt Go.RowKit

/-- The document's pool lies at q, its memory at b, its references at cr. -/
structure RPoolAt (w : World) (q b cr n : Nat) (R : Nat → Int) : Prop where
  top : w.rowIs q 113 2 (fun i => if i = 0 then .pointer (some ⟨b, 0, none⟩) else .slice (some ⟨cr, 0, none⟩) n n)
  row : w.rowIs cr 3 n (fun i => .int .i64 (R i))

namespace RPoolAt
variable {w w' : World} {q b cr n : Nat} {R : Nat → Int}
theorem touch {S : Nat → Prop} (h : RPoolAt w q b cr n R) (t : Touch S w w') (h1 : ¬ S q) (h2 : ¬ S cr) : RPoolAt w' q b cr n R := ⟨t.row h.top h1, t.row h.row h2⟩
theorem drew (h : RPoolAt w q b cr n R) : RPoolAt w.drew q b cr n R := ⟨h.top, h.row⟩
theorem drewN (h : RPoolAt w q b cr n R) (k : Nat) : RPoolAt (w.drewN k) q b cr n R := ⟨h.top, h.row⟩
theorem qr (h : RPoolAt w q b cr n R) : q ≠ cr := rowIs_ne h.top h.row (by decide)
theorem set (h : RPoolAt w q b cr n R) (i : Nat) (x : Int) : RPoolAt (w.setCell ⟨cr, i, none⟩ (.int .i64 x)) q b cr n (fun j => if j = i then x else R j) := by
  refine ⟨h.top.setOther h.qr _, (h.row.set i _).congr fun j _ => ?_⟩
  by_cases e : j = i
  · rw [if_pos e, if_pos e]
  · rw [if_neg e, if_neg e]
theorem cell0 (h : RPoolAt w q b cr n R) : w.cell? ⟨q, 0, none⟩ = some (.pointer (some ⟨b, 0, none⟩)) := h.top.cell (i := 0) (by omega)
theorem cell1 (h : RPoolAt w q b cr n R) : w.cell? ⟨q, 1, none⟩ = some (.slice (some ⟨cr, 0, none⟩) n n) := h.top.cell (i := 1) (by omega)
end RPoolAt

/-- References of frames that there are not: none. -/
def Few (n : Nat) (R : Nat → Int) : Prop := (∀ i, 0 ≤ R i) ∧ ∀ i, n ≤ i → R i = 0
theorem Few.rf_has {s : MS} {R : Nat → Int} (h : Few s.n R) (hle : s.n ≤ 64) (f : Int) : (s.hasF f = true ∧ 0 ≤ f ∧ f < s.n ∧ rf R f = R f.toNat) ∨ (s.hasF f = false ∧ rf R f = 0) := by
  cases hf : s.hasF f
  · right
    refine ⟨rfl, ?_⟩
    have := (s.hasF_no f).1 hf
    unfold rf; split
    · exact h.2 _ (by omega)
    · rfl
  · left
    have := (s.hasF_iff f).1 hf
    refine ⟨rfl, this.1, this.2, ?_⟩
    unfold rf; rw [if_pos (by omega)]
theorem Few.nn {n : Nat} {R : Nat → Int} (h : Few n R) (f : Int) : 0 ≤ rf R f := by
  unfold rf; split
  · exact h.1 _
  · omega

set_option maxHeartbeats 400000 in
theorem rpnew_any {w : World} {b cw cc co : Nat} {s : MS} (r : RefAt w b cw cc co s) :
    Calls Try.prog 26 #[.pointer (some ⟨b, 0, none⟩)] w fun e w' => ∃ q cr, e = .returned (.pointer (some ⟨q, 0, none⟩)) ∧ w.heap.size ≤ q ∧ w.heap.size ≤ cr ∧ RPoolAt w' q b cr s.n (fun _ => 0) ∧ Touch Nil w w' := by
  have hle := r.le
  have mk2 := run_make_rows (P := Try.prog) 22 3 (.int .i64 0) 1 8 (by kernel_rfl) (by kernel_rfl) (s.n : Int) s.n rfl (by omega) (by omega)
  simp only [Nat.mul_one] at mk2
  go_enter Try.func26, Try.ntmps26
  go_wp2_with (go_at_call 33; refine (rframes_any r).mono ?_; rintro e wq ⟨rfl, rfl⟩)
  go_ret
  refine ⟨w.heap.size + 1, w.heap.size, rfl, by omega, by omega, ⟨?_, ?_⟩, ((Touch.refl Nil w).alloc _).alloc _⟩
  · have := World.rowIs_alloc (w.alloc (.cells (madeCells #[.int .i64 0] s.n) 3)) #[.pointer (some ⟨b, 0, none⟩), .slice (some ⟨w.heap.size, 0, none⟩) s.n s.n] 113 (fun i => if i = 0 then .pointer (some ⟨b, 0, none⟩) else .slice (some ⟨w.heap.size, 0, none⟩) s.n s.n) (fun i hi => by
      have : i = 0 ∨ i = 1 := by simp at hi; omega
      rcases this with rfl | rfl <;> rfl)
    simpa using this
  · have h1 := World.rowIs_alloc w (madeCells #[.int .i64 0] s.n) 3 (fun _ => .int .i64 0) (fun i hi => by
      rw [size_madeCells] at hi
      exact (madeCells_get _ _ _ hi).trans (by simp [Nat.mod_one]))
    rw [size_madeCells] at h1
    exact h1.alloc _

set_option maxHeartbeats 400000 in
theorem rof_any {w : World} {q b cr cw cc co : Nat} {s : MS} {R : Nat → Int} (h : RPoolAt w q b cr s.n R) (r : RefAt w b cw cc co s) (hF : Few s.n R) (f : Int) :
    Calls Try.prog 71 #[.pointer (some ⟨q, 0, none⟩), .int .i64 f] w fun e w' => e = .returned (.int .i64 (rf R f)) ∧ w = w' := by
  have h0 := h.cell0
  have h1 := h.cell1
  have hle := r.le
  rcases hF.rf_has hle f with ⟨hf, g0, g1, hr⟩ | ⟨hf, hr⟩
  · have hc := h.row.cell (i := f.toNat) (by omega)
    rw [← hr] at hc
    clear hr
    go_enter Try.func71, Try.ntmps71
    go_wp2_with (go_at_call 77; refine (rhas_any r _).mono ?_; rintro e wq ⟨rfl, rfl⟩)
    go_ret
    exact ⟨rfl, rfl⟩
  · rw [hr]
    go_enter Try.func71, Try.ntmps71
    go_wp2_with (go_at_call 77; refine (rhas_any r _).mono ?_; rintro e wq ⟨rfl, rfl⟩)
    go_ret
    exact ⟨rfl, rfl⟩

/-- The blocks of both: which the references' is not. -/
structure Off (q b cw cc co cr : Nat) : Prop where
  b : cr ≠ b
  w : cr ≠ cw
  c : cr ≠ cc
  o : cr ≠ co
  qw : q ≠ cw
  qc : q ≠ cc
  qo : q ≠ co
  qr : q ≠ cr

set_option maxHeartbeats 1000000 in
theorem rpgive_any {w : World} {q b cr cw cc co : Nat} {s : MS} {R : Nat → Int} (h : RPoolAt w q b cr s.n R) (r : RefAt w b cw cc co s) (hF : Few s.n R) (hO : Off q b cw cc co cr) (f : Int) (hb : rf R f < 9223372036854775807) :
    Calls Try.prog 49 #[.pointer (some ⟨q, 0, none⟩), .int .i64 f] w fun e w' => e = .returned (.bool (decide (0 < rf R f))) ∧ RPoolAt w' q b cr s.n (rgive R f) ∧ RefAt w' b cw cc co (s.given R f) ∧ Touch (fun x => x = cr ∨ x = cw ∨ x = cc ∨ x = co) w w' := by
  have hnn := hF.nn f
  have h1c := h.cell1
  have h0c := h.cell0
  have hle := r.le
  by_cases h1 : 0 < rf R f
  · rcases hF.rf_has hle f with ⟨hf, g0, g1, hr⟩ | ⟨hf, hr⟩
    · have hd : decide (0 < rf R f) = true := by simpa using h1
      have he : rgive R f = rset R f (rf R f - 1) := if_pos h1
      have hz : (rf R f == 0) = false := by simp; omega
      have hs : RPoolAt _ q b cr s.n (rset R f (rf R f - 1)) := h.set f.toNat (rf R f - 1)
      have ht : Touch (· = cr) w (w.setCell ⟨cr, f.toNat, none⟩ (.int .i64 (rf R f - 1))) := (Touch.refl (· = cr) w).setCell (p := ⟨cr, f.toNat, none⟩) rfl _
      have hm : RefAt (w.setCell ⟨cr, f.toNat, none⟩ (.int .i64 (rf R f - 1))) b cw cc co s := r.touch ht (Ne.symm hO.b) (Ne.symm hO.w) (Ne.symm hO.c) (Ne.symm hO.o)
      rw [hd, he]
      have hc := h.row.cell (i := f.toNat) (by omega)
      rw [← hr] at hc
      have hfz := h.row.frozen f.toNat
      have hc2 := hs.row.cell (i := f.toNat) (by omega)
      have hc2' : rset R f (rf R f - 1) f.toNat = rf R f - 1 := by simp [rset]
      rw [hc2'] at hc2
      have t0 := hs.cell0
      have t1 := hs.cell1
      by_cases hx : rf R f = 1
      · have hg : s.given R f = (s.zero f).mark f 0 (-1) := if_pos hx
        rw [hg]
        rw [hx] at hs ht hm hc hc2 t0 t1 ⊢
        clear hc2' he h1 hg hr hd hz
        go_enter Try.func49, Try.ntmps49
        go_upto_region 4 with (go_at_call 71; refine (rof_any h r hF _).mono ?_; rintro e wq ⟨rfl, rfl⟩)
        have hs' : RPoolAt (w.setCell ⟨cr, f.toNat, none⟩ (.int .i64 0)) q b cr s.n _ := hs
        have hm' : RefAt (w.setCell ⟨cr, f.toNat, none⟩ (.int .i64 0)) b cw cc co s := hm
        have ht' : Touch (· = cr) w (w.setCell ⟨cr, f.toNat, none⟩ (.int .i64 0)) := ht
        have hc2' : (w.setCell ⟨cr, f.toNat, none⟩ (.int .i64 0)).cell? _ = some (.int .i64 0) := hc2
        have t0' : (w.setCell ⟨cr, f.toNat, none⟩ (.int .i64 0)).cell? _ = _ := t0
        have t1' : (w.setCell ⟨cr, f.toNat, none⟩ (.int .i64 0)).cell? _ = _ := t1
        clear hs hm ht hc2 t0 t1
        generalize w.setCell ⟨cr, f.toNat, none⟩ (.int .i64 0) = w1 at *
        go_wp2_with (first
          | (go_at_call 72; refine (rzero_any hm' _).mono ?_; rintro e w2 ⟨hx2, hM2, hT2⟩; subst hx2; have hP2 := hs'.touch hT2 hO.qw hO.w; have ht3 := hP2.cell0)
          | (go_at_call 59; refine (rmark_any hM2 _ _ _).mono ?_; rintro e w3 ⟨hx3, hM3, hT3⟩; subst hx3))
        go_ret
        exact ⟨rfl, hP2.touch hT3 (fun e => e.elim hO.qc hO.qo) (fun e => e.elim hO.c hO.o), hM3, ((ht'.mono fun _ _ e => Or.inl e).trans (hT2.mono fun _ _ e => Or.inr (Or.inl e))).trans (hT3.mono fun _ _ e => Or.inr (Or.inr e))⟩
      · have hg : s.given R f = s := if_neg hx
        rw [hg]
        have hne : (rf R f - 1 == 0) = false := by simp; omega
        clear hc2' he hg hr
        go_enter Try.func49, Try.ntmps49
        go_upto_region 4 with (go_at_call 71; refine (rof_any h r hF _).mono ?_; rintro e wq ⟨rfl, rfl⟩)
        generalize w.setCell ⟨cr, f.toNat, none⟩ (.int .i64 (rf R f - 1)) = w1 at *
        go_wp2
        go_ret
        exact ⟨rfl, hs, hm, ht.mono fun _ _ e => Or.inl e⟩
    · omega
  · have hd : decide (0 < rf R f) = false := by simpa using h1
    have he : rgive R f = R := if_neg h1
    have hg : s.given R f = s := if_neg (by omega)
    have hz : rf R f = 0 := by omega
    rw [hd, he, hg]
    go_enter Try.func49, Try.ntmps49
    go_wp2_with (go_at_call 71; refine (rof_any h r hF _).mono ?_; rintro e wq ⟨rfl, rfl⟩)
    go_ret
    exact ⟨rfl, h, r, Touch.refl _ _⟩

theorem RefAt.cls1 {w : World} {b cw cc co : Nat} {s : MS} (r : RefAt w b cw cc co s) : w.cell? ⟨b, 1, none⟩ = some (.slice (some ⟨cc, 0, none⟩) s.n s.n) := r.top.cell (i := 1) (by omega)

set_option maxHeartbeats 1000000 in
theorem rpleft_any {w : World} {q b cr cw cc co : Nat} {s : MS} {R : Nat → Int} (h : RPoolAt w q b cr s.n R) (r : RefAt w b cw cc co s) :
    Calls Try.prog 43 #[.pointer (some ⟨q, 0, none⟩)] w fun e w' => e = .returned (.int .i64 s.left) ∧ w = w' := by
  have h0 := h.cell0
  have h1 := r.cls1
  have hle := r.le
  go_enter Try.func43, Try.ntmps43
  go_wp2
  go_loop [3, 4] (fun n f => ∃ k : Nat, k ≤ s.n - 15 ∧ n = .int .i64 (cnt s.C k) ∧ f = .int .i64 (15 + (k : Int))) (fun _ f => s.n - (intOf f).toNat)
  case atStart => exact ⟨0, by omega, rfl, rfl⟩
  case round =>
    obtain ⟨k, hk, rfl, rfl⟩ := hrel
    have hcl := cnt_le s.C k
    by_cases hlt : 15 + k < s.n
    · have k1 : 15 + (k : Int) < s.n := by omega
      have hc := r.rc.cell (i := 15 + k) hlt
      have hstep : cnt s.C (k + 1) = cnt s.C k + if s.C (15 + k) = 0 then 1 else 0 := rfl
      by_cases hz : s.C (15 + k) = 0
      · rw [hz] at hc
        rw [if_pos hz] at hstep
        go_wp2_with (go_at_call 33; refine (rframes_any r).mono ?_; rintro e wq ⟨rfl, rfl⟩)
        go_round
        case rel => exact ⟨k + 1, by omega, by rw [hstep]; go_num, by go_num⟩
        case measure => simp [intOf]; omega
      · have hz' : (s.C (15 + k) == 0) = false := by simpa using hz
        rw [if_neg hz] at hstep
        go_wp2_with (go_at_call 33; refine (rframes_any r).mono ?_; rintro e wq ⟨rfl, rfl⟩)
        go_round
        case rel => exact ⟨k + 1, by omega, by rw [hstep]; go_num, by go_num⟩
        case measure => simp [intOf]; omega
    · have hkn : k = s.n - 15 := by omega
      have k1 : (s.n : Int) ≤ 15 + (k : Int) := by omega
      go_wp2_with (go_at_call 33; refine (rframes_any r).mono ?_; rintro e wq ⟨rfl, rfl⟩)
      go_ret
      exact ⟨ret_int (by unfold MS.left; rfl), rfl⟩

set_option maxHeartbeats 400000 in
theorem rptake_class {w : World} (q : Nat) (k o : Int) (h1 : k ≠ 1) (h2 : k ≠ 2) :
    Calls Try.prog 67 #[.pointer (some ⟨q, 0, none⟩), .int .i64 k, .int .i64 o] w fun e w' => e = .returned (.tuple #[.int .i64 0, .bool false]) ∧ w = w' := by
  have e1 : (k != 1) = true := by simpa using h1
  have e2 : (k != 2) = true := by simpa using h2
  go_enter Try.func67, Try.ntmps67
  go_wp2
  go_ret2
  exact ⟨rfl, rfl⟩

set_option maxHeartbeats 1000000 in
theorem rptake_none {w : World} {q b cr cw cc co : Nat} {s : MS} {R : Nat → Int} (h : RPoolAt w q b cr s.n R) (r : RefAt w b cw cc co s) (k o : Int) (hN : NoneFree s) :
    Calls Try.prog 67 #[.pointer (some ⟨q, 0, none⟩), .int .i64 k, .int .i64 o] w fun e w' => e = .returned (.tuple #[.int .i64 0, .bool false]) ∧ w = w' := by
  by_cases hk : k = 1 ∨ k = 2
  · have h0 := h.cell0
    have h1 := r.cls1
    have hle := r.le
    rcases hk with rfl | rfl
    all_goals
      go_enter Try.func67, Try.ntmps67
      go_wp2
      go_loop [8] (fun f => ∃ k : Nat, k ≤ s.n - 15 ∧ f = .int .i64 (15 + (k : Int))) (fun f => s.n - (intOf f).toNat)
      case atStart => exact ⟨0, by omega, rfl⟩
      case round =>
        obtain ⟨k, hk, rfl⟩ := hrel
        by_cases hlt : 15 + k < s.n
        · have k1 : 15 + (k : Int) < s.n := by omega
          have hc := r.rc.cell (i := 15 + k) hlt
          have hz : (s.C (15 + k) == 0) = false := by simpa using hN (15 + k) (by omega) hlt
          go_wp2_with (go_at_call 33; refine (rframes_any r).mono ?_; rintro e wq ⟨rfl, rfl⟩)
          go_round
          case rel => exact ⟨k + 1, by omega, by go_num⟩
          case measure => simp [intOf]; omega
        · have k1 : (s.n : Int) ≤ 15 + (k : Int) := by omega
          go_wp2_with (go_at_call 33; refine (rframes_any r).mono ?_; rintro e wq ⟨rfl, rfl⟩)
          go_ret2
          exact ⟨rfl, rfl⟩
  · exact rptake_class q k o (by omega) (by omega)

set_option maxHeartbeats 1000000 in
theorem rptake_least {w : World} {q b cr cw cc co : Nat} {s : MS} {R : Nat → Int} (h : RPoolAt w q b cr s.n R) (r : RefAt w b cw cc co s) (hO : Off q b cw cc co cr) (k o : Int) (hk : k = 1 ∨ k = 2) {f : Nat} (hL : Least s f) :
    Calls Try.prog 67 #[.pointer (some ⟨q, 0, none⟩), .int .i64 k, .int .i64 o] w fun e w' => e = .returned (.tuple #[.int .i64 f, .bool true]) ∧ RPoolAt w' q b cr s.n (rset R f 1) ∧ RefAt w' b cw cc co (s.mark f k o) ∧ Touch (fun x => x = cr ∨ x = cw ∨ x = cc ∨ x = co) w w' := by
  have h0 := h.cell0
  have h1 := r.cls1
  have hle := r.le
  obtain ⟨l1, l2, l3, l4⟩ := hL
  rcases hk with rfl | rfl
  all_goals
    go_enter Try.func67, Try.ntmps67
    go_wp2
    go_loop [8] (fun i => ∃ k : Nat, 15 + k ≤ f ∧ i = .int .i64 (15 + (k : Int))) (fun i => s.n - (intOf i).toNat)
    case atStart => exact ⟨0, by omega, rfl⟩
    case round =>
      obtain ⟨k, hk, rfl⟩ := hrel
      have k1 : 15 + (k : Int) < s.n := by omega
      have hc := r.rc.cell (i := 15 + k) (by omega)
      by_cases hlt : 15 + k < f
      · have hz : (s.C (15 + k) == 0) = false := by simpa using l4 (15 + k) (by omega) hlt
        go_wp2_with (go_at_call 33; refine (rframes_any r).mono ?_; rintro e wq ⟨rfl, rfl⟩)
        go_round
        case rel => exact ⟨k + 1, by omega, by go_num⟩
        case measure => simp [intOf]; omega
      · have hkf : f = 15 + k := by omega
        subst hkf
        rw [l3] at hc
        go_wp2_with (first
          | (go_at_call 33; refine (rframes_any r).mono ?_; rintro e wq ⟨rfl, rfl⟩)
          | (go_at_call 59; refine (rmark_any r _ _ _).mono ?_; rintro e w2 ⟨hx2, hM2, hT2⟩; subst hx2; have hP2 := h.touch hT2 (fun e => e.elim hO.qc hO.qo) (fun e => e.elim hO.c hO.o); have hc2 := hP2.row.cell (i := 15 + k) (by omega); have hc3 := hP2.cell1; have hfz := hP2.row.frozen (15 + k)))
        go_ret2
        have hS := hP2.set (15 + k) 1
        have hT3 : Touch (· = cr) w2 (w2.setCell ⟨cr, 15 + k, none⟩ (.int .i64 1)) := (Touch.refl (· = cr) w2).setCell (p := ⟨cr, 15 + k, none⟩) rfl _
        exact ⟨rfl, hS, hM2.touch hT3 (Ne.symm hO.b) (Ne.symm hO.w) (Ne.symm hO.c) (Ne.symm hO.o), (hT2.mono fun _ _ e => Or.inr (Or.inr e)).trans (hT3.mono fun _ _ e => Or.inl e)⟩
end Go.Proofs.Ytoododpeoffieaa
/-
  The document's own space (penumbraref17): entries, tables.
-/
namespace Go.Proofs.Ytoododpeoffieaa
open Go.ChangeShapes Go.WideShapes Go.ChangeAt Go.RowKit

set_option maxHeartbeats 400000 in
theorem rraw_any (x : Int) (w : World) (h1 : 0 ≤ x) (h2 : x < 18446744073709551616) :
    Calls Try.prog 79 #[.int .u64 x] w fun e w' => e = .returned (.int .i64 (x / 4096 % 1099511627776)) ∧ w' = w := by
  have hm := int_mask40 (x / 4096) (by omega) (by omega)
  go_enter Try.func79, Try.ntmps79
  go_wp2
  go_ret
  exact ⟨rfl, rfl⟩

set_option maxHeartbeats 400000 in
theorem rpack_ok (a u g : Bool) (f : Int) (w : World) (h1 : 0 ≤ f) (h2 : f < 1099511627776) :
    Calls Try.prog 68 #[.agg #[.bool true, .bool a, .bool u, .bool g, .int .i64 f]] w fun e w' => e = .returned (.tuple #[.int .u64 (packV a u g f), .bool true]) ∧ Touch Nil w w' := by
  have H : Hid _ := packV_bits a u g f h1 h2
  have t := (Touch.refl Nil w).alloc (.cells #[.bool true, .bool a, .bool u, .bool g, .int .i64 f] 122)
  cases a <;> cases u <;> cases g
  all_goals
    go_enter Try.func68, Try.ntmps68
    go_wp2
    go_ret2
    refine ⟨?_, t⟩
    have := H.out
    simp only [if_true, if_false, Bool.false_eq_true] at this
    rw [← this]
    rfl

set_option maxHeartbeats 400000 in
theorem bits_any (a u g : Bool) (f : Int) (w : World) (h1 : 0 ≤ f) (h2 : f < 1099511627776) :
    Calls Try.prog 47 #[.int .i64 f, .bool a, .bool u, .bool g] w fun e w' => e = .returned (.int .u64 (packV a u g f)) ∧ Touch Nil w w' := by
  go_enter Try.func47, Try.ntmps47
  go_wp2_with fail
  with_reducible refine (rpack_ok a u g f _ h1 h2).mono ?_
  rintro e w1 ⟨rfl, t1⟩
  go_wp2_with fail
  go_ret
  exact ⟨rfl, t1⟩

set_option maxHeartbeats 400000 in
theorem runpack_zero (w : World) :
    Calls Try.prog 73 #[.int .u64 0] w fun e w' => e = .returned (.tuple #[.agg #[.bool false, .bool false, .bool false, .bool false, .int .i64 0], .int .i64 3]) ∧ Touch Nil w w' := by
  have hm : bits .and .u64 0 1 = 0 := by rw [and_one 0 (by omega) (by omega)]; rfl
  go_enter Try.func73, Try.ntmps73
  go_wp2
  refine bodyPost_ret (v := .tuple #[.agg #[.bool false, .bool false, .bool false, .bool false, .int .i64 0], .int .i64 3]) (by simp [results, Try.results73, go_sem]) rfl ⟨rfl, ?_⟩
  first | exact Touch.refl _ _ | exact (Touch.refl Nil w).alloc _
set_option maxHeartbeats 400000 in
theorem runpack_pack (a u g : Bool) (f : Int) (w : World) (h1 : 0 ≤ f) (h2 : f < 1099511627776) :
    Calls Try.prog 73 #[.int .u64 (packV a u g f)] w fun e w' => e = .returned (.tuple #[.agg #[.bool true, .bool a, .bool u, .bool g, .int .i64 f], .int .i64 0]) ∧ Touch Nil w w' := by
  obtain ⟨b0, b1⟩ := packV_bd a u g f h1 h2
  have hm : bits .and .u64 (packV a u g f) 1 = 1 := by rw [and_one _ (by omega) (by omega), odd_pack]
  have ho := okX_pack a u g f h1 h2
  have hr := raw_pack a u g f h1 h2
  obtain ⟨c1, c2, c3⟩ := bitV_pack a u g f
  have hb1 := and_bit (packV a u g f) 1 2 rfl (by omega) (by omega) (by omega)
  have hb2 := and_bit (packV a u g f) 2 4 rfl (by omega) (by omega) (by omega)
  have hb3 := and_bit (packV a u g f) 8 256 rfl (by omega) (by omega) (by omega)
  rw [c1] at hb1
  rw [c2] at hb2
  rw [c3] at hb3
  have hR := fun wx => rraw_any (packV a u g f) wx (by omega) (by omega)
  rw [hr] at hR
  generalize packV a u g f = x at *
  unfold okX at ho
  clear c1 c2 c3 hr
  go_enter Try.func73, Try.ntmps73
  go_wp2_with (go_at_call 79; refine (hR _).mono ?_; rintro e w' ⟨rfl, rfl⟩)
  refine bodyPost_ret (v := .tuple #[.agg #[.bool true, .bool a, .bool u, .bool g, .int .i64 f], .int .i64 0]) (by simp [results, Try.results73, go_sem]) rfl ⟨rfl, ?_⟩
  first | exact Touch.refl _ _ | exact (Touch.refl Nil _).alloc _
end Go.Proofs.Ytoododpeoffieaa
/-
  The document's own space (penumbraref17): its world, a table at a place.
-/
namespace Go.Proofs.Ytoododpeoffieaa
open Go.ChangeShapes Go.WideShapes Go.ChangeAt Go.RowKit

/-- What all processes share, in block W. -/
structure RW where
  N : Int
  P : Int
  kpti : Bool
  inv : Bool
  b : Nat
  q : Nat
  sw : Nat
def RW.cell (x : RW) (i : Nat) : Value :=
  if i = 0 then .int .i64 x.N else if i = 1 then .int .i64 x.P else if i = 2 then .bool x.kpti else if i = 3 then .bool x.inv else if i = 4 then .pointer (some ⟨x.b, 0, none⟩)
  else if i = 5 then .pointer (some ⟨x.q, 0, none⟩) else if i = 6 then .pointer (some ⟨x.sw, 0, none⟩) else if i = 7 then .int .i64 3 else .int .i64 13
def RWAt (w : World) (W : Nat) (x : RW) : Prop := w.rowIs W 42 9 x.cell
namespace RWAt
variable {w w' : World} {W : Nat} {x : RW}
theorem touch {S : Nat → Prop} (h : RWAt w W x) (t : Touch S w w') (hs : ¬ S W) : RWAt w' W x := t.row h hs
theorem kptiC (h : RWAt w W x) : w.cell? ⟨W, 2, none⟩ = some (.bool x.kpti) := World.rowIs.cell h (i := 2) (by omega)
theorem memC (h : RWAt w W x) : w.cell? ⟨W, 4, none⟩ = some (.pointer (some ⟨x.b, 0, none⟩)) := World.rowIs.cell h (i := 4) (by omega)
theorem poolC (h : RWAt w W x) : w.cell? ⟨W, 5, none⟩ = some (.pointer (some ⟨x.q, 0, none⟩)) := World.rowIs.cell h (i := 5) (by omega)
theorem mapC (h : RWAt w W x) : w.cell? ⟨W, 7, none⟩ = some (.int .i64 3) := World.rowIs.cell h (i := 7) (by omega)
theorem gateC (h : RWAt w W x) : w.cell? ⟨W, 8, none⟩ = some (.int .i64 13) := World.rowIs.cell h (i := 8) (by omega)
theorem lt (h : RWAt w W x) : W < w.heap.size := World.rowIs.lt h
end RWAt
/-- A space of the document's, in block o: its world's block, its owner, its roots, the slice of what it took. -/
structure RS where
  W : Nat
  own : Int
  kern : Int
  user : Int
  took : Value
def RS.cell (x : RS) (i : Nat) : Value :=
  if i = 0 then .pointer (some ⟨x.W, 0, none⟩) else if i = 1 then .int .i64 x.own else if i = 2 then .int .i64 x.kern else if i = 3 then .int .i64 x.user else x.took
def RSAt (w : World) (o : Nat) (x : RS) : Prop := w.rowIs o 61 5 x.cell
namespace RSAt
variable {w w' : World} {o : Nat} {x : RS}
theorem touch {S : Nat → Prop} (h : RSAt w o x) (t : Touch S w w') (hs : ¬ S o) : RSAt w' o x := t.row h hs
theorem worldC (h : RSAt w o x) : w.cell? ⟨o, 0, none⟩ = some (.pointer (some ⟨x.W, 0, none⟩)) := World.rowIs.cell h (i := 0) (by omega)
theorem ownC (h : RSAt w o x) : w.cell? ⟨o, 1, none⟩ = some (.int .i64 x.own) := World.rowIs.cell h (i := 1) (by omega)
theorem kernC (h : RSAt w o x) : w.cell? ⟨o, 2, none⟩ = some (.int .i64 x.kern) := World.rowIs.cell h (i := 2) (by omega)
theorem userC (h : RSAt w o x) : w.cell? ⟨o, 3, none⟩ = some (.int .i64 x.user) := World.rowIs.cell h (i := 3) (by omega)
theorem tookC (h : RSAt w o x) : w.cell? ⟨o, 4, none⟩ = some x.took := World.rowIs.cell h (i := 4) (by omega)
theorem frozen (h : RSAt w o x) (i : Nat) : w.frozen? ⟨o, i, none⟩ = false := World.rowIs.frozen h i
theorem lt (h : RSAt w o x) : o < w.heap.size := World.rowIs.lt h
end RSAt

/-- What a place's word leads to, if it is 0 or a packed entry. -/
def Leads (x r : Int) : Prop := (x = 0 ∧ r = 0) ∨ ∃ a u g, x = packV a u g r ∧ 0 ≤ r ∧ r < 64

set_option maxHeartbeats 400000 in
theorem rtable_any {w : World} {o cw cc co : Nat} {x : RS} {y : RW} {s : MS} (h : RSAt w o x) (hw : RWAt w x.W y) (m : RefAt w y.b cw cc co s) (at' r : Int) (hl : Leads (s.rd at') r) :
    Calls Try.prog 53 #[.pointer (some ⟨o, 0, none⟩), .int .i64 at'] w fun e w' => e = .returned (.int .i64 r) ∧ Touch Nil w w' := by
  have c0 := h.worldC
  have c4 := hw.memC
  have hR := rread_any m at'
  rcases hl with ⟨e0, rfl⟩ | ⟨a, u, g, e1, r0, r1⟩
  · rw [e0] at hR
    go_enter Try.func53, Try.ntmps53
    go_wp2_with fail
    with_reducible refine hR.mono ?_
    rintro e wq ⟨rfl, rfl⟩
    go_wp2_with fail
    with_reducible refine (runpack_zero _).mono ?_
    rintro e w2 ⟨rfl, t2⟩
    go_wp2_with fail
    go_ret
    exact ⟨rfl, by first | exact t2 | exact t2.alloc _⟩
  · rw [e1] at hR
    have hU := fun wx => runpack_pack a u g r wx r0 (by omega)
    generalize packV a u g r = X at *
    go_enter Try.func53, Try.ntmps53
    go_wp2_with fail
    with_reducible refine hR.mono ?_
    rintro e wq ⟨rfl, rfl⟩
    go_wp2_with fail
    with_reducible refine (hU _).mono ?_
    rintro e w2 ⟨rfl, t2⟩
    go_wp2_with fail
    go_ret
    exact ⟨rfl, by first | exact t2 | exact t2.alloc _⟩

set_option maxHeartbeats 400000 in
theorem ruser_any (p : Int) (w : World) : Calls Try.prog 52 #[.int .i64 p] w fun e w' => e = .returned (.bool (decide (0 ≤ p) && decide (p < 256))) ∧ w' = w := by
  by_cases h0 : 0 ≤ p
  · go_enter Try.func52, Try.ntmps52
    go_wp2
    go_ret
    exact ⟨ret_bool (by simp [h0]), rfl⟩
  · go_enter Try.func52, Try.ntmps52
    go_wp2
    go_ret
    exact ⟨ret_bool (by simp; omega), rfl⟩

theorem and7 (p : Int) (h0 : 0 ≤ p) (h1 : p < 256) : bits .and .i64 p 7 = p % 8 := by
  have : ∀ n < 256, bits .and .i64 ((n : Nat) : Int) 7 = ((n : Nat) : Int) % 8 := by decide +kernel
  have e := this p.toNat (by omega)
  rw [show ((p.toNat : Nat) : Int) = p by omega] at e
  exact e

/-- Where a page's word lies, if its tables are there. -/
structure Way (s : MS) (user page t u : Int) : Prop where
  up : Leads (s.rd (user * 8 + page / 64)) t
  la : t ≠ 0 → Leads (s.rd (t * 8 + page / 8 % 8)) u

set_option maxHeartbeats 1000000 in
theorem rget_any {w : World} {o cw cc co : Nat} {x : RS} {y : RW} {s : MS} (h : RSAt w o x) (hw : RWAt w x.W y) (m : RefAt w y.b cw cc co s) (page t u : Int) (hu : 0 ≤ x.user ∧ x.user < 64) (ht : 0 ≤ t ∧ t < 64) (hu2 : 0 ≤ u ∧ u < 64) (hl : 0 ≤ page → page < 256 → Way s x.user page t u) :
    Calls Try.prog 21 #[.pointer (some ⟨o, 0, none⟩), .int .i64 page] w fun e w' => e = .returned (.int .u64 (if (0 ≤ page ∧ page < 256) ∧ t ≠ 0 ∧ u ≠ 0 then s.rd (u * 8 + page % 8) else 0)) ∧ Touch Nil w w' := by
  have hus := fun wx => ruser_any page wx
  by_cases hp : 0 ≤ page ∧ page < 256
  · obtain ⟨p0, p1⟩ := hp
    rw [decide_eq_true p0, decide_eq_true p1] at hus
    have hW := hl p0 p1
    have c3 := h.userC
    have hT := fun wx (h : RSAt wx o x) (hw : RWAt wx x.W y) (m : RefAt wx y.b cw cc co s) => rtable_any h hw m (x.user * 8 + page / 64) t hW.up
    have w1 : IntKind.i64.wrap (x.user * 8) = x.user * 8 := by rw [IntKind.wrap_i64]; omega
    have w2 : IntKind.i64.wrap (x.user * 8 + page / 64) = x.user * 8 + page / 64 := by rw [IntKind.wrap_i64]; omega
    have a7 := and7 (page / 8) (by omega) (by omega)
    have b7 := and7 page p0 p1
    obtain ⟨U, hU⟩ : ∃ U, x.user = U := ⟨_, rfl⟩
    rw [hU] at c3 hT w1 w2
    by_cases h0 : t = 0
    · subst h0
      rw [if_neg (by simp)]
      go_enter Try.func21, Try.ntmps21
      go_wp2_with fail
      with_reducible refine (hus _).mono ?_
      rintro e wq ⟨rfl, rfl⟩
      go_wp2_with fail
      with_reducible refine (hT _ h hw m).mono ?_
      rintro e w2 ⟨rfl, t2⟩
      go_wp2_with fail
      go_ret
      exact ⟨rfl, t2⟩
    · have hz : (t == 0) = false := by simpa using h0
      have w3 : IntKind.i64.wrap (t * 8) = t * 8 := by rw [IntKind.wrap_i64]; omega
      have w4 : IntKind.i64.wrap (t * 8 + page / 8 % 8) = t * 8 + page / 8 % 8 := by rw [IntKind.wrap_i64]; omega
      have hT2 := fun wx (h : RSAt wx o x) (hw : RWAt wx x.W y) (m : RefAt wx y.b cw cc co s) => rtable_any h hw m (t * 8 + page / 8 % 8) u (hW.la h0)
      by_cases h1 : u = 0
      · subst h1
        rw [if_neg (by simp)]
        go_enter Try.func21, Try.ntmps21
        go_wp2_with fail
        with_reducible refine (hus _).mono ?_
        rintro e wq ⟨rfl, rfl⟩
        go_wp2_with fail
        with_reducible refine (hT _ h hw m).mono ?_
        rintro e w2 ⟨rfl, t2⟩
        go_wp2_with fail
        with_reducible refine (hT2 _ (h.touch t2 id) (hw.touch t2 id) (m.touch t2 id id id id)).mono ?_
        rintro e w3 ⟨rfl, t3⟩
        go_wp2_with fail
        go_ret
        exact ⟨rfl, t2.trans t3⟩
      · have hz1 : (u == 0) = false := by simpa using h1
        have w5 : IntKind.i64.wrap (u * 8) = u * 8 := by rw [IntKind.wrap_i64]; omega
        have w6 : IntKind.i64.wrap (u * 8 + page % 8) = u * 8 + page % 8 := by rw [IntKind.wrap_i64]; omega
        rw [if_pos ⟨⟨p0, p1⟩, h0, h1⟩]
        go_enter Try.func21, Try.ntmps21
        go_wp2_with fail
        with_reducible refine (hus _).mono ?_
        rintro e wq ⟨rfl, rfl⟩
        go_wp2_with fail
        with_reducible refine (hT _ h hw m).mono ?_
        rintro e w2 ⟨rfl, t2⟩
        have h2 := h.touch t2 id
        have hw2 := hw.touch t2 id
        have m2 := m.touch t2 id id id id
        go_wp2_with fail
        with_reducible refine (hT2 _ h2 hw2 m2).mono ?_
        rintro e w3 ⟨rfl, t3⟩
        have c0 := (h2.touch t3 id).worldC
        have c4 := (hw2.touch t3 id).memC
        have hR := rread_any (m2.touch t3 id id id id) (u * 8 + page % 8)
        go_wp2_with fail
        with_reducible refine hR.mono ?_
        rintro e w4 ⟨rfl, rfl⟩
        go_wp2_with fail
        go_ret
        exact ⟨rfl, t2.trans t3⟩
  · rw [if_neg (fun h => hp h.1)]
    have hd : (decide (0 ≤ page) && decide (page < 256)) = false := by
      rw [Bool.eq_false_iff, Ne, Bool.and_eq_true, decide_eq_true_iff, decide_eq_true_iff]; exact hp
    rw [hd] at hus
    go_enter Try.func21, Try.ntmps21
    go_wp2_with fail
    with_reducible refine (hus _).mono ?_
    rintro e wq ⟨rfl, rfl⟩
    go_wp2_with fail
    go_ret
    exact ⟨rfl, Touch.refl _ _⟩
end Go.Proofs.Ytoododpeoffieaa
