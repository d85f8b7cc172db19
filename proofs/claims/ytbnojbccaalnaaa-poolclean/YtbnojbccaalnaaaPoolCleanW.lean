/-
  The walk of PoolClean.
-/
import Derived.Test.YtbnojbccaalnaaaPoolD
import Derived.Test.YtbnojbccaalnaaaSlices
import Derived.Maps.OwnSet
import Derived.Deep.DeepCutAuto
import Derived.Deep.RegionHeld3
import Derived.Deep.QuietTactic
import Derived.BigQuiet
namespace Go.Proofs.Ytbnojbccaalnaaa
open Go.ChangeShapes Go.WideShapes Go.ChangeAt Go.RowKit Go.Maps

theorem lawI : Keyed Try.prog 3 := int_keyed Try.underlying3
theorem zeroI (w : World) : (zeroValue 3).run Try.prog w = .ok (.int .i64 0) w := by kernel_rfl

theorem hadc_rset (R : Nat → Int) (f : Nat) (x : Int) : ∀ k, (f < k → hadc (rset R f x) k + (if 0 < R f then 1 else 0) = hadc R k + (if 0 < x then 1 else 0)) ∧ (k ≤ f → hadc (rset R f x) k = hadc R k) := by
  intro k
  induction k with
  | zero => exact ⟨fun h => by omega, fun _ => rfl⟩
  | succ k ih =>
    have e1 : hadc (rset R f x) (k + 1) = hadc (rset R f x) k + if 0 < rset R f x k then 1 else 0 := rfl
    have e2 : hadc R (k + 1) = hadc R k + if 0 < R k then 1 else 0 := rfl
    refine ⟨fun h => ?_, fun h => ?_⟩
    · by_cases e : k = f
      · subst e
        have := ih.2 (Nat.le_refl _)
        have e3 : rset R k x k = x := by simp [rset]
        rw [e1, e2, e3, this]; omega
      · have := ih.1 (by omega)
        have e3 : rset R f x k = R k := by unfold rset; rw [if_neg (by simp; omega)]
        rw [e1, e2, e3]; omega
    · have := ih.2 (by omega)
      have e3 : rset R f x k = R k := by unfold rset; rw [if_neg (by simp; omega)]
      rw [e1, e2, e3, this]

theorem rset_same (R : Nat → Int) (f : Nat) (x : Int) : rset R f x f = x := by simp [rset]
theorem rset_other (R : Nat → Int) (f : Nat) (x : Int) {g : Nat} (h : g ≠ f) : rset R f x g = R g := by unfold rset; rw [if_neg (by simpa using h)]
theorem isKey (f : Nat) : WideAt.IsKeyLit (.int .i64 (f : Int)) := trivial

/-- The map tells the references. -/
structure MapOf (D : DataW Unit) (R : Nat → Int) : Prop where
  at' : ∀ g : Nat, 15 ≤ g → g < 20 → D.atKey (.int .i64 (g : Int)) (.lit (.int .i64 0)) = .lit (.int .i64 (R g))
  hs : ∀ g : Nat, 15 ≤ g → g < 20 → Maps.has D (.int .i64 (g : Int)) = decide (0 < R g)
  sz : Maps.size D = hadc R 20
theorem key_ne {f g : Nat} (h : g ≠ f) : (Lit.int .i64 (g : Int)) ≠ .int .i64 (f : Int) := by
  intro e; injection e with _ e; omega
theorem MapOf.put {D : DataW Unit} {R : Nat → Int} (h : MapOf D R) (hT : Tidy D) (f : Nat) (h1 : 15 ≤ f) (h2 : f < 20) (x : Int) (hx : 0 < x) : MapOf (D.put (.int .i64 (f : Int)) (.lit (.int .i64 x))) (rset R f x) := by
  refine ⟨fun g g1 g2 => ?_, fun g g1 g2 => ?_, ?_⟩
  · by_cases e : g = f
    · subst e; rw [rset_same, atKey_put_same hT.isMap (isKey _)]
    · rw [rset_other _ _ _ e, atKey_put_other (key_ne e)]; exact h.at' g g1 g2
  · by_cases e : g = f
    · subst e; rw [rset_same, has_put_same hT.isMap (isKey _)]; simpa using hx
    · rw [rset_other _ _ _ e, has_put_other (key_ne e)]; exact h.hs g g1 g2
  · rw [size_put hT, h.hs f h1 h2, h.sz]
    have := (hadc_rset R f x 20).1 h2
    rw [if_pos hx] at this
    by_cases q : 0 < R f
    · simp only [q, decide_true, if_true] at this ⊢; omega
    · simp only [q, decide_false, if_false] at this ⊢
      simp only [Bool.false_eq_true, if_false]; omega
theorem MapOf.putdel {D : DataW Unit} {R : Nat → Int} (h : MapOf D R) (hT : Tidy D) (f : Nat) (h1 : 15 ≤ f) (h2 : f < 20) (y : Int) : MapOf ((D.put (.int .i64 (f : Int)) (.lit (.int .i64 y))).del (.int .i64 (f : Int))) (rset R f 0) := by
  refine ⟨fun g g1 g2 => ?_, fun g g1 g2 => ?_, ?_⟩
  · by_cases e : g = f
    · subst e; rw [rset_same, atKey_del_same]
    · rw [rset_other _ _ _ e, atKey_del_other (key_ne e), atKey_put_other (key_ne e)]; exact h.at' g g1 g2
  · by_cases e : g = f
    · subst e; rw [rset_same, has_del_same]; simp
    · rw [rset_other _ _ _ e, has_del_other (key_ne e), has_put_other (key_ne e)]; exact h.hs g g1 g2
  · have s1 := size_del (k := .int .i64 (f : Int)) (hT.put (isKey f) (.lit (.int .i64 y)) (k := .int .i64 (f : Int)))
    rw [has_put_same hT.isMap (isKey _), size_put hT, h.hs f h1 h2, h.sz] at s1
    have := (hadc_rset R f 0 20).1 h2
    rw [if_neg (show ¬ (0 : Int) < 0 by omega)] at this
    by_cases q : 0 < R f
    · simp only [q, decide_true, if_true] at this s1; omega
    · simp only [q, decide_false, if_false] at this s1
      simp only [Bool.false_eq_true, if_false, if_true] at s1; omega

theorem rset_self (R : Nat → Int) (f : Nat) (h : R f = 0) : rset R f 0 = R := by
  funext i; unfold rset; simp only [Int.toNat_natCast]; split
  · rename_i e; rw [e, h]
  · rfl

/-- Frames that are free hold nothing. -/
def Clean (s : MS) : Prop := ∀ g, 15 ≤ g → g < 20 → s.C g = 0 → ∀ o, o < 8 → s.W (g * 8 + o) = 0
theorem Clean.given {s : MS} {R : Nat → Int} {k : Nat} (hI : PInv s R 20 k) (h : Clean s) (f : Int) : Clean (s.given R f) := by
  unfold MS.given
  by_cases h1 : rf R f = 1
  · rw [if_pos h1]
    obtain ⟨g0, g1, g2, hr⟩ := hI.had (f := f) (by omega)
    have hF : s.hasF f = true := (s.hasF_iff _).2 (by have := hI.n; omega)
    have hm : (s.zero f).mayM f 0 = true := (s.zero f).mayM_mk _ _ (by rw [MS.hasF_of_n (s.zero_n f)]; exact hF) (by omega) (by omega)
    intro g a1 a2 hC o ho
    rw [MS.mark_W]
    unfold MS.zero; rw [if_pos hF]
    show (if _ then _ else _) = (0 : Int)
    by_cases e : (g * 8 + o) / 8 = f.toNat
    · rw [if_pos e]
    · rw [if_neg e]
      refine h g a1 a2 ?_ o ho
      unfold MS.mark at hC; rw [hm] at hC
      simp only [if_true] at hC
      rw [if_neg (by omega), MS.zero_C] at hC
      exact hC
  · rw [if_neg h1]; exact h
theorem PInv.of {s t : MS} {R : Nat → Int} {N k : Nat} (h : PInv s R N k) (hn : t.n = s.n) (hC : t.C = s.C) (hO : t.O = s.O) : PInv t R N k :=
  ⟨hn.trans h.n, h.lo, h.hi, h.nn, h.ub, by rw [hC]; exact h.cl, by rw [hO]; exact h.ow⟩
theorem cnt_none {C : Nat → Int} : ∀ k, (∀ g, 15 ≤ g → g < 15 + k → C g ≠ 0) → cnt C k = 0 := by
  intro k
  induction k with
  | zero => intro _; rfl
  | succ k ih => intro h; unfold cnt; rw [ih (fun g h1 h2 => h g h1 (by omega)), if_neg (h (15 + k) (by omega) (by omega))]
theorem cnt_some {C : Nat → Int} {f : Nat} (h1 : 15 ≤ f) (hf : C f = 0) : ∀ k, f < 15 + k → 0 < cnt C k := by
  intro k
  induction k with
  | zero => intro h; omega
  | succ k ih =>
    intro h
    unfold cnt
    by_cases e : f = 15 + k
    · subst e; rw [if_pos hf]; omega
    · have := ih (by omega); omega

/-- A frame that was taken while its words are written: the first o of them. -/
structure Fill (s : MS) (f o : Nat) (t : MS) : Prop where
  n : t.n = 20
  C : t.C = (s.mark f 2 1).C
  O : t.O = (s.mark f 2 1).O
  off : ∀ i, i / 8 ≠ f → t.W i = s.W i
  rest : ∀ j, o ≤ j → j < 8 → t.W (f * 8 + j) = 0
theorem Fill.start {s : MS} {f : Nat} (hn : s.n = 20) (hC : Clean s) (hL : Least s f) : Fill s f 0 (s.mark f 2 1) :=
  ⟨by rw [MS.mark_n]; exact hn, rfl, rfl, fun i _ => by rw [MS.mark_W], fun j _ hj => by rw [MS.mark_W]; exact hC f hL.lo (by have := hL.hi; omega) hL.free j hj⟩
theorem Fill.has {s t : MS} {f o : Nat} (h : Fill s f o t) (hf : f < 20) (ho : o < 8) : t.hasW (8 * (f : Int) + o) = true := (t.hasW_iff _).2 (by have := h.n; omega)
theorem Fill.rd {s t : MS} {f o : Nat} (h : Fill s f o t) (hf : f < 20) (ho : o < 8) : t.rd (8 * (f : Int) + o) = 0 := by
  unfold MS.rd; rw [if_pos (h.has hf ho), show (8 * (f : Int) + o).toNat = f * 8 + o by omega]; exact h.rest o (Nat.le_refl _) ho
theorem Fill.step {s t : MS} {f o : Nat} (h : Fill s f o t) (hf : f < 20) (ho : o < 8) (v : Int) : Fill s f (o + 1) (t.write (8 * (f : Int) + o) v) := by
  refine ⟨by rw [MS.write_n]; exact h.n, by rw [MS.write_C]; exact h.C, by rw [MS.write_O]; exact h.O, fun i hi => ?_, fun j h1 h2 => ?_⟩
  · unfold MS.write; rw [if_pos (h.has hf ho)]
    show (if _ then _ else _) = _
    rw [if_neg (by omega)]; exact h.off i hi
  · unfold MS.write; rw [if_pos (h.has hf ho)]
    show (if _ then _ else _) = (0 : Int)
    rw [if_neg (by omega)]; exact h.rest j (by omega) h2
theorem Fill.clean {s t : MS} {f o : Nat} (h : Fill s f o t) (hn : s.n = 20) (hf : f < 20) (hC : Clean s) : Clean t := by
  have hm : s.mayM f 2 = true := s.mayM_mk _ _ ((s.hasF_iff _).2 (by omega)) (by omega) (by omega)
  intro g g1 g2 hg o ho
  rw [h.C] at hg
  unfold MS.mark at hg; rw [hm] at hg
  simp only [if_true, Int.toNat_natCast] at hg
  by_cases e : g = f
  · rw [if_pos e] at hg; omega
  · rw [if_neg e] at hg
    rw [h.off _ (by omega)]; exact hC g g1 g2 hg o ho

/-- All that the loop keeps. -/
structure CInv (w : World) (k : Nat) (wr : World) (s : MS) (R : Nat → Int) (D : DataW Unit) : Prop where
  p : PoolAt wr (w.heap.size + 2) (w.heap.size + 1) R
  m : MemAt wr (w.heap.size + 1) w.heap.size s
  o : wr.ownsMap Try.prog 3 (plainElem Try.prog 3) (w.heap.size + 3) k D
  i : PInv s R 20 k
  d : MapOf D R
  c : Clean s
  t : Touch Nil w wr

theorem MemAt.drewM {w : World} {b c : Nat} {s : MS} (h : MemAt w b c s) (n : Nat) : MemAt (w.drewN n) b c s := ⟨h.ne, h.le, h.top, h.row⟩
theorem pleft_q {w : World} {p b c : Nat} {s : MS} {R : Nat → Int} (h : PoolAt w p b R) (m : MemAt w b c s) :
    Calls Try.prog 12 #[.pointer (some ⟨p, 0, none⟩)] w fun e w' => e = .returned (.int .i64 s.left) ∧ w' = w :=
  (pleft_any h m).mono fun _ _ ⟨he, hw⟩ => ⟨he, hw.symm⟩
theorem prefs_q {w : World} {p b : Nat} {R : Nat → Int} (h : PoolAt w p b R) (f : Int) :
    Calls Try.prog 18 #[.pointer (some ⟨p, 0, none⟩), .int .i64 f] w fun e w' => e = .returned (.int .i64 (rf R f)) ∧ w' = w :=
  (prefs_any h f).mono fun _ _ ⟨he, hw⟩ => ⟨he, hw.symm⟩
theorem key_f (f : Nat) (h : f < 64) : keyOf Try.prog 3 (.int .i64 (f : Int)) = some (.int .i64 (f : Int)) := keyOf_int_mk Try.underlying3 (WalkArith.wf_i64 (by omega))
/-- What the map answers at a frame, as an equation. -/
theorem look {w : World} {B n : Nat} {D : DataW Unit} (h : w.ownsMap Try.prog 3 (plainElem Try.prog 3) B n D) (f : Nat) (hf : f < 64) {x : Int} (hx : D.atKey (.int .i64 (f : Int)) (.lit (.int .i64 0)) = .lit (.int .i64 x)) :
    (Instr.lookup 46 (.map (some B)) (.int .i64 (f : Int)) false).run Try.prog w = .ok (.int .i64 x) w := by
  obtain ⟨c, hrun, hat, _⟩ := h.lookup_int lawI Try.underlying46 Try.underlying3 (zeroI _) (key_f f hf)
  have hc : c = x := by have := hx.symm.trans hat; simpa using this.symm
  rw [hrun, hc]
/-- How many it has. -/
theorem lens {w : World} {B n : Nat} {D : DataW Unit} (h : w.ownsMap Try.prog 3 (plainElem Try.prog 3) B n D) :
    (Builtin.len_ #[46] 3 #[.map (some B)]).run Try.prog w = .ok (.int .i64 (Maps.size D)) w := h.len Try.underlying46 3

set_option maxRecDepth 10000 in
set_option maxHeartbeats 4000000 in
theorem poolClean_walk (a0 : Option Addr) (len0 cap0 : Nat) (z0 : List Int) (x : Int) (w : World) (r0 : Row .i64 w a0 len0 cap0 z0) :
    Calls Try.prog 6 #[.slice a0 len0 cap0, .int .u64 x] w fun e w' => e = .returned (.bool true) ∧ Below w.heap.size w w' := by
  obtain ⟨hm0, p0⟩ := r0.plain
  unfold maxLen at hm0
  clear r0
  have hmm := @run_makeMap Try.prog
  have hmN : Hid (MS.many 20 = 20) := rfl
  go_enter Try.func6, Try.ntmps6
  go_wp2_with (first
    | (go_at_call 8; refine (new_any _ _).mono ?_; rintro e w1 ⟨rfl, hM, hT, hS⟩; rw [hmN.out] at hM)
    | (go_at_call 11; refine (pnew_any _).mono ?_; rintro e w2 ⟨hx, hP, hT2, hS2⟩; rw [hS] at hx hP hS2; subst hx; have hM2 := hM.touch hT2 id id))
  have hC0 : CInv w 0 (w2.alloc (.map #[] 0)) (MS.fresh 20) (fun _ => 0) (.map []) := by
    refine ⟨hP.touch ((Touch.refl Nil w2).alloc _) id, hM2.touch ((Touch.refl Nil w2).alloc _) id id, ?_, PInv.fresh 20, ⟨fun g _ _ => rfl, fun g _ _ => rfl, rfl⟩, fun g _ _ _ o _ => rfl, (hT.transNew hT2 (fun _ _ e => e)).alloc _⟩
    have := World.ownsMap_made (H := Unit) w2 Try.prog 3 (plainElem Try.prog 3)
    rwa [hS2] at this
  clear hP hM hM2 hT hT2 hS hmm hmN
  go_loopg [8] 60 (fun g i wr => ∃ k : Nat, g + k = 60 ∧ i = .int .i64 k ∧ ∃ s R D, CInv w k wr s R D)
  case atStart => exact ⟨0, by omega, rfl, _, _, _, hC0⟩
  case round =>
    clear hC0
    obtain ⟨k, hgk, rfl, s, R, D, hC⟩ := hrel
    by_cases hgo : k < len0 ∧ k < 60
    · obtain ⟨hg1, hg2⟩ := hgo
      rcases p0 with p0 | ⟨b0, o0, rfl, hb0, hc0⟩
      · omega
      have c0 := Plain.cell hc0 hb0 (hC.t.below (Nat.le_refl _) (fun _ e => e.elim)) k (by omega)
      have f0 := bounds_i64 (hc0 k (by omega)).2
      generalize z0.getD k 0 = y0 at c0 f0
      have k1 : (k : Int) < len0 := by omega
      have k2 : (k : Int) < 60 := by omega
      obtain ⟨F, hF⟩ : ∃ F : Nat, 15 + y0.tdiv 4 % 5 = F := ⟨(15 + y0.tdiv 4 % 5).toNat, by omega⟩
      have hF1 : 15 ≤ F := by omega
      have hF2 : F < 20 := by omega
      have hle := hC.i.rf_le F
      have hrF : rf R (F : Int) = R F := by unfold rf; rw [if_pos (by omega)]; rfl
      have hnn := hC.i.nn F
      go_upto_region 12 with (go_at_call 9; refine (within_any _ _ _ (by omega) (by omega)).mono ?_; rintro e wq ⟨rfl, rfl⟩)
      go_cut [44] (fun v wx => wr = wx ∧ v = .int .i64 (y0 % 4))
      case first =>
        go_wp2_with (go_at_call 9; refine (within_any _ _ _ (by omega) (by omega)).mono ?_; rintro e wq ⟨rfl, rfl⟩)
        go_meet
        exact ⟨rfl, rfl⟩
      case rest =>
      obtain ⟨rfl, rfl⟩ := hcut
      apply_assumption
      go_cut [44] (fun _ wx => ∃ s R D, CInv w (k + 1) wx s R D)
      case first =>
        have hP := hC.p
        have hM := hC.m
        have hO := hC.o
        have hI := hC.i
        have hT := hC.t
        have hD := hC.d
        have hleft := hI.left (by omega)
        have hsz := hD.sz
        go_upto_if 63 with fail
        go_cut [63] (fun v wx => wr = wx ∧ v = .bool (decide (y0 % 4 ≤ 1)))
        case first =>
          have hv : y0 % 4 = 0 ∨ y0 % 4 = 1 ∨ (1 < y0 % 4) := by omega
          rcases hv with hv | hv | hv
          · go_wp2
            go_meet
            exact ⟨rfl, by simp [hv]⟩
          · go_wp2
            go_meet
            exact ⟨rfl, by simp [hv]⟩
          · have e0 : (y0 % 4 == 0) = false := by simp; omega
            have e1 : (y0 % 4 == 1) = false := by simp; omega
            go_wp2
            go_meet
            exact ⟨rfl, by simp; omega⟩
        case rest =>
        obtain ⟨rfl, rfl⟩ := hcut
        by_cases h1 : y0 % 4 ≤ 1
        · rcases least_or s with ⟨f, hL⟩ | hNo
          · have hf1 := hL.lo
            have hf2 : f < 20 := by have := hL.hi; have := hI.n; omega
            have hRf : R f = 0 := by
              have := hI.nn f
              by_cases q : 0 < R f
              · exact absurd hL.free ((hI.cl f hf2).1 q)
              · omega
            have hl0 : 0 < s.left := cnt_some hf1 hL.free _ (by have := hI.n; omega)
            have hs5 : (Maps.size D : Int) < 5 := by omega
            have hat := hD.at' f hf1 hf2
            rw [hRf] at hat
            go_wp2_with (first
              | (go_at_call 13; refine (ptake_at hP hM _ _ (Or.inr rfl) hL f rfl).mono ?_; rintro e w5 ⟨hx, hP5, hM5, hT5⟩; subst hx; have hO5 := ownsMap_touch hO hT5 (by show ¬ (_ ∨ _); omega); have hlen := lens hO5; have hlook := look hO5 f (by omega) hat))
            clear hlen hlook
            go_loopw [12] (fun i wx => ∃ o : Nat, o ≤ 8 ∧ i = .int .i64 o ∧ ∃ t, Fill s f o t ∧ MemAt wx (w.heap.size + 1) w.heap.size t ∧ Touch (· = w.heap.size) w5 wx) (fun i _ => 8 - (intOf i).toNat)
            case atStart => exact ⟨0, by omega, rfl, _, Fill.start hI.n hC.c hL, hM5, Touch.refl _ _⟩
            case round =>
              obtain ⟨o, ho, rfl, t, hFi, hMt, hTt⟩ := hrel
              by_cases ho8 : o < 8
              · have o1 : (o : Int) < 8 := by omega
                have r1 := hFi.rd hf2 ho8
                have r2 := hFi.has hf2 ho8
                go_wp2_with (first
                  | (go_at_call 21; refine (read_any hMt _ (by omega)).mono ?_; rintro e wq ⟨rfl, rfl⟩)
                  | (go_at_call 20; refine (write_any hMt _ _ (by omega)).mono ?_; rintro e w7 ⟨hx, hM7, hT7⟩; subst hx))
                go_roundw
                case rel => exact ⟨o + 1, by omega, by go_num, _, hFi.step hf2 ho8 _, hM7, hTt.trans hT7⟩
                case measure => simp [intOf]; omega
              · have h8 : o = 8 := by omega
                subst h8
                have hOt := ownsMap_touch hO5 hTt (by show ¬ _ = _; omega)
                have hPt := hP5.touch hTt (by show ¬ _ = _; omega)
                go_wp2_with (first
                  | (at_mapUpdate; refine wpList_mapUpdate_own _ rfl _ _ _ 46 rfl 3 3 lawI Try.underlying46 _ (w.heap.size + 3) k _ rfl hOt (by unfold maxLen; omega) _ _ _ rfl rfl (key_f f (by omega)) _ [] (plainElem_int Try.underlying3 (WalkArith.wf_i64 (by omega))) ?_; intro w8 hO8 hG8)
                  | go_in)
                go_meet
                have hT8 := Touch.ofGrown hG8
                exact ⟨_, _, _, hPt.touch hT8 (by show ¬ _ = _; omega), hMt.touch hT8 (by show ¬ _ = _; omega) (by show ¬ _ = _; omega), hO8, (hI.take hL (Or.inr rfl)).of (by rw [hFi.n, MS.mark_n, hI.n]) hFi.C hFi.O, hD.put (hO.tidy lawI) f hf1 hf2 1 (by omega), hFi.clean hI.n hf2 hC.c,
                  ((hT.transNew hT5 (fun i h e => by omega)).transNew hTt (fun i h e => by omega)).transNew hT8 (fun i h e => by omega)⟩
          · have hl0 : s.left = 0 := cnt_none _ (fun g h1 h2 => hNo g h1 (by have := hI.n; omega))
            have hs5 : Maps.size D = 5 := by omega
            have hlen := lens hO
            rw [hs5] at hlen
            go_wp2_with (go_at_call 13; refine (ptake_none hP hM _ _ hNo).mono ?_; rintro e wq ⟨rfl, rfl⟩)
            go_roundg (59 - k)
            case measure => omega
            case rel => exact ⟨k + 1, by omega, by go_num, s, R, D, hP, hM, hO.mono (by omega), hI.same, hD, hC.c, hT⟩
        · have hat := hD.at' F hF1 hF2
          have hlk := look hO F (by omega) hat
          have hlkd := look hO.drew F (by omega) hat
          by_cases h2 : y0 % 4 = 2
          · go_upto_region 32 with fail
            go_cut [44, 63, 128] (fun _ _ v wx => v = .bool false ∧ PoolAt wx (w.heap.size + 2) (w.heap.size + 1) (rshare R F) ∧ wx.ownsMap Try.prog 3 (plainElem Try.prog 3) (w.heap.size + 3) k D ∧ Touch (· = w.heap.size + 2) wr wx)
            case first =>
              go_region_held3 (fun wx => (Instr.lookup 46 (.map (some (w.heap.size + 3))) (.int .i64 (F : Int)) false).run Try.prog wx = .ok (.int .i64 (R F)) wx) (first | exact hlk | exact hlkd | exact hlk5)
                (first
                  | (go_at_call 17; refine (pshare_any hP.drew _ (by omega)).mono ?_; rintro e w5 ⟨hx, hP5, hT5⟩; subst hx; have hO5 := ownsMap_touch hO.drew hT5 (by show ¬ _ = _; omega); have hlk5 := look hO5 F (by omega) hat))
              all_goals
                go_wp2
                go_meet
                exact ⟨by first | rfl | (rw [hrF]; simp) | simp, hP5, hO5, ((Touch.refl _ wr).drew).trans hT5⟩
            case rest =>
            obtain ⟨rfl, hPc, hOc, hTc⟩ := hcut
            have hlkc := look hOc F (by omega) hat
            have hMc := hM.touch hTc (by show ¬ _ = _; omega) (by show ¬ _ = _; omega)
            by_cases hz : 0 < R F
            · have hrs : rshare R F = rset R F (R F + 1) := by unfold rshare; rw [if_pos (by omega), hrF]
              clear hlk hlkd
              go_wp2_with (first
                | (at_mapUpdate; refine wpList_mapUpdate_own _ rfl _ _ _ 46 rfl 3 3 lawI Try.underlying46 _ (w.heap.size + 3) k _ rfl hOc (by unfold maxLen; omega) _ _ _ rfl rfl (key_f F (by omega)) _ [] (plainElem_int Try.underlying3 (WalkArith.wf_i64 (by omega))) ?_; intro w8 hO8 hG8)
                | go_in)
              go_meet
              have hT8 := Touch.ofGrown hG8
              exact ⟨_, _, _, hPc.touch hT8 (by show ¬ _ = _; omega), hMc.touch hT8 (by show ¬ _ = _; omega) (by show ¬ _ = _; omega), hO8, hI.share F, by rw [hrs]; exact hD.put (hO.tidy lawI) F hF1 hF2 _ (by omega), hC.c, (hT.transNew hTc (fun i h e => by omega)).transNew hT8 (fun i h e => by omega)⟩
            · have hrs : rshare R F = R := if_neg (by omega)
              have h0 : R F = 0 := by omega
              rw [h0] at hlkc
              clear hlk hlkd
              go_wp2
              go_meet
              exact ⟨_, _, _, hPc, hMc, hOc.mono (by omega), hI.share F, by rw [hrs]; exact hD, hC.c, hT.transNew hTc (fun i h e => by omega)⟩
          · have h3 : y0 % 4 = 3 := by omega
            go_upto_region 13 with fail
            go_cut [44, 63, 119, 52] (fun _ _ _ v wx => v = .bool false ∧ PoolAt wx (w.heap.size + 2) (w.heap.size + 1) (rgive R F) ∧ MemAt wx (w.heap.size + 1) w.heap.size (s.given R F) ∧ wx.ownsMap Try.prog 3 (plainElem Try.prog 3) (w.heap.size + 3) k D ∧ Touch (fun x => x = w.heap.size + 2 ∨ x = w.heap.size) wr wx)
            case first =>
              go_region_held3 (fun wx => (Instr.lookup 46 (.map (some (w.heap.size + 3))) (.int .i64 (F : Int)) false).run Try.prog wx = .ok (.int .i64 (R F)) wx) (first | exact hlk | exact hlkd | exact hlk5)
                (first
                  | (go_at_call 16; refine (pgive_any hP.drew hM.drew _ (by omega)).mono ?_; rintro e w5 ⟨hx, hP5, hM5, hT5⟩; subst hx; have hO5 := ownsMap_touch hO.drew hT5 (by show ¬ (_ ∨ _); omega); have hlk5 := look hO5 F (by omega) hat))
              all_goals
                go_wp2
                go_meet
                exact ⟨by first | rfl | (rw [hrF]; simp) | simp, hP5, hM5, hO5, ((Touch.refl _ wr).drew).trans hT5⟩
            case rest =>
            obtain ⟨rfl, hPc, hMc, hOc, hTc⟩ := hcut
            have hlkc := look hOc F (by omega) hat
            have hCl := hC.c.given hI F
            clear hlk hlkd
            by_cases hz : 1 < R F
            · have hrs : rgive R F = rset R F (R F - 1) := by unfold rgive; rw [if_pos (by omega), hrF]
              go_wp2_with (first
                | (at_mapUpdate; refine wpList_mapUpdate_own _ rfl _ _ _ 46 rfl 3 3 lawI Try.underlying46 _ (w.heap.size + 3) k _ rfl hOc (by unfold maxLen; omega) _ _ _ rfl rfl (key_f F (by omega)) _ [] (plainElem_int Try.underlying3 (WalkArith.wf_i64 (by omega))) ?_; intro w8 hO8 hG8; have hlk8 := look hO8 F (by omega) (atKey_put_same (hO.tidy lawI).isMap (isKey F) _ _))
                | go_in)
              go_meet
              have hT8 := Touch.ofGrown hG8
              exact ⟨_, _, _, hPc.touch hT8 (by show ¬ _ = _; omega), hMc.touch hT8 (by show ¬ _ = _; omega) (by show ¬ _ = _; omega), hO8, hI.give F, by rw [hrs]; exact hD.put (hO.tidy lawI) F hF1 hF2 _ (by omega), hCl, (hT.transNew hTc (fun i h e => by omega)).transNew hT8 (fun i h e => by omega)⟩
            · have hrs : rgive R F = rset R F 0 := by
                unfold rgive
                by_cases h0 : 0 < rf R (F : Int)
                · rw [if_pos h0, show rf R (F : Int) - 1 = 0 by omega]
                · rw [if_neg h0, rset_self R F (by omega)]
              go_wp2_with (first
                | (at_mapUpdate; refine wpList_mapUpdate_own _ rfl _ _ _ 46 rfl 3 3 lawI Try.underlying46 _ (w.heap.size + 3) k _ rfl hOc (by unfold maxLen; omega) _ _ _ rfl rfl (key_f F (by omega)) _ [] (plainElem_int Try.underlying3 (WalkArith.wf_i64 (by omega))) ?_; intro w8 hO8 hG8; have hlk8 := look hO8 F (by omega) (atKey_put_same (hO.tidy lawI).isMap (isKey F) _ _))
                | (at_delete; refine wpList_delete_own _ rfl _ _ 46 3 rfl 3 lawI Try.underlying46 _ (w.heap.size + 3) (k + 1) _ rfl hO8 _ _ rfl (key_f F (by omega)) ?_; intro w9 hO9 hG9)
                | go_in)
              go_meet
              have hT8 := Touch.ofGrown hG8
              have hT9 := Touch.ofGrown hG9.grown
              exact ⟨_, _, _, (hPc.touch hT8 (by show ¬ _ = _; omega)).touch hT9 (by show ¬ _ = _; omega), (hMc.touch hT8 (by show ¬ _ = _; omega) (by show ¬ _ = _; omega)).touch hT9 (by show ¬ _ = _; omega) (by show ¬ _ = _; omega), hO9, hI.give F, by rw [hrs]; exact hD.putdel (hO.tidy lawI) F hF1 hF2 _, hCl, ((hT.transNew hTc (fun i h e => by omega)).transNew hT8 (fun i h e => by omega)).transNew hT9 (fun i h e => by omega)⟩
      case rest =>
        clear hC hle hrF hnn
        obtain ⟨s, R, D, hC⟩ := hcut
        have hP := hC.p
        have hM := hC.m
        have hlk : ∀ n, (Instr.lookup 46 (.map (some (w.heap.size + 3))) (.int .i64 (F : Int)) false).run Try.prog (wc.drewN n) = .ok (.int .i64 (R F)) (wc.drewN n) := fun n => look (w := wc.drewN n) hC.o F (by omega) (hC.d.at' F hF1 hF2)
        have hln : ∀ n, (Builtin.len_ #[46] 3 #[.map (some (w.heap.size + 3))]).run Try.prog (wc.drewN n) = .ok (.int .i64 (Maps.size D)) (wc.drewN n) := fun n => lens (w := wc.drewN n) hC.o
        have hrF : rf R (F : Int) = R F := by unfold rf; rw [if_pos (by omega)]; rfl
        have hleft := hC.i.left (by omega)
        have hl2 : (s.left : Int) = 5 - Maps.size D := by rw [hC.d.sz]; omega
        have hsz5 : Maps.size D ≤ 5 := by rw [hC.d.sz]; omega
        have hwr : IntKind.i64.wrap (5 - (Maps.size D : Int)) = 5 - (Maps.size D : Int) := by rw [IntKind.wrap_i64]; omega
        go_wp2
        go_quiet ((first
          | (go_at_call 12; exact Calls.quiet_of_same (pleft_q (hP.drewN _) (hM.drewM _)))
          | (go_at_call 18; exact Calls.quiet_of_same (prefs_q (hP.drewN _) _))))
        go_wp2
        go_roundg (59 - k)
        case measure => omega
        case rel => exact ⟨k + 1, by omega, by go_num, s, R, D, hP.drewN _, hM.drewM _, hC.o, hC.i, hC.d, hC.c, ⟨hC.t.os, hC.t.tape, hC.t.output, hC.t.size, hC.t.block⟩⟩
    · by_cases hl : k < len0
      · have k1 : (k : Int) < len0 := by omega
        have k2 : decide ((k : Int) < 60) = false := by simp; omega
        go_wp2_with (go_at_call 19; refine (wakes3_any _).mono ?_; rintro e w9 ⟨rfl, hT9⟩)
        go_ret
        exact ⟨rfl, (hC.t.transNew hT9 (fun _ _ e => e)).below (Nat.le_refl _) (fun _ e => e.elim)⟩
      · have k1 : decide ((k : Int) < len0) = false := by simp; omega
        go_wp2_with (go_at_call 19; refine (wakes3_any _).mono ?_; rintro e w9 ⟨rfl, hT9⟩)
        go_ret
        exact ⟨rfl, (hC.t.transNew hT9 (fun _ _ e => e)).below (Nat.le_refl _) (fun _ e => e.elim)⟩
end Go.Proofs.Ytbnojbccaalnaaa
