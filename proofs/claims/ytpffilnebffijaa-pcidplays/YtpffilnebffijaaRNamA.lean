/-
  The document's names of spaces.
-/
import Derived.Test.YtpffilnebffijaaNamC
import Derived.Deep.MidRow
namespace Go.Proofs.Ytpffilnebffijaa
open Go.ChangeShapes Go.WideShapes Go.ChangeAt Go.RowKit

namespace NS
theorem must_put (n : NS) (p x : Nat) (c k : Int) : (n.put p x).must c k = (n.must c k).put p x := by
  unfold must
  rw [show (n.put p x).hasC c = n.hasC c from rfl]
  split <;> rfl
theorem mustTo_put (n : NS) (p x : Nat) (k : Int) : ∀ i, (n.put p x).mustTo k i = (n.mustTo k i).put p x
  | 0 => rfl
  | i + 1 => by show ((n.put p x).mustTo k i).must i k = _; rw [mustTo_put n p x k i, must_put]; rfl
theorem all_put (n : NS) (p x : Nat) (k : Int) : (n.put p x).all k = (n.all k).put p x := mustTo_put n p x k n.c
theorem put_same (n : NS) (p x : Nat) (h : n.P p = x) : n.put p x = n := by
  unfold put
  have : (fun i => if i = p then x else n.P i) = n.P := by
    funext i; split
    · rename_i e; rw [e, h]
    · rfl
  rw [this]
theorem drop_eq (n : NS) {p : Int} (hp : isP p = true) : n.drop p = (n.all (n.P p.toNat)).put p.toNat 0 := by
  have e : n.pair p = n.P p.toNat := by unfold pair; rw [hp]; rfl
  unfold drop
  rw [e]
  split
  · rename_i h
    rw [h, all_off n _ (by decide)]
    exact (put_same n _ _ h).symm
  · rw [all_put]
theorem drop_off (n : NS) {p : Int} (hp : isP p = false) : n.drop p = n := by
  unfold drop; rw [if_pos (by unfold pair; rw [hp]; rfl)]
def hadTo (n : NS) (k : Nat) : Nat → Bool
  | 0 => false
  | j + 1 => n.hadTo k j || (n.P j == k)
theorem hadTo_all (n : NS) (k : Nat) : n.hadTo k 4 = n.had k := by simp [hadTo, had]
end NS

/-- The document's names in block b. -/
def RNAt (w : World) (b : Nat) (n : NS) : Prop := w.rowIs b 80 14 n.rcell
namespace RNAt
variable {w w' : World} {b : Nat} {n : NS}
theorem touch {S : Nat → Prop} (h : RNAt w b n) (t : Touch S w w') (hs : ¬ S b) : RNAt w' b n := t.row h hs
theorem frozen (h : RNAt w b n) (i : Nat) : w.frozen? ⟨b, i, none⟩ = false := World.rowIs.frozen h i
theorem lt (h : RNAt w b n) : b < w.heap.size := World.rowIs.lt h
theorem cC (h : RNAt w b n) : w.cell? ⟨b, 12, none⟩ = some (.int .i64 n.c) := World.rowIs.cell h (i := 12) (by omega)
theorem gC (h : RNAt w b n) : w.cell? ⟨b, 13, none⟩ = some (.int .i64 n.g) := World.rowIs.cell h (i := 13) (by omega)
theorem pC (h : RNAt w b n) (i : Nat) (hi : i < 4) : w.cell? ⟨b, i, none⟩ = some (.int .i64 (n.P i)) := by
  rw [World.rowIs.cell h (i := i) (by omega), n.rcell_p i hi]
theorem mC (h : RNAt w b n) (i j : Nat) (hi : i < 2) (hj : j < 4) : w.cell? ⟨b, 4 + i * 4 + j, none⟩ = some (.bool (n.M i j)) := by
  rw [World.rowIs.cell h (i := 4 + i * 4 + j) (by omega), n.rcell_m i j hi hj]
theorem setP (h : RNAt w b n) (p k : Nat) (hp : p < 4) : RNAt (w.setCell ⟨b, p, none⟩ (.int .i64 k)) b (n.put p k) :=
  (World.rowIs.set h p _).congr fun i hi => by
    show (if i = p then _ else n.rcell i) = (n.put p k).rcell i
    unfold NS.rcell NS.put
    by_cases e : i = p
    · subst e; rw [if_pos rfl, if_pos (by omega)]; simp
    · rw [if_neg e]
      by_cases e5 : i < 4
      · rw [if_pos e5, if_pos e5]; simp only; rw [if_neg e]
      · rw [if_neg e5, if_neg e5]
theorem setM (h : RNAt w b n) (c k : Nat) (hc : c < 2) (hk : k < 4) (x : Bool) : RNAt (w.setCell ⟨b, 4 + c * 4 + k, none⟩ (.bool x)) b (n.lay c k x) :=
  (World.rowIs.set h (4 + c * 4 + k) _).congr fun i hi => by
    show (if i = 4 + c * 4 + k then _ else n.rcell i) = (n.lay c k x).rcell i
    unfold NS.rcell NS.lay
    by_cases e : i = 4 + c * 4 + k
    · subst e; rw [if_pos rfl, if_neg (by omega), if_pos (by omega)]; simp only
      rw [if_pos (by omega)]
    · rw [if_neg e]
      by_cases e5 : i < 4
      · rw [if_pos e5, if_pos e5]
      · rw [if_neg e5, if_neg e5]
        by_cases e13 : i < 12
        · rw [if_pos e13, if_pos e13]; simp only; rw [if_neg (by omega)]
        · rw [if_neg e13, if_neg e13]
theorem setG (h : RNAt w b n) (g : Nat) : RNAt (w.setCell ⟨b, 13, none⟩ (.int .i64 g)) b { n with g := g } :=
  (World.rowIs.set h 13 _).congr fun i hi => by
    show (if i = 13 then _ else n.rcell i) = NS.rcell _ i
    unfold NS.rcell
    by_cases e : i = 13
    · subst e; rfl
    · rw [if_neg e]
      by_cases e5 : i < 4
      · rw [if_pos e5, if_pos e5]
      · rw [if_neg e5, if_neg e5]
        by_cases e13 : i < 12
        · rw [if_pos e13, if_pos e13]
        · rw [if_neg e13, if_neg e13, if_pos (by omega), if_pos (by omega)]
end RNAt
def p4 : List Value := [.int .i64 0, .int .i64 0, .int .i64 0, .int .i64 0]
def m8 : List Value := [.bool false, .bool false, .bool false, .bool false, .bool false, .bool false, .bool false, .bool false]
theorem RNAt.setPs {w : World} {b : Nat} {n : NS} (h : RNAt w b n) : RNAt (w.setCells b 0 p4) b { n with P := fun _ => 0 } :=
  (rowIs_setCells p4 0 w n.rcell h).congr fun i hi => by
    rw [if_pos (Nat.zero_le _)]
    match i, hi with
    | 0, _ | 1, _ | 2, _ | 3, _ | 4, _ | 5, _ | 6, _ | 7, _ | 8, _ | 9, _ | 10, _ | 11, _ | 12, _ | 13, _ => rfl
theorem RNAt.setMs {w : World} {b : Nat} {n : NS} (h : RNAt w b n) : RNAt (w.setCells b 4 m8) b { n with M := fun _ _ => false } :=
  (rowIs_setCells m8 4 w n.rcell h).congr fun i hi => by
    match i, hi with
    | 0, _ | 1, _ | 2, _ | 3, _ | 4, _ | 5, _ | 6, _ | 7, _ | 8, _ | 9, _ | 10, _ | 11, _ | 12, _ | 13, _ => rfl

theorem rnfresh_cells (c : Nat) (x : Int) (hx : x = c) : #[.int .i64 0, .int .i64 0, .int .i64 0, .int .i64 0, .bool false, .bool false, .bool false, .bool false, .bool false, .bool false, .bool false, .bool false, .int .i64 x, .int .i64 0] = Array.ofFn (n := 14) (fun i => (NS.fresh c).rcell i.1) := by
  subst hx; rfl
theorem rnfresh_alloc (w : World) {a : Array Value} (c : Nat) (h : a = Array.ofFn (n := 14) (fun i => (NS.fresh c).rcell i.1)) : RNAt (w.alloc (.cells a 80)) w.heap.size (NS.fresh c) := by
  have := World.rowIs_alloc w (Array.ofFn (n := 14) (fun i => (NS.fresh c).rcell i.1)) 80 (NS.fresh c).rcell (fun i hi => by
    have hi' : i < 14 := by simpa using hi
    rw [Array.getElem?_ofFn]; simp [hi'])
  rw [Array.size_ofFn] at this
  rw [h]; exact this
set_option maxHeartbeats 400000 in
theorem rnnew_any (c : Int) (w : World) :
    Calls Try.prog 37 #[.int .i64 c] w fun e w' => e = .returned (.pointer (some ⟨w.heap.size, 0, none⟩)) ∧ RNAt w' w.heap.size (NS.fresh (NS.cpus c)) ∧ Touch Nil w w' ∧ w'.heap.size = w.heap.size + 1 := by
  have e : Hid (min (max c 1) 2 = ((NS.cpus c : Nat) : Int)) := by show _ = _; unfold NS.cpus; omega
  go_enter Try.func37, Try.ntmps37
  go_wp2_with fail
  all_goals go_ret
  · exact ⟨rfl, rnfresh_alloc w _ (rnfresh_cells _ _ (by have := e.out; omega)), (Touch.refl Nil w).alloc _, by simp⟩
  · exact ⟨rfl, rnfresh_alloc w _ (rnfresh_cells _ _ (by have := e.out; omega)), (Touch.refl Nil w).alloc _, by simp⟩
  · exact ⟨rfl, rnfresh_alloc w _ (rnfresh_cells _ _ (by have := e.out; omega)), (Touch.refl Nil w).alloc _, by simp⟩
theorem fineP_any (p : Int) (w : World) :
    Calls Try.prog 84 #[.int .i64 p] w fun e w' => e = .returned (.bool (NS.isP p)) ∧ w = w' := by
  rcases isPb p with ⟨e, h, k⟩ | ⟨e, h⟩ | ⟨e, h, k⟩ <;> rw [e] <;>
  · go_enter Try.func84, Try.ntmps84
    go_wp2
    go_ret
    exact ⟨ret_bool (by simp; try omega), rfl⟩
set_option maxHeartbeats 400000 in
theorem rnpair_any {w : World} {b : Nat} {n : NS} (h : RNAt w b n) (p : Int) :
    Calls Try.prog 43 #[.pointer (some ⟨b, 0, none⟩), .int .i64 p] w fun e w' => e = .returned (.int .i64 (n.pair p)) ∧ w = w' := by
  have hP := fineP_any p w
  cases e : NS.isP p
  · have e1 : n.pair p = 0 := by unfold NS.pair; rw [e]; rfl
    rw [e] at hP
    rw [e1]
    go_enter Try.func43, Try.ntmps43
    go_wp2_with fail
    with_reducible refine hP.mono ?_
    rintro e wq ⟨rfl, rfl⟩
    go_wp2_with fail
    go_ret
    exact ⟨rfl, rfl⟩
  · have e1 : n.pair p = n.P p.toNat := by unfold NS.pair; rw [e]; rfl
    obtain ⟨p0, p1⟩ := (NS.isP_iff p).1 e
    rw [e] at hP
    rw [e1]
    have cc := h.pC p.toNat (by omega)
    go_enter Try.func43, Try.ntmps43
    go_wp2_with fail
    with_reducible refine hP.mono ?_
    rintro e wq ⟨rfl, rfl⟩
    go_wp2_with fail
    go_ret
    exact ⟨rfl, rfl⟩
theorem inB (n : NS) (c k : Int) : ((n.hasC c && NS.isPr k) = true ∧ (0 ≤ c ∧ c < n.c) ∧ (1 ≤ k ∧ k ≤ 3)) ∨ ((n.hasC c && NS.isPr k) = false ∧ (c < 0 ∨ (0 ≤ c ∧ n.c ≤ c) ∨ ((0 ≤ c ∧ c < n.c) ∧ k < 1) ∨ ((0 ≤ c ∧ c < n.c) ∧ 1 ≤ k ∧ 3 < k))) := by
  cases e : (n.hasC c && NS.isPr k)
  · refine Or.inr ⟨rfl, ?_⟩
    rw [Bool.eq_false_iff, Ne, Bool.and_eq_true, NS.hasC_iff, NS.isPr_iff] at e
    omega
  · rw [Bool.and_eq_true, NS.hasC_iff, NS.isPr_iff] at e
    exact Or.inl ⟨rfl, e.1, e.2⟩
set_option maxHeartbeats 1000000 in
theorem rnmust_any {w : World} {b : Nat} {n : NS} (h : RNAt w b n) (ok : n.OK) (c k : Int) :
    Calls Try.prog 40 #[.pointer (some ⟨b, 0, none⟩), .int .i64 c, .int .i64 k] w fun e w' => e = .returned (.tuple #[]) ∧ RNAt w' b (n.must c k) ∧ Touch (· = b) w w' := by
  have cc := h.cC
  rcases inB n c k with ⟨e, ⟨c0, c1⟩, k0, k1⟩ | ⟨e, hh⟩
  · have e1 : n.must c k = n.lay c.toNat k.toNat true := by unfold NS.must; rw [e]; rfl
    have c2 := ok.c2
    have c3 : c < 2 := by omega
    have c4 := h.mC c.toNat k.toNat (by omega) (by omega)
    have fz := h.frozen (4 + c.toNat * 4 + k.toNat)
    have hN := h.setM c.toNat k.toNat (by omega) (by omega) true
    have tN := (Touch.refl (· = b) w).setCell (p := ⟨b, 4 + c.toNat * 4 + k.toNat, none⟩) rfl (.bool true)
    rw [e1]
    clear e e1 c2
    go_enter Try.func40, Try.ntmps40
    go_wp2_with fail
    go_end0
    exact ⟨rfl, hN, tN⟩
  · have e1 : n.must c k = n := by unfold NS.must; rw [e]; rfl
    rw [e1]
    clear e e1
    rcases hh with hh | ⟨h1, h2⟩ | ⟨⟨h1, h2⟩, h3⟩ | ⟨⟨h1, h2⟩, h3, h4⟩ <;>
    · go_enter Try.func40, Try.ntmps40
      go_wp2_with fail
      go_end0
      exact ⟨rfl, h, Touch.refl _ _⟩
set_option maxHeartbeats 1000000 in
theorem rntake_any {w : World} {b : Nat} {n : NS} (h : RNAt w b n) (ok : n.OK) (c k : Int) :
    Calls Try.prog 42 #[.pointer (some ⟨b, 0, none⟩), .int .i64 c, .int .i64 k] w fun e w' => e = .returned (.bool (n.took c k)) ∧ RNAt w' b (n.take c k) ∧ Touch (· = b) w w' := by
  have cc := h.cC
  rcases inB n c k with ⟨e, ⟨c0, c1⟩, k0, k1⟩ | ⟨e, hh⟩
  · have e0 : n.took c k = n.M c.toNat k.toNat := by unfold NS.took; rw [e]; rfl
    have e1 : n.take c k = n.lay c.toNat k.toNat false := by
      unfold NS.take; rw [e0]
      split
      · rfl
      · rename_i hm; exact (NS.lay_same n _ _ (by simpa using hm)).symm
    have c2 := ok.c2
    have c3 : c < 2 := by omega
    have c4 := h.mC c.toNat k.toNat (by omega) (by omega)
    have fz := h.frozen (4 + c.toNat * 4 + k.toNat)
    have hN := h.setM c.toNat k.toNat (by omega) (by omega) false
    have tN := (Touch.refl (· = b) w).setCell (p := ⟨b, 4 + c.toNat * 4 + k.toNat, none⟩) rfl (.bool false)
    rw [e1, e0]
    clear e e0 e1 c2
    go_enter Try.func42, Try.ntmps42
    go_wp2_with fail
    go_ret
    exact ⟨rfl, hN, tN⟩
  · have e0 : n.took c k = false := by unfold NS.took; rw [e]; rfl
    have e1 : n.take c k = n := by unfold NS.take; rw [e0]; rfl
    rw [e1, e0]
    clear e e0 e1
    rcases hh with hh | ⟨h1, h2⟩ | ⟨⟨h1, h2⟩, h3⟩ | ⟨⟨h1, h2⟩, h3, h4⟩ <;>
    · go_enter Try.func42, Try.ntmps42
      go_wp2_with fail
      go_ret
      exact ⟨rfl, h, Touch.refl _ _⟩
set_option maxHeartbeats 400000 in
theorem rnall_any {w : World} {b : Nat} {n : NS} (h : RNAt w b n) (ok : n.OK) (k : Int) :
    Calls Try.prog 41 #[.pointer (some ⟨b, 0, none⟩), .int .i64 k] w fun e w' => e = .returned (.tuple #[]) ∧ RNAt w' b (n.all k) ∧ Touch (· = b) w w' := by
  have c2 := ok.c2
  go_enter Try.func41, Try.ntmps41
  go_wp2_with fail
  go_loopg [4] n.c (fun g i wr => ∃ m : Nat, g + m = n.c ∧ i = .int .i64 m ∧ RNAt wr b (n.mustTo k m) ∧ Touch (· = b) w wr)
  case atStart => exact ⟨0, by omega, rfl, h, Touch.refl _ _⟩
  case round =>
    clear h
    obtain ⟨m, hgm, rfl, h, t⟩ := hrel
    have cc := h.cC
    rw [NS.mustTo_c] at cc
    by_cases hm : m < n.c
    · have m1 : (m : Int) < n.c := by omega
      go_wp2_with fail
      with_reducible refine (rnmust_any h (ok.mustTo k m) (m : Int) k).mono ?_
      rintro e w1 ⟨rfl, h1, t1⟩
      have t2 := t.trans t1
      go_wp2_with fail
      go_roundg (n.c - (m + 1))
      case measure => omega
      case rel => exact ⟨m + 1, by omega, by go_num, h1, t2⟩
    · have hm : m = n.c := by omega
      subst hm
      go_wp2_with fail
      go_end0
      exact ⟨rfl, h, t⟩
set_option maxHeartbeats 400000 in
theorem rndrop_any {w : World} {b : Nat} {n : NS} (h : RNAt w b n) (ok : n.OK) (p : Int) :
    Calls Try.prog 39 #[.pointer (some ⟨b, 0, none⟩), .int .i64 p] w fun e w' => e = .returned (.tuple #[]) ∧ RNAt w' b (n.drop p) ∧ Touch (· = b) w w' := by
  have hP := fineP_any p w
  cases e : NS.isP p
  · rw [NS.drop_off n e]
    rw [e] at hP
    go_enter Try.func39, Try.ntmps39
    go_wp2_with fail
    with_reducible refine hP.mono ?_
    rintro e wq ⟨rfl, rfl⟩
    go_wp2_with fail
    go_end0
    exact ⟨rfl, h, Touch.refl _ _⟩
  · rw [NS.drop_eq n e]
    obtain ⟨p0, p1⟩ := (NS.isP_iff p).1 e
    rw [e] at hP
    have cc := h.pC p.toNat (by omega)
    have hA := rnall_any h ok (n.P p.toNat : Int)
    clear e
    go_enter Try.func39, Try.ntmps39
    go_wp2_with fail
    with_reducible refine hP.mono ?_
    rintro e wq ⟨rfl, rfl⟩
    go_wp2_with fail
    with_reducible refine hA.mono ?_
    rintro e w1 ⟨rfl, h1, t1⟩
    have c1 := h1.pC p.toNat (by omega)
    have fz := h1.frozen p.toNat
    have hN := h1.setP p.toNat 0 (by omega)
    have tN := t1.setCell (p := ⟨b, p.toNat, none⟩) rfl (.int .i64 0)
    go_wp2_with fail
    go_end0
    exact ⟨rfl, hN, tN⟩
end Go.Proofs.Ytpffilnebffijaa
