/-
  Package area: List; lists of runs held against each other.
-/
import Derived.Test.YtcjfdgkhlidakaaAreaD
import Derived.Laws.OwnMore
import Derived.Deep.Onto
namespace Go.Proofs.Ytcjfdgkhlidakaa
open Go.ChangeShapes Go.WideShapes Go.ChangeAt Go.RowKit

/-- A run. -/
structure Rn where
  f : Int
  n : Int
  r : Int
def Rn.vs (x : Rn) : List Value := [.int .i64 x.f, .int .i64 x.n, .int .i64 x.r]
def Rn.V (x : Rn) : Value := .agg #[.int .i64 x.f, .int .i64 x.n, .int .i64 x.r]
def flatR : List Rn → List Value
  | [] => []
  | x :: l => x.vs ++ flatR l
theorem flatR_len (l : List Rn) : (flatR l).length = l.length * 3 := by
  induction l with
  | nil => rfl
  | cons x l ih => simp [flatR, Rn.vs, ih]; omega
theorem flatR_app (l m : List Rn) : flatR (l ++ m) = flatR l ++ flatR m := by
  induction l with
  | nil => rfl
  | cons x l ih => simp [flatR, ih]
theorem flatR_get (l : List Rn) {i : Nat} {x : Rn} (h : l[i]? = some x) : (flatR l)[i * 3]? = some (.int .i64 x.f) ∧ (flatR l)[i * 3 + 1]? = some (.int .i64 x.n) ∧ (flatR l)[i * 3 + 2]? = some (.int .i64 x.r) := by
  induction l generalizing i with
  | nil => simp at h
  | cons y l ih =>
    match i, h with
    | 0, h => simp at h; subst h; exact ⟨rfl, rfl, rfl⟩
    | i + 1, h =>
      have h' : l[i]? = some x := by simpa using h
      obtain ⟨a, b, c⟩ := ih h'
      unfold flatR
      refine ⟨?_, ?_, ?_⟩
      · rw [List.getElem?_append_right (by simp [Rn.vs]; omega), show (i + 1) * 3 - y.vs.length = i * 3 by simp [Rn.vs]; omega]; exact a
      · rw [List.getElem?_append_right (by simp [Rn.vs]; omega), show (i + 1) * 3 + 1 - y.vs.length = i * 3 + 1 by simp [Rn.vs]; omega]; exact b
      · rw [List.getElem?_append_right (by simp [Rn.vs]; omega), show (i + 1) * 3 + 2 - y.vs.length = i * 3 + 2 by simp [Rn.vs]; omega]; exact c
/-- One page more. -/
def stepR (acc : List Rn) (p r : Int) : List Rn :=
  match acc.getLast? with
  | some x => if x.f + x.n = p ∧ x.r = r then acc.dropLast ++ [⟨x.f, x.n + 1, x.r⟩] else acc ++ [⟨p, 1, r⟩]
  | none => [⟨p, 1, r⟩]
def runsA (R : Nat → Int) (l : List Int) : List Rn := l.foldl (fun acc p => stepR acc p (rt R p.toNat)) []
theorem stepR_snoc (pre : List Rn) (x : Rn) (p r : Int) : stepR (pre ++ [x]) p r = if x.f + x.n = p ∧ x.r = r then pre ++ [⟨x.f, x.n + 1, x.r⟩] else pre ++ [x] ++ [⟨p, 1, r⟩] := by
  unfold stepR
  simp
theorem runsA_snoc (R : Nat → Int) (l : List Int) (p : Int) : runsA R (l ++ [p]) = stepR (runsA R l) p (rt R p.toNat) := by
  unfold runsA; rw [List.foldl_append]; rfl
/-- Small numbers all. -/
def SmallR (j : Nat) (l : List Rn) : Prop := l.length ≤ j ∧ ∀ x ∈ l, (0 ≤ x.f ∧ x.f < 256) ∧ 0 ≤ x.n ∧ x.n ≤ j
theorem SmallR.step {j : Nat} {l : List Rn} (h : SmallR j l) (p r : Int) (hp : 0 ≤ p ∧ p < 256) : SmallR (j + 1) (stepR l p r) := by
  obtain ⟨h1, h2⟩ := h
  rcases List.eq_nil_or_concat l with e | ⟨pre, x, e⟩
  · subst e
    exact ⟨by simp [stepR], fun x hx => by simp [stepR] at hx; subst hx; exact ⟨hp, by show (0 : Int) ≤ 1; omega, by show (1 : Int) ≤ _; omega⟩⟩
  · have e : l = pre ++ [x] := by simpa using e
    subst e
    rw [stepR_snoc]
    have hx := h2 x (by simp)
    split
    · refine ⟨by simp at h1 ⊢; omega, fun y hy => ?_⟩
      rcases List.mem_append.1 hy with hy | hy
      · obtain ⟨a, b, c⟩ := h2 y (by simp [hy]); exact ⟨a, b, by omega⟩
      · simp at hy; subst hy; exact ⟨hx.1, by show 0 ≤ x.n + 1; omega, by show x.n + 1 ≤ _; omega⟩
    · refine ⟨by simp at h1 ⊢; omega, fun y hy => ?_⟩
      rcases List.mem_append.1 hy with hy | hy
      · obtain ⟨a, b, c⟩ := h2 y hy; exact ⟨a, b, by omega⟩
      · simp at hy; subst hy; exact ⟨hp, by show (0 : Int) ≤ 1; omega, by show (1 : Int) ≤ _; omega⟩
set_option maxHeartbeats 400000 in
theorem goesOn_any (x : Rn) (p q : Int) (w : World) (hx : (0 ≤ x.f ∧ x.f < 256) ∧ 0 ≤ x.n ∧ x.n ≤ 1000) :
    Calls Try.prog 32 #[x.V, .int .i64 p, .int .i64 q] w fun e w' => e = .returned (.bool (decide (x.f + x.n = p ∧ x.r = q))) ∧ Touch Nil w w' := by
  obtain ⟨f, n, r⟩ := x
  have hx : (0 ≤ f ∧ f < 256) ∧ 0 ≤ n ∧ n ≤ 1000 := hx
  have hw : IntKind.i64.wrap (f + n) = f + n := by rw [IntKind.wrap_i64]; omega
  unfold Rn.V
  dsimp only
  go_enter Try.func32, Try.ntmps32
  by_cases e1 : f + n = p
  · by_cases e2 : r = q
    · subst e1 e2
      go_wp2_with fail
      go_ret
      exact ⟨by simp, (Touch.refl Nil w).alloc _⟩
    · have e3 : (r == q) = false := by simpa using e2
      subst e1
      go_wp2_with fail
      go_ret
      exact ⟨by simp, (Touch.refl Nil w).alloc _⟩
  · have e3 : (f + n == p) = false := by simpa using e1
    go_wp2_with fail
    go_ret
    exact ⟨by simp, (Touch.refl Nil w).alloc _⟩
theorem app_run {wr : World} {base n : Nat} {v : Value} {xs : List Value} (h0 : wr.ownsRow base 60 3 v n xs) (hbase : base ≤ wr.heap.size) (few : n ≤ 1000) (x : Rn) :
    ∃ g c wN, (Builtin.append_ #[54, 54] 54 #[v, .slice (some ⟨wr.heap.size, 0, none⟩) 1 1]).run Try.prog (wr.alloc (.cells #[.int .i64 x.f, .int .i64 x.n, .int .i64 x.r] 60)) = .ok (.slice (some ⟨g, 0, none⟩) (n + 1) c) wN ∧
      wN.ownsRow base 60 3 (.slice (some ⟨g, 0, none⟩) (n + 1) c) (n + 1) (xs ++ x.vs) ∧ Below base wr wN :=
  app_gen (z := .agg #[.int .i64 0, .int .i64 0, .int .i64 0]) (bytes := 24) (by kernel_rfl) Try.underlying54 rfl (by decide) (by decide) h0 hbase few #[.int .i64 x.f, .int .i64 x.n, .int .i64 x.r] rfl (fun u hu => by simp at hu; rcases hu with rfl | rfl | rfl <;> rfl)
theorem flatR_set (pre : List Rn) (x : Rn) (n : Int) : (flatR (pre ++ [x])).set (pre.length * 3 + 1) (.int .i64 n) = flatR (pre ++ [⟨x.f, n, x.r⟩]) := by
  rw [flatR_app, flatR_app, List.set_append_right _ _ (by rw [flatR_len]; omega), flatR_len, show pre.length * 3 + 1 - pre.length * 3 = 1 by omega]
  rfl
theorem owns_form {w : World} {base size n : Nat} {e : TypeId} {v : Value} {xs : List Value} (h : w.ownsRow base e size v n xs) : ∃ a cap, v = .slice a n cap ∧ (0 < n → ∃ g, a = some ⟨g, 0, none⟩) := by
  rcases h.2 with ⟨rfl, h0⟩ | ⟨g, cap, cur, rfl, _⟩
  · exact ⟨none, 0, by rw [h0], fun q => by omega⟩
  · exact ⟨_, cap, rfl, fun _ => ⟨g, rfl⟩⟩
theorem owns_len {w : World} {base n cap : Nat} {e : TypeId} {a : Option Addr} {xs : List Value} (h : w.ownsRow base e 3 (.slice a n cap) n xs) : n ≤ cap ∧ cap ≤ maxLen := by
  rcases h.2 with ⟨h1, h0⟩ | ⟨g, cap', cur, h1, _, _, h2, h3, _⟩
  · cases h1; exact ⟨Nat.le_refl _, Nat.zero_le _⟩
  · cases h1; exact ⟨h2, h3⟩
theorem pgsA_mem (R : Nat → Int) (k : Nat) (p : Int) (h : p ∈ pgsA R k) : ∃ i : Nat, p = i ∧ i < k ∧ 0 ≤ R i := by
  induction k with
  | zero => cases h
  | succ k ih =>
    unfold pgsA at h
    rcases List.mem_append.1 h with h | h
    · obtain ⟨i, a, b, c⟩ := ih h; exact ⟨i, a, by omega, c⟩
    · split at h
      · simp at h; exact ⟨k, h, by omega, by assumption⟩
      · cases h
set_option maxRecDepth 20000 in
set_option maxHeartbeats 1000000 in
theorem list_any {w : World} {b : Nat} {R : Nat → Int} (h : AAt w b R) :
    Calls Try.prog 30 #[.pointer (some ⟨b, 0, none⟩)] w fun e w' => (∃ v, e = .returned v ∧ w'.ownsRow w.heap.size 60 3 v (runsA R (pgsA R 256)).length (flatR (runsA R (pgsA R 256)))) ∧ Touch Nil w w' := by
  have hP := pages_any h
  have hM := pgsA_mem R 256
  have hL := pgsA_len R 256
  generalize pgsA R 256 = l at *
  go_enter Try.func30, Try.ntmps30
  go_wp2_with fail
  with_reducible refine hP.mono ?_
  rintro e w1 ⟨⟨v, rfl, hv⟩, t1⟩
  clear hP
  obtain ⟨ap, cp, rfl, hap⟩ := owns_form hv
  have h1 := h.touch t1 (by simp [Nil])
  have s1 := t1.size
  obtain ⟨L, hl⟩ : ∃ L, l.length = L := ⟨_, rfl⟩
  rw [hl] at hv hap hL
  rw [hl]
  go_wp2_with fail
  go_loopg [3, 5, 6, 7, 11] L (fun g v p r la i wr => ∃ j : Nat, g + j = L ∧ i = .int .i64 j ∧ Aside (wr.ownsRow w1.heap.size 60 3 v (runsA R (l.take j)).length (flatR (runsA R (l.take j)))) ∧ Aside (Touch Nil w1 wr) ∧ Aside (SmallR j (runsA R (l.take j))))
  case atStart => exact ⟨0, by omega, rfl, World.ownsRow_nil _ _ _ _, Touch.refl _ _, (show SmallR _ _ from ⟨by simp [runsA], fun x hx => by simp [runsA] at hx⟩)⟩
  case round =>
    obtain ⟨j, hgj, rfl, hO, tk, hS⟩ := hrel
    by_cases hj : j < L
    · have j1 : (j : Int) < L := by omega
      obtain ⟨gp, rfl⟩ := hap (by omega)
      obtain ⟨p, hp, hpl⟩ : ∃ p : Int, l[j]? = some p ∧ p ∈ l := ⟨l[j]'(by omega), List.getElem?_eq_getElem _, List.getElem_mem _⟩
      obtain ⟨P, rfl, hP1, hP2⟩ := hM p hpl
      have cp1 : wr.cell? ⟨gp, j, none⟩ = some (.int .i64 P) := by
        rw [(ownsRow_touch hv tk.out (fun _ q => q.elim)).cellAt j (by omega)]
        simp [ilist, hp]
      have cr := (h1.touch tk.out (by simp [Nil])).rtC (k := P) hP1
      obtain ⟨q, hq⟩ : ∃ q, Hid (rt R P = q) := ⟨_, rfl⟩
      rw [hq.out] at cr
      have eN : runsA R (l.take (j + 1)) = stepR (runsA R (l.take j)) P q := by
        rw [List.take_add_one, hp]
        show runsA R (_ ++ [(P : Int)]) = _
        rw [runsA_snoc, Int.toNat_natCast, hq.out]
      have hSn : Aside (SmallR (j + 1) (stepR (runsA R (l.take j)) P q)) := hS.out.step P q (by omega)
      have P1 : (P : Int) < 256 := by omega
      generalize runsA R (l.take j) = acc at *
      obtain ⟨a, cap, rfl, hg⟩ := owns_form hO.out
      obtain ⟨hc1, hc2⟩ := owns_len hO.out
      have few := hS.out.1
      have hsz := tk.out.size
      clear hv hM h1 h hP2
      rcases List.eq_nil_or_concat acc with e | ⟨pre, x, e0⟩
      · subst e
        obtain ⟨g', c', wN, hrun, hN, bN⟩ := app_run hO.out hsz (by simp) ⟨P, 1, q⟩
        have tN : Aside (Touch Nil w1 wN) := tk.out.ofBase bN
        clear hO tk hS
        go_upto_region 9 with fail
        go_wp2_with (at_builtin; refine Lib.wpList_append_run_sl _ rfl _ _ 54 rfl _ _ rfl rfl hrun ?_)
        go_roundg (L - (j + 1))
        case measure => omega
        case rel => exact ⟨j + 1, by omega, by go_num, by rw [eN]; exact hN, tN, by rw [eN]; exact hSn⟩
      · have e : acc = pre ++ [x] := by simpa using e0
        clear e0
        subst e
        obtain ⟨xf, xn, xr⟩ := x
        obtain ⟨m, hm⟩ : ∃ m, pre.length = m := ⟨_, rfl⟩
        have hlm : (pre ++ [(⟨xf, xn, xr⟩ : Rn)]).length = m + 1 := by simp [hm]
        have hx := hS.out.2 ⟨xf, xn, xr⟩ (by simp)
        have hx : (0 ≤ xf ∧ xf < 256) ∧ 0 ≤ xn ∧ xn ≤ j := hx
        rw [hlm] at hO hc1 few hg
        obtain ⟨g, rfl⟩ := hg (by omega)
        obtain ⟨c0, c1, c2⟩ := flatR_get (pre ++ [(⟨xf, xn, xr⟩ : Rn)]) (i := m) (x := ⟨xf, xn, xr⟩) (by simp [← hm])
        dsimp only at c0 c1 c2
        rw [← hO.out.cellAt _ (by omega)] at c0 c1 c2
        have m1 : IntKind.i64.wrap ((m : Int) + 1 - 1) = m := by rw [IntKind.wrap_i64]; omega
        have hG := goesOn_any ⟨xf, xn, xr⟩ P q wr ⟨hx.1, hx.2.1, by show xn ≤ 1000; omega⟩
        unfold Rn.V at hG
        dsimp only at hG
        by_cases hgo : xf + xn = P ∧ xr = q
        · rw [decide_eq_true hgo] at hG
          rw [stepR_snoc, if_pos hgo] at eN hSn
          dsimp only at eN hSn
          have n1 : IntKind.i64.wrap (xn + 1) = xn + 1 := by rw [IntKind.wrap_i64]; omega
          clear hgo
          have hF := fun w4 (t4 : Touch Nil wr w4) => ownsRow_touch hO.out t4 (fun _ q => q.elim)
          replace hF : Hid _ := hF
          clear hO hS
          go_wp2_with fail
          with_reducible refine hG.mono ?_
          rintro e w4 ⟨rfl, t4⟩
          have hO4 := hF.out w4 t4
          have tk4 := tk.out.trans t4
          have d1 := hO4.cellAt (m * 3 + 1) (by omega)
          have z1 := hO4.frozenAt (m * 3 + 1)
          rw [(flatR_get (pre ++ [(⟨xf, xn, xr⟩ : Rn)]) (i := m) (x := ⟨xf, xn, xr⟩) (by simp [← hm])).2.1] at d1
          dsimp only at d1
          have hN := (hO4.stored (m * 3 + 1) (.int .i64 (xn + 1))).1
          have hgg : w1.heap.size ≤ g := (hO4.lt g rfl).1
          have tN : Aside (Touch Nil w1 (w4.setCell ⟨g, m * 3 + 1, none⟩ (.int .i64 (xn + 1)))) := tk4.setNew (p := ⟨g, m * 3 + 1, none⟩) hgg _
          rw [← hm, flatR_set, hm] at hN
          have hN' : Aside _ := hN
          clear hN hG hF c0 c1 c2 cp1 cr hO4 tk tk4
          go_wp2_with fail
          go_roundg (L - (j + 1))
          case measure => omega
          case rel => exact ⟨j + 1, by omega, by go_num, by rw [eN, show (pre ++ [(⟨xf, xn + 1, xr⟩ : Rn)]).length = m + 1 by simp [hm]]; exact hN', tN, by rw [eN]; exact hSn⟩
        · rw [decide_eq_false hgo] at hG
          rw [stepR_snoc, if_neg hgo] at eN hSn
          clear hgo
          have hF := fun w4 (t4 : Touch Nil wr w4) => ownsRow_touch hO.out t4 (fun _ q => q.elim)
          replace hF : Hid _ := hF
          clear hO hS
          go_wp2_with fail
          with_reducible refine hG.mono ?_
          rintro e w4 ⟨rfl, t4⟩
          have tk4 := tk.out.trans t4
          obtain ⟨g', c', wN, hrun, hN, bN⟩ := app_run (hF.out w4 t4) tk4.size (by omega) ⟨P, 1, q⟩
          have tN : Aside (Touch Nil w1 wN) := tk4.ofBase bN
          have hN' : Aside _ := hN
          clear hN hG hF c0 c1 c2 cp1 cr tk tk4
          go_upto_region 9 with fail
          go_wp2_with (at_builtin; refine Lib.wpList_append_run_sl _ rfl _ _ 54 rfl _ _ rfl rfl hrun ?_)
          go_roundg (L - (j + 1))
          case measure => omega
          case rel => exact ⟨j + 1, by omega, by go_num, by rw [eN, show (pre ++ [(⟨xf, xn, xr⟩ : Rn)] ++ [(⟨P, 1, q⟩ : Rn)]).length = m + 1 + 1 by simp [hm], flatR_app]; exact hN', tN, by rw [eN]; exact hSn⟩
    · have e : j = L := by omega
      subst e
      rw [List.take_of_length_le (by omega)] at hO
      have hF := World.ownsRow.mono hO.out s1
      have tF := t1.trans tk.out
      clear hO hS tk hv hM hap h1 h
      go_wp2_with fail
      go_ret
      exact ⟨⟨_, rfl, hF⟩, tF⟩
end Go.Proofs.Ytcjfdgkhlidakaa
