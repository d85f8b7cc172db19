/-
  The document's List; the law's Runs, Same.
-/
import Derived.Test.YtcjfdgkhlidakaaRAreaB
namespace Go.Proofs.Ytcjfdgkhlidakaa
open Go.ChangeShapes Go.WideShapes Go.ChangeAt Go.RowKit

theorem app_rrun {wr : World} {base n : Nat} {v : Value} {xs : List Value} (h0 : wr.ownsRow base 59 3 v n xs) (hbase : base ≤ wr.heap.size) (few : n ≤ 1000) (x : Rn) :
    ∃ g c wN, (Builtin.append_ #[56, 56] 56 #[v, .slice (some ⟨wr.heap.size, 0, none⟩) 1 1]).run Try.prog (wr.alloc (.cells #[.int .i64 x.f, .int .i64 x.n, .int .i64 x.r] 59)) = .ok (.slice (some ⟨g, 0, none⟩) (n + 1) c) wN ∧
      wN.ownsRow base 59 3 (.slice (some ⟨g, 0, none⟩) (n + 1) c) (n + 1) (xs ++ x.vs) ∧ Below base wr wN :=
  app_gen (z := .agg #[.int .i64 0, .int .i64 0, .int .i64 0]) (bytes := 24) (by kernel_rfl) Try.underlying56 rfl (by decide) (by decide) h0 hbase few #[.int .i64 x.f, .int .i64 x.n, .int .i64 x.r] rfl (fun u hu => by simp at hu; rcases hu with rfl | rfl | rfl <;> rfl)
theorem smallK (R : Nat → Int) (k : Nat) (hk : k ≤ 256) : SmallR k (runsK R k) := by
  induction k with
  | zero => exact ⟨by simp [runsK_zero], fun x hx => by simp [runsK_zero] at hx⟩
  | succ k ih =>
    by_cases h : 0 ≤ R k
    · rw [runsK_yes rfl h]; exact (ih (by omega)).step k (R k) (by omega)
    · rw [runsK_no (by omega)]
      obtain ⟨a, b⟩ := ih (by omega)
      exact ⟨by omega, fun x hx => by obtain ⟨c, d, e⟩ := b x hx; exact ⟨c, d, by omega⟩⟩
set_option maxRecDepth 20000 in
set_option maxHeartbeats 16000000 in
theorem rlist_any {w : World} {b : Nat} {R : Nat → Int} (h : RAt w b R) :
    Calls Try.prog 31 #[.pointer (some ⟨b, 0, none⟩)] w fun e w' => (∃ v, e = .returned v ∧ w'.ownsRow w.heap.size 59 3 v (runsK R 256).length (flatR (runsK R 256))) ∧ Touch Nil w w' := by
  have hr := h.range
  have hl := cellsR_len R
  go_enter Try.func31, Try.ntmps31
  go_wp2_with fail
  refine wp_load_mid 41 (.tmp 9) rfl b 0 rfl (cellsR R) _ hr Try.underlying41 rfl (by rw [hl]; kernel_rfl) ?_
  have hix := index_R R
  generalize (cellsR R).toArray = CA at *
  clear hr hl
  apply_assumption
  go_wp2_with fail
  go_loopg [3, 4, 5, 6, 11] 256 (fun g v p r la i wr => ∃ k : Nat, g + k = 256 ∧ i = .int .i64 k ∧ Aside (wr.ownsRow w.heap.size 59 3 v (runsK R k).length (flatR (runsK R k))) ∧ Aside (Touch Nil w wr))
  case atStart => exact ⟨0, by omega, rfl, World.ownsRow_nil _ _ _ _, Touch.refl _ w⟩
  case round =>
    obtain ⟨k, hgk, rfl, hO, tk⟩ := hrel
    by_cases hk : k < 256
    · have k1 : (k : Int) < 256 := by omega
      have hx := hix k hk
      have hS := smallK R k (by omega)
      clear hix
      obtain ⟨q, hq⟩ : ∃ q, Hid (R k = q) := ⟨_, rfl⟩
      rw [hq.out] at hx
      cases hd : decide (q < 0) with
      | true =>
        have hn : Hid (runsK R (k + 1) = runsK R k) := runsK_no (by rw [hq.out]; simpa using hd)
        clear hS
        go_wp2_with fail
        go_roundg (256 - (k + 1))
        case measure => omega
        case rel => exact ⟨k + 1, by omega, by go_num, by rw [hn.out]; exact hO, tk⟩
      | false =>
        have eN : Hid (runsK R (k + 1) = stepR (runsK R k) k q) := runsK_yes hq.out (by simpa using hd)
        generalize runsK R k = acc at *
        obtain ⟨a, cap, rfl, hg⟩ := owns_form hO.out
        obtain ⟨hc1, hc2⟩ := owns_len hO.out
        have few := hS.1
        have hsz := tk.out.size
        rcases List.eq_nil_or_concat acc with e | ⟨pre, x, e0⟩
        · subst e
          go_upto_region 7 with fail
          go_quiet (fail)
          have td := tk.out.drews nq
          have hO4 := ownsRow_touch hO.out ((Touch.refl Nil wr).drews nq) (fun _ q => q.elim)
          clear hO tk
          generalize wr.drewN nq = w4 at *
          obtain ⟨g', c', wN, hrun, hN, bN⟩ := app_rrun hO4 td.size (by simp) ⟨k, 1, q⟩
          have tN : Aside (Touch Nil w wN) := td.ofBase bN
          have hNa : Aside _ := hN
          clear hS hN bN hg td hO4
          go_upto_region 9 with fail
          go_wp2_with (at_builtin; refine Lib.wpList_append_run_sl _ rfl _ _ 56 rfl _ _ rfl rfl hrun ?_)
          go_roundg (256 - (k + 1))
          case measure => omega
          case rel => exact ⟨k + 1, by omega, by go_num, by rw [eN.out]; exact hNa, tN⟩
        · have e : acc = pre ++ [x] := by simpa using e0
          clear e0
          subst e
          obtain ⟨xf, xn, xr⟩ := x
          obtain ⟨m, hm⟩ : ∃ m, pre.length = m := ⟨_, rfl⟩
          have hlm : (pre ++ [(⟨xf, xn, xr⟩ : Rn)]).length = m + 1 := by simp [hm]
          have hx : (0 ≤ xf ∧ xf < 256) ∧ 0 ≤ xn ∧ xn ≤ k := hS.2 ⟨xf, xn, xr⟩ (by simp)
          rw [hlm] at hO hc1 few hg ⊢
          obtain ⟨g, rfl⟩ := hg (by omega)
          obtain ⟨c0, c1, c2⟩ := flatR_get (pre ++ [(⟨xf, xn, xr⟩ : Rn)]) (i := m) (x := ⟨xf, xn, xr⟩) (by simp [← hm])
          dsimp only at c0 c1 c2
          have d1 := c1
          rw [← hO.out.cellAt _ (by omega)] at c0 c1 c2
          have m1 : IntKind.i64.wrap ((m : Int) + 1 - 1) = m := by rw [IntKind.wrap_i64]; omega
          have s1 : IntKind.i64.wrap (xf + xn) = xf + xn := by rw [IntKind.wrap_i64]; omega
          have n1 : IntKind.i64.wrap (xn + 1) = xn + 1 := by rw [IntKind.wrap_i64]; omega
          have eS := stepR_snoc pre ⟨xf, xn, xr⟩ k q
          dsimp only at eS
          have hcase : (xf + xn = k ∧ xr = q) ∨ ((xf + xn == (k : Int)) = false ∧ ¬ (xf + xn = k ∧ xr = q)) ∨ (((xf + xn == (k : Int)) = true ∧ (xr == q) = false) ∧ ¬ (xf + xn = k ∧ xr = q)) := by
            by_cases p1 : xf + xn = k
            · by_cases p2 : xr = q
              · exact Or.inl ⟨p1, p2⟩
              · exact Or.inr (Or.inr ⟨⟨by simpa using p1, by simpa using p2⟩, fun hh => p2 hh.2⟩)
            · exact Or.inr (Or.inl ⟨by simpa using p1, fun hh => p1 hh.1⟩)
          obtain ⟨gb, hgb⟩ : ∃ gb : Bool, Hid (decide (xf + xn = k ∧ xr = q) = gb) := ⟨_, rfl⟩
          replace eN : Hid _ := eN
          replace eS : Hid _ := eS
          replace hO : Hid _ := hO
          replace hcase : Hid _ := hcase
          go_upto_region 7 with fail
          go_cut [45] (fun v wx => v = .bool gb ∧ ∃ n, wx = wr.drewN n)
          case first =>
            have hb := hgb.out
            clear hgb hO eN eS tk hS d1 n1
            rcases hcase.out with hgo | ⟨hA, hgo⟩ | ⟨⟨hA, hB⟩, hgo⟩
            · rw [decide_eq_true hgo] at hb
              have hA : (xf + xn == (k : Int)) = true := by simpa using hgo.1
              have hB : (xr == q) = true := by simpa using hgo.2
              subst hb
              clear hgo hcase
              go_quiet (fail)
              go_wp2
              go_meet
              exact ⟨rfl, _, rfl⟩
            · rw [decide_eq_false hgo] at hb
              subst hb
              clear hgo hcase
              go_quiet (fail)
              go_wp2
              go_meet
              exact ⟨rfl, _, rfl⟩
            · rw [decide_eq_false hgo] at hb
              subst hb
              clear hgo hcase
              go_quiet (fail)
              go_wp2
              go_meet
              exact ⟨rfl, _, rfl⟩
          case rest =>
          obtain ⟨rfl, nq, rfl⟩ := hcut
          have td := tk.out.drews nq
          have hO4 := ownsRow_touch hO.out ((Touch.refl Nil wr).drews nq) (fun _ q => q.elim)
          generalize wr.drewN nq = w4 at *
          have eS' := eS.out
          have hb := hgb.out
          clear hO tk c0 c1 c2 hcase hgb eS s1 hS
          cases gb with
          | true =>
            rw [if_pos (of_decide_eq_true hb)] at eS'
            have eN2 : Hid _ := eN.out.trans eS'
            rw [← hO4.cellAt _ (by omega)] at d1
            have z1 := hO4.frozenAt (m * 3 + 1)
            have hN := (hO4.stored (m * 3 + 1) (.int .i64 (xn + 1))).1
            have hgg : w.heap.size ≤ g := (hO4.lt g rfl).1
            have tN : Aside (Touch Nil w (w4.setCell ⟨g, m * 3 + 1, none⟩ (.int .i64 (xn + 1)))) := td.setNew (p := ⟨g, m * 3 + 1, none⟩) hgg _
            rw [← hm, flatR_set, hm] at hN
            have hNa : Aside _ := hN
            clear hN hO4 td eS' hb eN
            go_wp2_with fail
            go_roundg (256 - (k + 1))
            case measure => omega
            case rel => exact ⟨k + 1, by omega, by go_num, by rw [eN2.out, show (pre ++ [(⟨xf, xn + 1, xr⟩ : Rn)]).length = m + 1 by simp [hm]]; exact hNa, tN⟩
          | false =>
            rw [if_neg (of_decide_eq_false hb)] at eS'
            have eN2 : Hid _ := eN.out.trans eS'
            obtain ⟨g', c', wN, hrun, hN, bN⟩ := app_rrun hO4 td.size (by omega) ⟨k, 1, q⟩
            have tN : Aside (Touch Nil w wN) := td.ofBase bN
            have hNa : Aside _ := hN
            clear hN bN td hO4 eS' hb eN d1
            dsimp only at hrun
            go_upto_region 9 with fail
            go_wp2_with (at_builtin; refine Lib.wpList_append_run_sl _ rfl _ _ 56 rfl _ _ rfl rfl hrun ?_)
            go_roundg (256 - (k + 1))
            case measure => omega
            case rel => exact ⟨k + 1, by omega, by go_num, by rw [eN2.out, show (pre ++ [(⟨xf, xn, xr⟩ : Rn)] ++ [(⟨k, 1, q⟩ : Rn)]).length = m + 1 + 1 by simp [hm], flatR_app]; exact hNa, tN⟩
    · have e : Hid (k = 256) := by show k = 256; omega
      have kd : decide ((k : Int) < 256) = false := by simp; omega
      clear hix hgk hk
      go_wp2_with fail
      go_ret
      rw [← e.out]
      exact ⟨⟨_, rfl, hO.out⟩, tk.out⟩
end Go.Proofs.Ytcjfdgkhlidakaa
