/-
  AreaRows: its walk.
-/
import Derived.Test.YtehdaiagkonekaaAreaRowsP
import Derived.Test.YtehdaiagkonekaaSlices
import Derived.Sort.AtCall
namespace Go.Proofs.Ytehdaiagkonekaa
open Go.ChangeShapes Go.WideShapes Go.ChangeAt Go.RowKit

def three : Array Value := #[.int .i64 0, .int .i64 1, .int .i64 3]
theorem three_get {k : Nat} (hk : k < 3) : ∃ r : Int, (r = 0 ∨ r = 1 ∨ r = 3) ∧ three[k]? = some (.int .i64 r) := by
  rcases (by omega : k = 0 ∨ k = 1 ∨ k = 2) with rfl | rfl | rfl
  · exact ⟨0, by omega, rfl⟩
  · exact ⟨1, by omega, rfl⟩
  · exact ⟨3, by omega, rfl⟩
theorem expandR_take (L : List Rn) (k : Nat) : (expandR (L.take k)).length ≤ (expandR L).length := by
  have e : expandR L = expandR (L.take k) ++ expandR (L.drop k) := by rw [← expandR_app, List.take_append_drop]
  rw [e, List.length_append]; omega
/-- The cells of the run that came last. -/
def lastC (x : Rn) (i : Nat) : Value := if i = 0 then .int .i64 x.f else if i = 1 then .int .i64 x.n else .int .i64 x.r
/-- What the second half of the walk holds. -/
structure Hold (w wr : World) (B P b1 b2 : Nat) (a : Option Addr) (n cap : Nat) (L : List Rn) (R : Nat → Int) (x : Rn) : Prop where
  hA : AAt wr B R
  hL : wr.ownsRow b1 29 3 (.slice a n cap) n (flatR L)
  hP : wr.rowIs P 29 3 (lastC x)
  t : Touch Nil w wr
  o : w.heap.size ≤ B ∧ B < P ∧ P < b1 ∧ b1 ≤ b2 ∧ b2 ≤ wr.heap.size
  lt : ∀ g, a = some ⟨g, 0, none⟩ → g < b2
theorem Hold.nil {w wr wr' : World} {B P b1 b2 : Nat} {a : Option Addr} {n cap : Nat} {L : List Rn} {R : Nat → Int} {x : Rn} (h : Hold w wr B P b1 b2 a n cap L R x) (t : Touch Nil wr wr') : Hold w wr' B P b1 b2 a n cap L R x :=
  ⟨h.hA.touch t (by simp [Nil]), ownsRow_touch h.hL t (fun _ q => q.elim), t.row h.hP (by simp [Nil]), h.t.trans t, ⟨h.o.1, h.o.2.1, h.o.2.2.1, h.o.2.2.2.1, Nat.le_trans h.o.2.2.2.2 t.size⟩, h.lt⟩
theorem Hold.far {w wr wr' : World} {B P b1 b2 : Nat} {a : Option Addr} {n cap : Nat} {L : List Rn} {R : Nat → Int} {x : Rn} (h : Hold w wr B P b1 b2 a n cap L R x) (t : Touch (b2 ≤ ·) wr wr') : Hold w wr' B P b1 b2 a n cap L R x := by
  obtain ⟨o1, o2, o3, o4, o5⟩ := h.o
  refine ⟨h.hA.touch t (by omega), ?_, t.row h.hP (by omega), h.t.transNew t (fun i hi e => by omega), ⟨o1, o2, o3, o4, Nat.le_trans o5 t.size⟩, h.lt⟩
  obtain ⟨hl, hv⟩ := h.hL
  refine ⟨hl, hv.imp id ?_⟩
  rintro ⟨g, cp, cur, h1, h2, h3, h4⟩
  have hg : g < b2 := h.lt g (by cases h1; rfl)
  exact ⟨g, cp, cur, h1, h2, (t.block g (by omega) (by omega)).trans h3, h4⟩
theorem owns_kind {w : World} {base size n : Nat} {e : TypeId} {v : Value} {xs : List Value} (h : w.ownsRow base e size v n xs) (k : Nat) (hk : v.ownBlock = some k) : ∃ cur, w.heap[k]? = some (.cells cur e (0, 0)) := by
  rcases h.2 with ⟨rfl, _⟩ | ⟨g, cap, cur, rfl, _, hcur, _⟩
  · simp [Value.ownBlock] at hk
  · simp [Value.ownBlock] at hk
    subst hk
    exact ⟨cur, hcur⟩
theorem app_int2 {wr : World} {base n : Nat} {v : Value} {xs : List Value} (h0 : wr.ownsRow base 3 1 v n xs) (hbase : base ≤ wr.heap.size) (few : n ≤ 1000) (x : Int) :
    ∃ g c wN, (Builtin.append_ #[35, 35] 35 #[v, .slice (some ⟨wr.heap.size, 0, none⟩) 1 1]).run Try.prog (wr.alloc (.cells #[.int .i64 x] 3)) = .ok (.slice (some ⟨g, 0, none⟩) (n + 1) c) wN ∧
      wN.ownsRow base 3 1 (.slice (some ⟨g, 0, none⟩) (n + 1) c) (n + 1) (xs ++ [.int .i64 x]) ∧ Touch (fun k => v.ownBlock = some k) wr wN := by
  obtain ⟨i, hi, hzz⟩ := Option.map_eq_some_iff.1 (show (Try.prog.info? 3).map (fun i => (i.zero, i.size, i.bytes)) = some (some (.int .i64 0), 1, 8) by kernel_rfl)
  simp only [Prod.mk.injEq] at hzz
  obtain ⟨hz0, hz1, hz2⟩ := hzz
  have ha := h0.alloc (.cells #[.int .i64 x] 3)
  have hb := heap_alloc_new wr (.cells #[.int .i64 x] 3)
  obtain ⟨v', wN, hr, ho, hg, hn⟩ := run_append_own (P := Try.prog) _ base 35 35 3 i (.int .i64 0) 1 8 Try.underlying35 hi hz0 hz1 hz2 rfl (by decide) v n xs ha ⟨wr.heap.size, 0, none⟩ 1 1 [.int .i64 x] (by simp)
    (fun j u hu => by
      rw [Addr.add_mid]
      unfold World.cell?
      rw [hb]
      simpa using hu) (fun u hu => by simp at hu; subst hu; rfl) (by unfold maxLen; omega) (by omega) (by simp; omega)
  obtain ⟨ho1, ho2⟩ := ho
  have tt := ((Touch.refl (fun k => v.ownBlock = some k) wr).alloc (.cells #[.int .i64 x] 3)).trans (Touch.ofGrown' hg)
  rcases ho2 with ⟨_, h00⟩ | ⟨g', c, cur, rfl, hgb, hcur, hc1, hc2, hc3, hc4⟩
  · omega
  · exact ⟨g', c, wN, hr, ⟨ho1, Or.inr ⟨g', c, cur, rfl, hgb, hcur, hc1, hc2, hc3, hc4⟩⟩, tt⟩
theorem Hold.put {w wr : World} {B P b1 b2 : Nat} {a : Option Addr} {n cap : Nat} {L : List Rn} {R : Nat → Int} {x : Rn} (h : Hold w wr B P b1 b2 a n cap L R x) (y : Rn) :
    Hold w (((wr.setCell ⟨P, 0, none⟩ (.int .i64 y.f)).setCell ⟨P, 1, none⟩ (.int .i64 y.n)).setCell ⟨P, 2, none⟩ (.int .i64 y.r)) B P b1 b2 a n cap L R y := by
  obtain ⟨o1, o2, o3, o4, o5⟩ := h.o
  have t : Touch (· = P) wr (((wr.setCell ⟨P, 0, none⟩ (.int .i64 y.f)).setCell ⟨P, 1, none⟩ (.int .i64 y.n)).setCell ⟨P, 2, none⟩ (.int .i64 y.r)) :=
    (((Touch.refl (· = P) wr).setCell (p := ⟨P, 0, none⟩) rfl _).setCell (p := ⟨P, 1, none⟩) rfl _).setCell (p := ⟨P, 2, none⟩) rfl _
  refine ⟨h.hA.touch t (by omega), ownsRow_touch h.hL t (fun k q => by omega), (World.rowIs.set (World.rowIs.set (World.rowIs.set h.hP 0 _) 1 _) 2 _).congr fun i hi => ?_, h.t.transNew t (fun i hi e => by omega), ⟨o1, o2, o3, o4, Nat.le_trans o5 t.size⟩, h.lt⟩
  rcases (by omega : i = 0 ∨ i = 1 ∨ i = 2) with rfl | rfl | rfl <;> rfl
set_option maxRecDepth 20000 in
set_option maxHeartbeats 8000000 in
theorem areaRows_walk (a0 : Option Addr) (len0 cap0 : Nat) (z0 : List Int) (w : World) (r0 : Row .i64 w a0 len0 cap0 z0) :
    Calls Try.prog 6 #[.slice a0 len0 cap0] w fun e w' => e = .returned (.bool true) ∧ Touch Nil w w' := by
  obtain ⟨hm0, p0⟩ := r0.plain
  unfold maxLen at hm0
  clear r0
  go_enter Try.func6, Try.ntmps6
  go_wp2_with fail
  with_reducible refine (anew_any w).mono ?_
  rintro e w1 ⟨rfl, h1, T1, s1⟩
  generalize hB : w.heap.size = B at h1 s1 ⊢
  go_wp2_with fail
  go_loopg [4] 60 (fun g i wr => ∃ (k : Nat) (R : Nat → Int), g + k = 60 ∧ k % 3 = 0 ∧ i = .int .i64 k ∧ Aside (AAt wr B R) ∧ Aside (Touch Nil w wr))
  case atStart => exact ⟨0, _, by omega, by omega, rfl, h1, T1⟩
  case round =>
    clear h1 T1
    obtain ⟨k, R, hgk, hk3, rfl, hA, tk⟩ := hrel
    by_cases hgo : k + 2 < len0 ∧ k < 60
    · obtain ⟨g1, g2⟩ := hgo
      rcases p0 with p0 | ⟨b0, o0, rfl, hb0, hc0⟩
      · omega
      have cz := fun wx (t : Touch Nil w wx) j (hj : j < len0) => Plain.cell hc0 hb0 (t.below (Nat.le_refl _) (fun _ e => e.elim)) j hj
      have cw := fun j (hj : j < len0) => bounds_i64 (hc0 j hj).2
      have c0 := cz wr tk.out k (by omega)
      have c1 := cz wr tk.out (k + 1) (by omega)
      have c2 := cz wr tk.out (k + 2) (by omega)
      have b2 := cw (k + 2) (by omega)
      have cy := fun wx (t : Touch Nil wr wx) => cz wx (tk.out.trans t) (k + 2) (by omega)
      clear cz cw hc0
      generalize z0.getD k 0 = y0 at *
      generalize z0.getD (k + 1) 0 = y1 at *
      generalize z0.getD (k + 2) 0 = y2 at *
      have k1 : (k : Int) + 2 < len0 := by omega
      have k2 : (k : Int) < 60 := by omega
      have k3 : (k : Int) < len0 := by omega
      have k4 : (k : Int) + 1 < len0 := by omega
      have k5 : (0 : Int) ≤ (k : Int) + 1 := by omega
      have k6 : (0 : Int) ≤ (k : Int) + 2 := by omega
      have q1 : IntKind.i64.wrap ((k : Int) + 1) = (k : Int) + 1 := by rw [IntKind.wrap_i64]; omega
      have q2 : IntKind.i64.wrap ((k : Int) + 2) = (k : Int) + 2 := by rw [IntKind.wrap_i64]; omega
      have hW0 := fun w1 => within_q' y0 30 w1 (by decide) (by decide)
      have hW1 := fun w1 => within_q' y1 5 w1 (by decide) (by decide)
      obtain ⟨F, hF, hF'⟩ : ∃ F : Nat, F < 30 ∧ y0 % 30 = F := ⟨(y0 % 30).toNat, by omega, by omega⟩
      obtain ⟨M0, hM, hM'⟩ : ∃ M0 : Nat, M0 < 5 ∧ y1 % 5 = M0 := ⟨(y1 % 5).toNat, by omega, by omega⟩
      rw [hF'] at hW0
      rw [hM'] at hW1
      clear hF' hM'
      have qM : IntKind.i64.wrap (1 + (M0 : Int)) = 1 + (M0 : Int) := by rw [IntKind.wrap_i64]; omega
      go_upto_region 7 with fail
      go_quiet ((go_at_call 9; first | with_reducible exact Calls.quiet_of_same (hW0 _) | with_reducible exact Calls.quiet_of_same (hW1 _)))
      have t2 := (Touch.refl Nil wr).drews nq
      have hA2 := hA.out.touch t2 (by simp [Nil])
      have T2 := tk.out.trans t2
      have cy2 := fun wx (t : Touch Nil (wr.drewN nq) wx) => cy wx (t2.trans t)
      clear hA tk cy c0 c1 c2 t2 hW0 hW1
      generalize wr.drewN nq = w2 at *
      have c2 := cy2 w2 (Touch.refl _ _)
      have v1 : IntKind.i64.wrap (y2.tdiv 5) = y2.tdiv 5 := by rw [IntKind.wrap_i64]; have := tdiv_two y2 5 (by omega); omega
      have hV := fun w1 => within_any y2 5 w1 (by decide) (by decide)
      have hU := fun w1 => within_any (y2.tdiv 5) 3 w1 (by decide) (by decide)
      obtain ⟨v, hv, hv'⟩ : ∃ v : Nat, v < 5 ∧ y2 % 5 = v := ⟨(y2 % 5).toNat, by omega, by omega⟩
      obtain ⟨kk, hkk, hkk'⟩ : ∃ kk : Nat, kk < 3 ∧ y2.tdiv 5 % 3 = kk := ⟨(y2.tdiv 5 % 3).toNat, by omega, by omega⟩
      rw [hv'] at hV
      rw [hkk'] at hU
      obtain ⟨r, _, hr⟩ := three_get hkk
      have hb := heap_alloc_new w2 (.cells three 3)
      have ct : (w2.alloc (.cells three 3)).cell? ⟨w2.heap.size, kk, none⟩ = some (.int .i64 r) := by
        unfold World.cell?
        rw [hb]; exact hr
      have ta := (Touch.refl Nil w2).alloc (.cells three 3)
      have cy3 := cy2 _ ta
      have hAdd := add_any (hA2.touch ta (by simp [Nil])) F (1 + (M0 : Int)) r (by omega)
      have hChg := chg_any (hA2.touch ta (by simp [Nil])) F (1 + (M0 : Int)) r (by omega)
      have hCut := cut_any hA2 F (1 + (M0 : Int)) (by omega)
      have kk1 : (kk : Int) < 3 := by omega
      unfold three at *
      clear hb hr hv' hkk' cy2 hA2 b2
      have fin : ∀ (S : Nat → Prop) w3 w4, Touch Nil w2 w3 → Touch (· = B) w3 w4 → Aside (Touch Nil w w4) := fun S w3 w4 h h' => (T2.trans h).transNew h' (fun i hi e => by omega)
      rcases (by omega : v = 0 ∨ v = 1 ∨ v = 2 ∨ v = 3 ∨ v = 4) with rfl | rfl | rfl | rfl | rfl
      case inr.inr.inr.inl =>
        clear hAdd hChg hU ct
        go_wp2_with fail
        with_reducible refine (hV _).mono ?_
        rintro e wq ⟨rfl, rfl⟩
        go_wp2_with fail
        with_reducible refine hCut.mono ?_
        rintro e w4 ⟨rfl, h4, t4⟩
        have hA4 : Aside (AAt w4 B _) := h4
        have T4 := fin (· = B) w2 w4 (Touch.refl _ _) t4
        clear hCut h4 t4 fin
        go_wp2_with fail
        go_roundg (57 - k)
        case measure => omega
        case rel => exact ⟨k + 3, _, by omega, by omega, by go_num, hA4, T4⟩
      case inr.inr.inr.inr =>
        clear hAdd hCut
        go_wp2_with fail
        with_reducible refine (hV _).mono ?_
        rintro e wq ⟨rfl, rfl⟩
        go_wp2_with fail
        with_reducible refine (hU _).mono ?_
        rintro e wq ⟨rfl, rfl⟩
        go_wp2_with fail
        with_reducible refine hChg.mono ?_
        rintro e w4 ⟨rfl, h4, t4⟩
        have hA4 : Aside (AAt w4 B _) := h4
        have T4 := fin (· = B) _ w4 ta t4
        clear hChg h4 t4 fin
        go_wp2_with fail
        go_roundg (57 - k)
        case measure => omega
        case rel => exact ⟨k + 3, _, by omega, by omega, by go_num, hA4, T4⟩
      all_goals
        clear hChg hCut
        go_wp2_with fail
        with_reducible refine (hV _).mono ?_
        rintro e wq ⟨rfl, rfl⟩
        go_wp2_with fail
        with_reducible refine (hU _).mono ?_
        rintro e wq ⟨rfl, rfl⟩
        go_wp2_with fail
        with_reducible refine hAdd.mono ?_
        rintro e w4 ⟨rfl, h4, t4⟩
        have hA4 : Aside (AAt w4 B _) := h4
        have T4 := fin (· = B) _ w4 ta t4
        clear hAdd h4 t4 fin
        go_wp2_with fail
        go_roundg (57 - k)
        case measure => omega
        case rel => exact ⟨k + 3, _, by omega, by omega, by go_num, hA4, T4⟩
    · have hq : (¬ k + 2 < len0 ∧ decide ((k : Int) + 2 < len0) = false) ∨ (k + 2 < len0 ∧ (k : Int) + 2 < len0 ∧ decide ((k : Int) < 60) = false) := by
        by_cases hl : k + 2 < len0
        · exact Or.inr ⟨hl, by omega, by simp; omega⟩
        · exact Or.inl ⟨hl, by simp; omega⟩
      have hA0 := hA.out
      have T0 := tk.out
      have q2 : IntKind.i64.wrap ((k : Int) + 2) = (k : Int) + 2 := by rw [IntKind.wrap_i64]; omega
      clear p0 hgo hA tk
      have hBw : B < wr.heap.size := hA0.lt
      have ta := (Touch.refl Nil wr).alloc (.cells #[.int .i64 (-9), .int .i64 0, .int .i64 0] 29)
      have hPa : (wr.alloc (.cells #[.int .i64 (-9), .int .i64 0, .int .i64 0] 29)).rowIs wr.heap.size 29 3 (lastC ⟨-9, 0, 0⟩) := World.rowIs_alloc wr _ _ _ (fun i hi => by
        have hi : i < 3 := hi
        match i, hi with
        | 0, _ | 1, _ | 2, _ => rfl)
      have hAa := hA0.touch ta (by simp [Nil])
      have Ta := T0.trans ta
      have sa : (wr.alloc (.cells #[.int .i64 (-9), .int .i64 0, .int .i64 0] 29)).heap.size = wr.heap.size + 1 := by simp
      have hLs := list_any hAa
      rcases hq with ⟨q0, q1⟩ | ⟨q0, q1, q5⟩ <;>
      · go_upto_region 19 with (with_reducible refine hLs.mono ?_; rintro e w3 ⟨⟨v, rfl, hv⟩, t3⟩; obtain ⟨al, capl, rfl, hal⟩ := owns_form hv)
        generalize wr.alloc (.cells #[.int .i64 (-9), .int .i64 0, .int .i64 0] 29) = w2 at *
        generalize wr.heap.size = P at *
        have s3 := t3.size
        have hG := goodR R 256
        unfold runsK at hG
        have hG256 := hG.all
        have H0 : Aside (Hold w w3 B P w2.heap.size w3.heap.size al (runsA R (pgsA R 256)).length capl (runsA R (pgsA R 256)) R ⟨-9, 0, 0⟩) :=
          ⟨hAa.touch t3 (by simp [Nil]), hv, t3.row hPa (by simp [Nil]), Ta.trans t3, ⟨by omega, by omega, by omega, by omega, Nat.le_refl _⟩, fun g e => by subst e; exact (owns_lt hv).2⟩
        clear hLs hv hAa hPa Ta ta hA0 T0
        generalize w3.heap.size = b2 at *
        generalize runsA R (pgsA R 256) = L at *
        obtain ⟨n, hn⟩ : ∃ n, L.length = n := ⟨_, rfl⟩
        rw [hn] at hal H0
        rw [hn]
        have hnb : n ≤ 9223372036854775807 := by
          obtain ⟨u1, u2⟩ := owns_len H0.out.hL
          unfold maxLen at u2; omega
        go_loopg [7, 10, 11, 12, 13, 88] n (fun g v u c d e i wx => ∃ (t : Nat) (x : Rn), g + t = n ∧ i = .int .i64 t ∧ Aside (wx.ownsRow b2 3 1 v (expandR (L.take t)).length (ilist (expandR (L.take t)))) ∧ Aside (Hold w wx B P w2.heap.size b2 al n capl L R x) ∧ Aside ((-9 ≤ x.f ∧ x.f ≤ 256 ∧ 0 ≤ x.n ∧ x.n ≤ 256) ∧ ∀ y, L[t]? = some y → x.f + x.n ≤ y.f ∧ ¬ (y.f = x.f + x.n ∧ y.r = x.r)))
        case atStart => exact ⟨0, ⟨-9, 0, 0⟩, by omega, rfl, World.ownsRow_nil _ _ _ _, H0, (show _ ∧ _ from ⟨⟨by show (-9 : Int) ≤ -9; omega, by show (-9 : Int) ≤ 256; omega, by show (0 : Int) ≤ 0; omega, by show (0 : Int) ≤ 256; omega⟩, fun y hy => by
            obtain ⟨_, y2, _⟩ := hG.each y (List.mem_of_getElem? hy)
            show (-9 : Int) + 0 ≤ y.f ∧ ¬ (y.f = -9 + 0 ∧ _)
            omega⟩)⟩
        case round =>
          clear H0
          obtain ⟨t, x, hgt, rfl, hO, H, hx⟩ := hrel
          by_cases hlt : t < n
          · have j1 : (t : Int) < n := by omega
            obtain ⟨g, rfl⟩ := hal (by omega)
            obtain ⟨y, hy⟩ : ∃ y, L[t]? = some y := ⟨L[t]'(by omega), List.getElem?_eq_getElem _⟩
            obtain ⟨y1, y2, y3, y4⟩ := hG.each y (List.mem_of_getElem? hy)
            obtain ⟨⟨x1, x2, x3, x4⟩, hxy⟩ := hx.out
            obtain ⟨z1, z2⟩ := hxy y hy
            have eN : expandR (L.take (t + 1)) = expandR (L.take t) ++ pagesR y.f y.n.toNat := by
              rw [List.take_add_one, hy, expandR_app]
              simp [expandR]
            have hxn : ∀ z, L[t + 1]? = some z → y.f + y.n ≤ z.f ∧ ¬ (z.f = y.f + y.n ∧ z.r = y.r) := fun z hz => hG.next t y z hy hz
            obtain ⟨c0, c1, c2⟩ := flatR_get L hy
            rw [← H.out.hL.cellAt _ (by omega)] at c0 c1 c2
            obtain ⟨xf, xn, xr⟩ := x
            obtain ⟨f, m, r⟩ := y
            dsimp only at *
            obtain ⟨M, hM⟩ : ∃ M : Nat, m = M := ⟨m.toNat, by omega⟩
            subst hM
            rw [Int.toNat_natCast] at eN
            have d1 : decide ((M : Int) < 1) = false := by simp; omega
            have d2 : decide (f < xf + xn) = false := by simp; omega
            have q3 : IntKind.i64.wrap (xf + xn) = xf + xn := by rw [IntKind.wrap_i64]; omega
            have q4 : IntKind.i64.wrap (f + M) = f + M := by rw [IntKind.wrap_i64]; omega
            have hne : (f == xf + xn) = false ∨ ((f == xf + xn) = true ∧ (r == xr) = false) := by
              by_cases e : f = xf + xn
              · exact Or.inr ⟨by simpa using e, by simpa using fun q => z2 ⟨e, q⟩⟩
              · exact Or.inl (by simpa using e)
            have tX := (Touch.refl Nil wr).alloc (.cells #[.int .i64 f, .int .i64 M, .int .i64 r] 29)
            have HX := H.out.nil tX
            have hX : (wr.alloc (.cells #[.int .i64 f, .int .i64 M, .int .i64 r] 29)).rowIs wr.heap.size 29 3 (lastC ⟨f, M, r⟩) := World.rowIs_alloc wr _ _ _ (fun i hi => by
              have hi : i < 3 := hi
              match i, hi with
              | 0, _ | 1, _ | 2, _ => rfl)
            have hOX : (wr.alloc (.cells #[.int .i64 f, .int .i64 M, .int .i64 r] 29)).ownsRow b2 3 1 u7 (expandR (L.take t)).length (ilist (expandR (L.take t))) := hO.out.alloc _
            have p0 : (wr.alloc (.cells #[.int .i64 f, .int .i64 M, .int .i64 r] 29)).cell? ⟨P, 0, none⟩ = some (.int .i64 xf) := World.rowIs.cell HX.hP (i := 0) (by omega)
            have p1 : (wr.alloc (.cells #[.int .i64 f, .int .i64 M, .int .i64 r] 29)).cell? ⟨P, 1, none⟩ = some (.int .i64 xn) := World.rowIs.cell HX.hP (i := 1) (by omega)
            have p2 : (wr.alloc (.cells #[.int .i64 f, .int .i64 M, .int .i64 r] 29)).cell? ⟨P, 2, none⟩ = some (.int .i64 xr) := World.rowIs.cell HX.hP (i := 2) (by omega)
            have oo := H.out.o
            have hXb : wr.heap.size ≠ P := by omega
            replace z2 : Hid _ := z2
            replace hne : Hid _ := hne
            replace y4 : Hid _ := y4
            replace hxn : Hid _ := hxn
            clear hx hxy hO H z1 hG tX
            go_upto_region 21 with fail
            go_cut [121] (fun v wx => v = .bool false ∧ wx = wr.alloc (.cells #[.int .i64 f, .int .i64 M, .int .i64 r] 29))
            case first =>
              rcases hne.out with e | ⟨e, e'⟩
              · go_wp2
                go_meet
                exact ⟨rfl, rfl⟩
              · go_wp2
                go_meet
                exact ⟨rfl, rfl⟩
            case rest =>
            obtain ⟨rfl, rfl⟩ := hcut
            have hlen := expandR_take L (t + 1)
            rw [hG256, eN, List.length_append, pagesR_len] at hlen
            have hlen2 := pgsA_len R 256
            have hEN : Hid _ := eN
            clear hne d1 d2 q3 c0 c1 c2 p0 p1 p2 eN hy hal
            generalize expandR (L.take t) = l0 at *
            generalize wr.alloc (.cells #[.int .i64 f, .int .i64 M, .int .i64 r] 29) = w4 at *
            generalize wr.heap.size = X at *
            obtain ⟨Fn, rfl⟩ : ∃ Fn : Nat, f = Fn := ⟨f.toNat, by omega⟩
            have f0 := World.rowIs.cell hX (i := 0) (by omega)
            replace f0 : w4.cell? ⟨X, 0, none⟩ = some (.int .i64 Fn) := f0
            go_wp2_with fail
            clear f0
            go_loopg [7, 11, 12, 13] M (fun gz v i c d wy => ∃ (q : Nat) (ii : Int), gz + q = M ∧ i = .int .i64 ii ∧ ii = (Fn : Int) + q ∧ Aside (wy.ownsRow b2 3 1 v (l0.length + q) (ilist (l0 ++ pagesR Fn q))) ∧ Aside (Hold w wy B P w2.heap.size b2 (some ⟨g, 0, none⟩) n capl L R ⟨xf, xn, xr⟩) ∧ Aside (wy.rowIs X 29 3 (lastC ⟨Fn, M, r⟩)))
            case atStart => exact ⟨0, Fn, by omega, rfl, by omega, (show World.ownsRow _ _ _ _ _ _ _ from by rw [pagesR, List.append_nil]; exact hOX), HX, hX⟩
            case round =>
              clear hOX HX hX
              obtain ⟨q, ii, hgq, rfl, hii, hO, H, hX⟩ := hrel
              have f0 := World.rowIs.cell hX.out (i := 0) (by omega)
              replace f0 : wr.cell? ⟨X, 0, none⟩ = some (.int .i64 Fn) := f0
              have f1 := World.rowIs.cell hX.out (i := 1) (by omega)
              replace f1 : wr.cell? ⟨X, 1, none⟩ = some (.int .i64 M) := f1
              have f2 := World.rowIs.cell hX.out (i := 2) (by omega)
              replace f2 : wr.cell? ⟨X, 2, none⟩ = some (.int .i64 r) := f2
              by_cases hql : q < M
              · have i1 : decide (ii < (Fn : Int) + M) = true := by simp; omega
                have i2 : IntKind.i64.wrap (ii + 1) = ii + 1 := by rw [IntKind.wrap_i64]; omega
                obtain ⟨r0, rr⟩ := y4.out (Fn + q) (by omega) (by omega)
                have r0' : 0 ≤ r := by omega
                have hR := rts_k H.out.hA ii (c := r) (t := true) (by rw [rtsA_yes (P := Fn + q) (by omega) (by omega), rt_of rr r0', rr, decide_eq_true r0']) (by omega)
                have eS : l0 ++ pagesR Fn (q + 1) = l0 ++ pagesR Fn q ++ [ii] := by rw [pagesR, ← List.append_assoc, hii]
                replace hii : Hid _ := hii
                clear y4 r0 rr
                go_wp2_with fail
                with_reducible refine hR.mono ?_
                rintro e w5 ⟨rfl, t5⟩
                have H5 := H.out.nil t5
                have f3 : w5.cell? ⟨X, 2, none⟩ = some (.int .i64 r) := World.rowIs.cell (t5.row hX.out (by simp [Nil])) (i := 2) (by omega)
                have hO5 := ownsRow_touch hO.out t5 (fun _ q => q.elim)
                obtain ⟨g', c', wN, hrun, hN, tN⟩ := app_int2 hO5 H5.o.2.2.2.2 (by omega) ii
                have HN : Aside (Hold w wN B P w2.heap.size b2 (some ⟨g, 0, none⟩) n capl L R ⟨xf, xn, xr⟩) := H5.far (tN.mono fun k _ e => (hO5.lt k e).1)
                have hXN : Aside (wN.rowIs X 29 3 (lastC ⟨Fn, M, r⟩)) := tN.row (t5.row hX.out (by simp [Nil])) (fun e => by
                  obtain ⟨c, hc⟩ := owns_kind hO5 X e
                  obtain ⟨cs, hcs, _⟩ := t5.row hX.out (by simp [Nil])
                  rw [hcs] at hc
                  cases hc)
                have hNN : Aside _ := hN
                clear hR hN tN H5 hO5 hO H hX f0 f1 f2 t5
                go_upto_region 29 with fail
                go_wp2_with (at_builtin; refine Lib.wpList_append_run_sl _ rfl _ _ 35 rfl _ _ rfl rfl hrun ?_)
                go_roundg (M - (q + 1))
                case measure => omega
                case rel => exact ⟨q + 1, ii + 1, by omega, rfl, by have := hii.out; omega, by rw [eS, ilist, List.map_append]; exact hNN, HN, hXN⟩
              · have e : q = M := by omega
                subst e
                have i1 : decide (ii < (Fn : Int) + q) = false := by simp; omega
                have HP := H.out.put ⟨Fn, q, r⟩
                have z0 := World.rowIs.frozen H.out.hP 0
                have z1 := World.rowIs.frozen H.out.hP 1
                have z2 := World.rowIs.frozen H.out.hP 2
                have p0 : wr.cell? ⟨P, 0, none⟩ = some (.int .i64 xf) := World.rowIs.cell H.out.hP (i := 0) (by omega)
                have p1 : wr.cell? ⟨P, 1, none⟩ = some (.int .i64 xn) := World.rowIs.cell H.out.hP (i := 1) (by omega)
                have p2 : wr.cell? ⟨P, 2, none⟩ = some (.int .i64 xr) := World.rowIs.cell H.out.hP (i := 2) (by omega)
                have tP : Touch (· = P) wr (((wr.setCell ⟨P, 0, none⟩ (.int .i64 Fn)).setCell ⟨P, 1, none⟩ (.int .i64 q)).setCell ⟨P, 2, none⟩ (.int .i64 r)) :=
                  (((Touch.refl (· = P) wr).setCell (p := ⟨P, 0, none⟩) rfl _).setCell (p := ⟨P, 1, none⟩) rfl _).setCell (p := ⟨P, 2, none⟩) rfl _
                have hOP : Aside ((((wr.setCell ⟨P, 0, none⟩ (.int .i64 Fn)).setCell ⟨P, 1, none⟩ (.int .i64 q)).setCell ⟨P, 2, none⟩ (.int .i64 r)).ownsRow b2 3 1 u7 (l0.length + q) (ilist (l0 ++ pagesR Fn q))) := ownsRow_touch hO.out tP (fun k e => by omega)
                have HPa : Aside _ := HP
                clear HP hO H hX tP y4
                go_wp2_with fail
                go_roundg (n - (t + 1))
                case measure => omega
                case rel => exact ⟨t + 1, ⟨Fn, q, r⟩, by omega, by go_num, by rw [hEN.out, List.length_append, pagesR_len]; exact hOP, HPa, (show _ ∧ _ from ⟨⟨by show (-9 : Int) ≤ Fn; omega, by show (Fn : Int) ≤ 256; omega, by show (0 : Int) ≤ q; omega, by show (q : Int) ≤ 256; omega⟩, hxn.out⟩)⟩
          · have e : t = n := by omega
            subst e
            have hOf := hO.out
            rw [List.take_of_length_le (by omega), hG256] at hOf
            have hA := H.out.hA
            have T := H.out.t
            have hlen2 := pgsA_len R 256
            obtain ⟨np, hnp⟩ : ∃ np, (pgsA R 256).length = np := ⟨_, rfl⟩
            rw [hnp] at hOf hlen2
            obtain ⟨ai, ci, rfl, _⟩ := owns_form hOf
            have hI := owns_ints hOf hnp
            have hPg := pages_k hA hnp
            clear hO H hx hG hG256 hOf hA hal
            go_wp2_with fail
            with_reducible refine hPg.mono ?_
            rintro e w6 ⟨a6, c6, rfl, hI6, t6, _, _⟩
            have hS := isame_any hI6 (hI.touch t6) np hnp (by omega) c6 ci
            have T6 := T.trans t6
            clear hPg hI hI6 t6 T
            go_wp2_with fail
            with_reducible refine hS.mono ?_
            rintro e w7 ⟨rfl, t7⟩
            have T7 := T6.trans t7
            clear hS T6 t7
            go_wp2_with fail
            with_reducible refine (wakes12 _).mono ?_
            rintro e w8 ⟨rfl, t8⟩
            have T8 := T7.trans t8
            clear T7 t8
            go_wp2_with fail
            go_ret
            exact ⟨rfl, T8⟩
end Go.Proofs.Ytehdaiagkonekaa
