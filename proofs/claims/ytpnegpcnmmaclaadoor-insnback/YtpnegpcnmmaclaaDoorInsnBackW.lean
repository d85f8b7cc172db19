/-
  The law InsnBack, walked.
-/
import Derived.Test.YtpnegpcnmmaclaaDoorInsnO
import Derived.Test.YtpnegpcnmmaclaaDoorInsnUnlikeW
import Derived.Test.YtpnegpcnmmaclaaDoorSlices
import Derived.Deep.RegionHeld3
import Derived.Deep.DeepCutAuto
import Derived.Deep.CutBlock
namespace Go.Proofs.YtpnegpcnmmaclaaDoor
open Go.ChangeShapes Go.WideShapes Go.ChangeAt Go.RowKit

theorem codeT_len : ∀ (l : List Ins), (∀ x ∈ l, okP x = true) → (codeT l).length ≤ l.length * 1001
  | [], _ => by simp [codeT]
  | x :: l, h => by
    have := pr_len x (h x (List.mem_cons_self ..))
    have ih := codeT_len l (fun y hy => h y (List.mem_cons_of_mem _ hy))
    simp [codeT] at ih ⊢; omega
theorem code_b (s : ByteArray) {l : List UInt8} {r : List Ins × Nat} (h : s.data.toList = l) (hr : codeP l = r) (hs : l.length ≤ 1000000) (w : World) (hV : Vs w) :
    Calls Tryd.prog 7 #[.string s] w fun e w' => CodeEnd w r e w' := by
  subst hr; subst h
  have := code_l s.data.toList hs w hV
  rwa [mk_toList] at this
theorem put4 {w : World} {X : Nat} {v0 v1 v2 v3 : Value} {t : TypeId} (h : w.heap[X]? = some (.cells #[v0, v1, v2, v3] t (0, 0))) (x : Ins) :
    X4 X x.op x.a x.b x.n ((((w.setCell ⟨X, 0, none⟩ (.int .i64 x.op)).setCell ⟨X, 1, none⟩ (.int .i64 x.a)).setCell ⟨X, 2, none⟩ (.int .i64 x.b)).setCell ⟨X, 3, none⟩ (.int .i64 x.n)) := by
  have h1 := set_block h 0 (.int .i64 x.op)
  have h2 := set_block h1 1 (.int .i64 x.a)
  have h3 := set_block h2 2 (.int .i64 x.b)
  have h4 := set_block h3 3 (.int .i64 x.n)
  refine ⟨?_, ?_, ?_, ?_, lt_of_block h4⟩ <;> simp [World.cell?, h4]

set_option maxRecDepth 20000 in
set_option maxHeartbeats 4000000 in
theorem insnBack_walk (a0 : Option Addr) (len0 cap0 : Nat) (z0 : List Int) (a1 : Option Addr) (len1 cap1 : Nat) (z1 : List Int) (a2 : Option Addr) (len2 cap2 : Nat) (z2 : List Int) (a3 : Option Addr) (len3 cap3 : Nat) (z3 : List Int) (w : World)
    (w0 : Row .i64 w a0 len0 cap0 z0) (w1 : Row .i64 w a1 len1 cap1 z1) (w2 : Row .i64 w a2 len2 cap2 z2) (w3 : Row .i64 w a3 len3 cap3 z3) (hV : Vs w) :
    Calls Tryd.prog 4 #[.slice a0 len0 cap0, .slice a1 len1 cap1, .slice a2 len2 cap2, .slice a3 len3 cap3] w fun e w' => e = .returned (.bool true) ∧ Below w.heap.size w w' := by
  obtain ⟨m0, q0⟩ := w0.plain
  obtain ⟨m1, q1⟩ := w1.plain
  obtain ⟨m2, q2⟩ := w2.plain
  obtain ⟨m3, q3⟩ := w3.plain
  clear w0 w1 w2 w3
  go_enter Tryd.func4, Tryd.ntmps4
  obtain ⟨K, hK0, hK1, hK2, hK3, hK24, hKm⟩ : ∃ K : Nat, K ≤ len0 ∧ K ≤ len1 ∧ K ≤ len2 ∧ K ≤ len3 ∧ K ≤ 24 ∧ (K = len0 ∨ K = len1 ∨ K = len2 ∨ K = len3 ∨ K = 24) := ⟨min (min (min len0 len1) (min len2 len3)) 24, by omega, by omega, by omega, by omega, by omega, by omega⟩
  go_upto_block 0 with fail
  go_cut [9, 10, 11] (fun v tv _ wx => ∃ (a : Option Addr) (cap : Nat) (acc : List Ins), v = .slice a acc.length cap ∧ tv = .string ⟨(codeT acc).toArray⟩ ∧ acc.length ≤ 24 ∧ Hid (∀ x ∈ acc, okP x = true) ∧ IsL wx a acc ∧ Below w.heap.size w wx)
  case first =>
    go_wp2_with fail
    go_loopg [9, 10, 11] K (fun g v tv i wr => ∃ (k : Nat) (a : Option Addr) (cap : Nat) (acc : List Ins), g + k = K ∧ i = .int .i64 k ∧ v = .slice a acc.length cap ∧ tv = .string ⟨(codeT acc).toArray⟩ ∧ Hid (acc.length = k) ∧ Hid (∀ x ∈ acc, okP x = true) ∧ wr.ownsRow w.heap.size 32 4 (.slice a acc.length cap) acc.length (flatI acc) ∧ Below w.heap.size w wr)
    case atStart => exact ⟨0, none, 0, [], by omega, rfl, rfl, rfl, rfl, fun x hx => by simp at hx, World.ownsRow_nil _ _ _ _, Below.refl _ _⟩
    case round =>
      obtain ⟨k, a, cap, acc, hg, rfl, rfl, rfl, hk, hok, hown, hB⟩ := hrel
      by_cases hlt : k < K
      · have i0 : (k : Int) < (len0 : Int) := by omega
        have i1 : (k : Int) < (len1 : Int) := by omega
        have i2 : (k : Int) < (len2 : Int) := by omega
        have i3 : (k : Int) < (len3 : Int) := by omega
        have i4 : (k : Int) < 24 := by omega
        have hV' := hV.later hB
        obtain ⟨b0, o0, rfl, l0, r0⟩ := q0.resolve_left (by omega)
        obtain ⟨b1, o1, rfl, l1, r1⟩ := q1.resolve_left (by omega)
        obtain ⟨b2, o2, rfl, l2, r2⟩ := q2.resolve_left (by omega)
        obtain ⟨b3, o3, rfl, l3, r3⟩ := q3.resolve_left (by omega)
        have c0 := (hB.cell (p := ⟨b0, o0 + k, none⟩) l0).trans (r0 k (by omega)).1
        have c1 := (hB.cell (p := ⟨b1, o1 + k, none⟩) l1).trans (r1 k (by omega)).1
        have c2 := (hB.cell (p := ⟨b2, o2 + k, none⟩) l2).trans (r2 k (by omega)).1
        have c3 := (hB.cell (p := ⟨b3, o3 + k, none⟩) l3).trans (r3 k (by omega)).1
        generalize z0.getD k 0 = y0 at c0
        generalize z1.getD k 0 = y1 at c1
        generalize z2.getD k 0 = y2 at c2
        generalize z3.getD k 0 = y3 at c3
        clear q0 q1 q2 q3 r0 r1 r2 r3
        go_upto_region 6 with fail
        have hp := play_any y0 y1 y2 y3 0
        have hpk := play0_ok y0 y1 y2 y3 0 (by decide)
        generalize playP y0 y1 y2 y3 0 = x at hp hpk
        have cs : wr.cell? ⟨b0, o0 + k, none⟩ = some (.int .i64 y0) ∧ wr.cell? ⟨b1, o1 + k, none⟩ = some (.int .i64 y1) ∧ wr.cell? ⟨b2, o2 + k, none⟩ = some (.int .i64 y2) ∧ wr.cell? ⟨b3, o3 + k, none⟩ = some (.int .i64 y3) := ⟨c0, c1, c2, c3⟩
        have cd : ∀ o, (wr.alloc o).cell? ⟨b0, o0 + k, none⟩ = some (.int .i64 y0) ∧ (wr.alloc o).cell? ⟨b1, o1 + k, none⟩ = some (.int .i64 y1) ∧ (wr.alloc o).cell? ⟨b2, o2 + k, none⟩ = some (.int .i64 y2) ∧ (wr.alloc o).cell? ⟨b3, o3 + k, none⟩ = some (.int .i64 y3) := fun o => by
          have b := (Below.refl wr.heap.size wr).alloc (Nat.le_refl _) o
          exact ⟨(b.cell (lt_of_cell c0)).trans c0, (b.cell (lt_of_cell c1)).trans c1, (b.cell (lt_of_cell c2)).trans c2, (b.cell (lt_of_cell c3)).trans c3⟩
        have cl : ∀ wx, Below wr.heap.size wr wx → wx.cell? ⟨b0, o0 + k, none⟩ = some (.int .i64 y0) ∧ wx.cell? ⟨b1, o1 + k, none⟩ = some (.int .i64 y1) ∧ wx.cell? ⟨b2, o2 + k, none⟩ = some (.int .i64 y2) ∧ wx.cell? ⟨b3, o3 + k, none⟩ = some (.int .i64 y3) := fun wx b =>
          ⟨(b.cell (lt_of_cell c0)).trans c0, (b.cell (lt_of_cell c1)).trans c1, (b.cell (lt_of_cell c2)).trans c2, (b.cell (lt_of_cell c3)).trans c3⟩
        clear c0 c1 c2 c3
        go_cut [12] (fun p wx => ∃ X x, p = .pointer (some ⟨X, 0, none⟩) ∧ okP x = true ∧ X4 X x.op x.a x.b x.n wx ∧ wx.ownsRow w.heap.size 32 4 (.slice a acc.length cap) acc.length (flatI acc) ∧ Below w.heap.size w wx)
        have hpA : Calls Tryd.prog 14 #[.int .i64 y0, .int .i64 y1, .int .i64 y2, .int .i64 y3, .int .i64 0] wr.drew fun e wq => e = .returned (insV x) ∧ Below wr.heap.size wr wq := by
          refine (hp _).mono ?_
          rintro e wq ⟨hx, bq⟩
          exact ⟨hx, (Below.refl wr.heap.size wr).drew.trans bq⟩
        have hpB : Calls Tryd.prog 14 #[.int .i64 y0, .int .i64 y1, .int .i64 y2, .int .i64 y3, .int .i64 0] (wr.alloc (.cells #[.int .i64 0, .int .i64 0, .int .i64 0, .int .i64 0] 32)).drew fun e wq => e = .returned (insV x) ∧ Below wr.heap.size wr wq ∧ wq.heap[wr.heap.size]? = some (.cells #[.int .i64 0, .int .i64 0, .int .i64 0, .int .i64 0] 32 (0, 0)) := by
          refine (hp _).mono ?_
          rintro e wq ⟨hx, bq⟩
          refine ⟨hx, ((Below.refl wr.heap.size wr).alloc (Nat.le_refl _) (.cells #[.int .i64 0, .int .i64 0, .int .i64 0, .int .i64 0] 32)).drew.trans (bq.mono (by show wr.heap.size ≤ (wr.alloc (.cells #[.int .i64 0, .int .i64 0, .int .i64 0, .int .i64 0] 32)).heap.size; simp)), ?_⟩
          have := bq.block wr.heap.size (by show wr.heap.size < (wr.alloc (.cells #[.int .i64 0, .int .i64 0, .int .i64 0, .int .i64 0] 32)).heap.size; simp)
          exact this.trans (heap_alloc_new wr (.cells #[.int .i64 0, .int .i64 0, .int .i64 0, .int .i64 0] 32))
        clear hp
        have cw := cs
        have csd : wr.drew.cell? ⟨b0, o0 + k, none⟩ = some (.int .i64 y0) ∧ wr.drew.cell? ⟨b1, o1 + k, none⟩ = some (.int .i64 y1) ∧ wr.drew.cell? ⟨b2, o2 + k, none⟩ = some (.int .i64 y2) ∧ wr.drew.cell? ⟨b3, o3 + k, none⟩ = some (.int .i64 y3) := cs
        have cdd : ∀ o, (wr.alloc o).drew.cell? ⟨b0, o0 + k, none⟩ = some (.int .i64 y0) ∧ (wr.alloc o).drew.cell? ⟨b1, o1 + k, none⟩ = some (.int .i64 y1) ∧ (wr.alloc o).drew.cell? ⟨b2, o2 + k, none⟩ = some (.int .i64 y2) ∧ (wr.alloc o).drew.cell? ⟨b3, o3 + k, none⟩ = some (.int .i64 y3) := cd
        have cq := cs
        have cqd := cd
        case first =>
          go_region_held3 (fun wx => wx.cell? ⟨b0, o0 + k, none⟩ = some (.int .i64 y0) ∧ wx.cell? ⟨b1, o1 + k, none⟩ = some (.int .i64 y1) ∧ wx.cell? ⟨b2, o2 + k, none⟩ = some (.int .i64 y2) ∧ wx.cell? ⟨b3, o3 + k, none⟩ = some (.int .i64 y3)) (first | with_reducible exact csd | with_reducible exact cs | with_reducible exact cdd _ | with_reducible exact cd _ | with_reducible exact cq | with_reducible exact cqd _ | with_reducible exact cw)
            (first
              | (go_at_call 14; with_reducible refine hpA.mono ?_; rintro e wq ⟨hx, bw⟩; subst hx; unfold insV; have cq := cl wq bw; have cqd : ∀ o, (wq.alloc o).cell? ⟨b0, o0 + k, none⟩ = some (.int .i64 y0) ∧ (wq.alloc o).cell? ⟨b1, o1 + k, none⟩ = some (.int .i64 y1) ∧ (wq.alloc o).cell? ⟨b2, o2 + k, none⟩ = some (.int .i64 y2) ∧ (wq.alloc o).cell? ⟨b3, o3 + k, none⟩ = some (.int .i64 y3) := fun o => cl _ (bw.alloc bw.size o))
              | (go_at_call 14; with_reducible refine hpB.mono ?_; rintro e wq ⟨hx, bw, hX⟩; subst hx; unfold insV; have cq := cl wq bw; have cw : ((((wq.setCell ⟨wr.heap.size, 0, none⟩ (.int .i64 x.op)).setCell ⟨wr.heap.size, 1, none⟩ (.int .i64 x.a)).setCell ⟨wr.heap.size, 2, none⟩ (.int .i64 x.b)).setCell ⟨wr.heap.size, 3, none⟩ (.int .i64 x.n)).cell? ⟨b0, o0 + k, none⟩ = some (.int .i64 y0) ∧ ((((wq.setCell ⟨wr.heap.size, 0, none⟩ (.int .i64 x.op)).setCell ⟨wr.heap.size, 1, none⟩ (.int .i64 x.a)).setCell ⟨wr.heap.size, 2, none⟩ (.int .i64 x.b)).setCell ⟨wr.heap.size, 3, none⟩ (.int .i64 x.n)).cell? ⟨b1, o1 + k, none⟩ = some (.int .i64 y1) ∧ ((((wq.setCell ⟨wr.heap.size, 0, none⟩ (.int .i64 x.op)).setCell ⟨wr.heap.size, 1, none⟩ (.int .i64 x.a)).setCell ⟨wr.heap.size, 2, none⟩ (.int .i64 x.b)).setCell ⟨wr.heap.size, 3, none⟩ (.int .i64 x.n)).cell? ⟨b2, o2 + k, none⟩ = some (.int .i64 y2) ∧ ((((wq.setCell ⟨wr.heap.size, 0, none⟩ (.int .i64 x.op)).setCell ⟨wr.heap.size, 1, none⟩ (.int .i64 x.a)).setCell ⟨wr.heap.size, 2, none⟩ (.int .i64 x.b)).setCell ⟨wr.heap.size, 3, none⟩ (.int .i64 x.n)).cell? ⟨b3, o3 + k, none⟩ = some (.int .i64 y3) := cl _ ((((bw.setCell (p := ⟨wr.heap.size, 0, none⟩) (Nat.le_refl _) _).setCell (p := ⟨wr.heap.size, 1, none⟩) (Nat.le_refl _) _).setCell (p := ⟨wr.heap.size, 2, none⟩) (Nat.le_refl _) _).setCell (p := ⟨wr.heap.size, 3, none⟩) (Nat.le_refl _) _); obtain ⟨v0, v1, v2, v3, vz⟩ := four_cells hX))
          · go_wp2
            go_meet
            have hX4 := copy_cells (Below.refl _ (wq.alloc (.cells #[.int .i64 x.op, .int .i64 x.a, .int .i64 x.b, .int .i64 x.n] 32)))
            have bx : Below wr.heap.size wr (wq.alloc (.cells #[.int .i64 x.op, .int .i64 x.a, .int .i64 x.b, .int .i64 x.n] 32)) := bw.alloc bw.size _
            exact ⟨wq.heap.size, x, rfl, hpk, ⟨hX4.1, hX4.2.1, hX4.2.2.1, hX4.2.2.2.1, hX4.2.2.2.2⟩, own_later hown bx, hB.trans (bx.mono hB.size)⟩
          · go_wp2
            go_meet
            have bx := ((((bw.setCell (p := ⟨wr.heap.size, 0, none⟩) (Nat.le_refl _) (.int .i64 x.op)).setCell (p := ⟨wr.heap.size, 1, none⟩) (Nat.le_refl _) (.int .i64 x.a)).setCell (p := ⟨wr.heap.size, 2, none⟩) (Nat.le_refl _) (.int .i64 x.b)).setCell (p := ⟨wr.heap.size, 3, none⟩) (Nat.le_refl _) (.int .i64 x.n))
            exact ⟨wr.heap.size, x, rfl, hpk, put4 hX x, own_later hown bx, hB.trans (bx.mono hB.size)⟩
        case rest =>
        obtain ⟨X, x, rfl, hxk, hX, hown, hB⟩ := hcut
        have V1 := hV.later hB
        have hpl := pr_len x hxk
        obtain ⟨x0, x1, x2, x3, hN⟩ := id hX
        go_wp2_with fail
        clear x0 x1 x2 x3 hN
        refine (print_ok x _ V1 hxk).mono ?_
        rintro e w2 ⟨rfl, b2⟩
        have V2 := V1.later b2
        have X2 := hX.later b2
        have own2 := own_later hown b2
        have B2 := hB.trans (b2.mono hB.size)
        go_wp2_with fail
        refine (parse_l (prP x) (by omega) _ V2).mono ?_
        rintro e w3 ⟨rfl, b3⟩
        rw [parseV_some (parse_pr x hxk)]
        unfold insV
        have V3 := V2.later b3
        have b3y := ((Below.refl _ w3).alloc (Nat.le_refl _) (.cells #[.int .i64 x.op, .int .i64 x.a, .int .i64 x.b, .int .i64 x.n] 32))
        have X3 := (X2.later b3).later b3y
        have own3 := own_later (own_later own2 b3) b3y
        have B3' := B2.trans (b3.mono B2.size)
        have B3 := B3'.trans (b3y.mono B3'.size)
        obtain ⟨x0, x1, x2, x3, hN⟩ := id X3
        go_upto_region 11 with fail
        obtain ⟨g, c, wN, hrun, hownN, bN⟩ := app_any (own_later own2 b3) B3'.size (by have := hk.out; omega) x (.cells #[.int .i64 x.op, .int .i64 x.a, .int .i64 x.b, .int .i64 x.n] 32)
        have hlt2 : (codeT acc).length ≤ 50000 := by
          have := codeT_len acc hok.out; have := hk.out; omega
        clear own3 B3
        go_wp2_with (refine Lib.wpList_append_run_sl _ rfl _ _ 24 rfl _ _ rfl rfl hrun ?_)
        go_roundg (K - (k + 1))
        case measure => omega
        case rel =>
          refine ⟨k + 1, some ⟨g, 0, none⟩, c, acc ++ [x], by omega, by go_num, by simp, ?_, ?_, ?_, hownN, B3'.trans bN⟩
          · refine congrArg Value.string (ext_toList ?_)
            simp [codeT]
          · show _ = _
            have := hk.out; simp; omega
          · intro y hy
            rcases List.mem_append.1 hy with hy | hy
            · exact hok.out y hy
            · simp at hy; subst hy; exact hxk
      · have hkK : k = K := by omega
        have V1 := hV.later hB
        have hex : (¬ ((k : Int) < (len0 : Int))) ∨ (((k : Int) < (len0 : Int)) ∧ ¬ ((k : Int) < (len1 : Int))) ∨ (((k : Int) < (len0 : Int)) ∧ ((k : Int) < (len1 : Int)) ∧ ¬ ((k : Int) < (len2 : Int))) ∨ (((k : Int) < (len0 : Int)) ∧ ((k : Int) < (len1 : Int)) ∧ ((k : Int) < (len2 : Int)) ∧ ¬ ((k : Int) < (len3 : Int))) ∨ (((k : Int) < (len0 : Int)) ∧ ((k : Int) < (len1 : Int)) ∧ ((k : Int) < (len2 : Int)) ∧ ((k : Int) < (len3 : Int)) ∧ ¬ ((k : Int) < 24)) := by omega
        have hIs := IsL.own hown
        clear q0 q1 q2 q3 hKm hK0 hK1 hK2 hK3
        rcases hex with h0 | ⟨h0, h1⟩ | ⟨h0, h1, h2⟩ | ⟨h0, h1, h2, h3⟩ | ⟨h0, h1, h2, h3, h4⟩
        all_goals
          go_wp2_with fail
          go_meet
          exact ⟨a, cap, acc, rfl, rfl, by have := hk.out; omega, hok, hIs, hB⟩
  case rest =>
    obtain ⟨a, cap, acc, rfl, rfl, h24, hok, hI, hB⟩ := hcut
    have V1 := hV.later hB
    have hlt2 : (codeT acc).length ≤ 50000 := by
      have := codeT_len acc hok.out; omega
    go_wp2_with fail
    refine (code_l (codeT acc) (by omega) _ V1).mono ?_
    rintro e w1 ⟨am, cm, rfl, hom, b1⟩
    have hI1 := hI.later b1
    have V2 := V1.later b1
    have B1 := hB.trans (b1.mono hB.size)
    have hIm := IsL.own hom
    by_cases hnil : acc = []
    · subst hnil
      rw [show codeT [] = [] from rfl, codeP_nil]
      go_wp2_with fail
      refine (wakes7 _ V2).mono ?_
      rintro e w2 ⟨rfl, b2⟩
      go_wp2_with fail
      go_ret
      exact ⟨rfl, B1.trans (b2.mono B1.size)⟩
    · have hp : 1 ≤ acc.length := List.length_pos_iff.2 hnil
      have hl0 : ((acc.length : Int) == 0) = false := by rw [beq_eq_false_iff_ne]; omega
      rw [codeP_ok acc hok.out hnil h24] at hIm ⊢
      clear hom
      go_wp2_with fail
      refine (same_eq hI1 hIm (by omega)).mono ?_
      rintro e w2 ⟨rfl, b2⟩
      have V3 := V2.later b2
      have B2 := B1.trans (b2.mono B1.size)
      go_wp2_with fail
      refine (code_b _ (l := codeT acc ++ [119, 104, 97, 116, 10]) (by simp) (codeP_more acc hok.out h24) (by simp; omega) _ V3).mono ?_
      rintro e w3 ⟨a3', c3', rfl, _, b3⟩
      have V4 := V3.later b3
      have B3 := B2.trans (b3.mono B2.size)
      have hTl : 1 ≤ (codeT acc).length := by
        obtain ⟨x, r, rfl⟩ := List.exists_cons_of_ne_nil hnil
        simp [codeT]; omega
      have hT1 : (0 : Int) ≤ ((codeT acc).length : Int) - 1 := by omega
      go_wp2_with fail
      refine (code_b _ (l := (codeT acc).take ((codeT acc).length - 1)) (by rw [Lib.extract_data]; simp; try omega) (codeP_less acc hok.out hnil h24) (by simp; omega) _ V4).mono ?_
      rintro e w4 ⟨a4', c4', rfl, _, b4⟩
      have V5 := V4.later b4
      have B4 := B3.trans (b4.mono B3.size)
      go_wp2_with fail
      refine (code_b _ (l := [115, 101, 116, 32, 114, 48, 32, 49, 10, 97, 100, 100, 32, 114, 49, 10] ++ codeT acc) (by simp) (codeP_front (codeT acc)) (by simp; omega) _ V5).mono ?_
      rintro e w5 ⟨a5', c5', rfl, _, b5⟩
      have V6 := V5.later b5
      have B5 := B4.trans (b5.mono B4.size)
      go_wp2_with fail
      refine (wakes7 _ V6).mono ?_
      rintro e w6 ⟨rfl, b6⟩
      go_wp2_with fail
      go_ret
      exact ⟨rfl, B5.trans (b6.mono B5.size)⟩
end Go.Proofs.YtpnegpcnmmaclaaDoor
