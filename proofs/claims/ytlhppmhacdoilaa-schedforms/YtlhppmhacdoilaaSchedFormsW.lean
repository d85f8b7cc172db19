/-
  The walk of SchedForms (written by tools/gen/sf.py).
-/
import Derived.Test.YtlhppmhacdoilaaSchE
import Derived.LoopN
namespace Go.Proofs.Ytlhppmhacdoilaa
open Go.ChangeShapes Go.WideShapes Go.ChangeAt Go.RowKit

def sf0 : Sd := ⟨true, false, false, false, false, 3, 3, false, false⟩
def sf1 : Sd := ⟨true, true, false, false, false, 3, 3, false, false⟩
def sf2 : Sd := ⟨true, true, true, false, false, 3, 3, false, false⟩
def sf3 : Sd := ⟨true, true, true, true, false, 3, 3, false, false⟩
def sf4 : Sd := ⟨true, true, true, true, true, 3, 3, false, false⟩
def sf5 : Sd := ⟨true, true, true, true, true, 0, 3, true, false⟩
def sf6 : Sd := ⟨true, true, true, true, true, 0, 1, true, true⟩
def sf7 : Sd := ⟨true, true, true, true, true, 2, 1, true, true⟩
def sf8 : Sd := ⟨true, true, true, true, true, 2, 3, true, true⟩
def sf9 : Sd := ⟨true, true, true, true, true, 2, 0, true, true⟩
def sf10 : Sd := ⟨true, true, true, true, true, 3, 0, true, true⟩
def sf11 : Sd := ⟨true, true, true, true, false, 3, 0, false, true⟩
def sf12 : Sd := ⟨true, true, true, true, false, 1, 0, true, true⟩
def sf13 : Sd := ⟨true, true, false, true, false, 1, 0, false, true⟩
def sf14 : Sd := ⟨true, false, false, true, false, 1, 0, false, false⟩
def sf15 : Sd := ⟨true, false, false, true, false, 1, 2, false, true⟩
def sf16 : Sd := ⟨true, false, false, true, true, 1, 2, false, true⟩
def sf17 : Sd := ⟨true, false, false, true, true, 3, 2, true, true⟩
set_option maxRecDepth 20000 in
set_option maxHeartbeats 8000000 in
theorem schedForms_walk (a0 : Int) (w : World) :
    Calls Try.prog 3 #[.int .i64 a0] w fun e w' => e = .returned (.bool true) ∧ Touch Nil w w' := by
  go_enter Try.func3, Try.ntmps3
  go_wp2_with fail
  with_reducible refine (sdNew_any 2 w).mono ?_
  rintro e w1 ⟨rfl, h1, T1, s1⟩
  rw [show Sd.fresh (decide ((2 : Int) ≤ 2)) = sf0 by decide] at h1
  go_wp2_with fail
  refine wp_loop_rounds 5 ?_
  rw [rounds_succ]
  have p2 := sdWake_any h1 0
  rw [show sf0.wakes 0 = true by decide, show sf0.wake 0 = sf1 by decide] at p2
  go_wp2_with fail
  with_reducible refine p2.mono ?_
  rintro e w2 ⟨rfl, h2, t2⟩
  have T2 := T1.transNew t2 (fun i hi e => sdB_new hi (by omega) (by omega) e)
  clear p2 h1 t2 T1
  have p3 := sdWake_any h2 0
  rw [show sf1.wakes 0 = false by decide, show sf1.wake 0 = sf1 by decide] at p3
  go_wp2_with fail
  with_reducible refine p3.mono ?_
  rintro e w3 ⟨rfl, h3, t3⟩
  have T3 := T2.transNew t3 (fun i hi e => sdB_new hi (by omega) (by omega) e)
  clear p3 h2 t3 T2
  go_wp2_with fail
  rw [rounds_succ]
  have p4 := sdWake_any h3 1
  rw [show sf1.wakes 1 = true by decide, show sf1.wake 1 = sf2 by decide] at p4
  go_wp2_with fail
  with_reducible refine p4.mono ?_
  rintro e w4 ⟨rfl, h4, t4⟩
  have T4 := T3.transNew t4 (fun i hi e => sdB_new hi (by omega) (by omega) e)
  clear p4 h3 t4 T3
  have p5 := sdWake_any h4 1
  rw [show sf2.wakes 1 = false by decide, show sf2.wake 1 = sf2 by decide] at p5
  go_wp2_with fail
  with_reducible refine p5.mono ?_
  rintro e w5 ⟨rfl, h5, t5⟩
  have T5 := T4.transNew t5 (fun i hi e => sdB_new hi (by omega) (by omega) e)
  clear p5 h4 t5 T4
  go_wp2_with fail
  rw [rounds_succ]
  have p6 := sdWake_any h5 2
  rw [show sf2.wakes 2 = true by decide, show sf2.wake 2 = sf3 by decide] at p6
  go_wp2_with fail
  with_reducible refine p6.mono ?_
  rintro e w6 ⟨rfl, h6, t6⟩
  have T6 := T5.transNew t6 (fun i hi e => sdB_new hi (by omega) (by omega) e)
  clear p6 h5 t6 T5
  have p7 := sdWake_any h6 2
  rw [show sf3.wakes 2 = false by decide, show sf3.wake 2 = sf3 by decide] at p7
  go_wp2_with fail
  with_reducible refine p7.mono ?_
  rintro e w7 ⟨rfl, h7, t7⟩
  have T7 := T6.transNew t7 (fun i hi e => sdB_new hi (by omega) (by omega) e)
  clear p7 h6 t7 T6
  go_wp2_with fail
  rw [rounds_succ]
  have p8 := sdWake_any h7 3
  rw [show sf3.wakes 3 = true by decide, show sf3.wake 3 = sf4 by decide] at p8
  go_wp2_with fail
  with_reducible refine p8.mono ?_
  rintro e w8 ⟨rfl, h8, t8⟩
  have T8 := T7.transNew t8 (fun i hi e => sdB_new hi (by omega) (by omega) e)
  clear p8 h7 t8 T7
  have p9 := sdWake_any h8 3
  rw [show sf4.wakes 3 = false by decide, show sf4.wake 3 = sf4 by decide] at p9
  go_wp2_with fail
  with_reducible refine p9.mono ?_
  rintro e w9 ⟨rfl, h9, t9⟩
  have T9 := T8.transNew t9 (fun i hi e => sdB_new hi (by omega) (by omega) e)
  clear p9 h8 t9 T8
  go_wp2_with fail
  rw [rounds_succ]
  have p10 := sdPick_any h9 0
  rw [show sf4.pick 0 = 0 by decide, show sf4.picked 0 = sf5 by decide] at p10
  go_wp2_with fail
  with_reducible refine p10.mono ?_
  rintro e w10 ⟨rfl, h10, t10⟩
  have T10 := T9.transNew t10 (fun i hi e => sdB_new hi (by omega) (by omega) e)
  clear p10 h9 t10 T9
  have p11 := sdPick_any h10 1
  rw [show sf5.pick 1 = 1 by decide, show sf5.picked 1 = sf6 by decide] at p11
  go_wp2_with fail
  with_reducible refine p11.mono ?_
  rintro e w11 ⟨rfl, h11, t11⟩
  have T11 := T10.transNew t11 (fun i hi e => sdB_new hi (by omega) (by omega) e)
  clear p11 h10 t11 T10
  have p12 := sdPick_any h11 0
  rw [show sf6.pick 0 = 2 by decide, show sf6.picked 0 = sf7 by decide] at p12
  go_wp2_with fail
  with_reducible refine p12.mono ?_
  rintro e w12 ⟨rfl, h12, t12⟩
  have T12 := T11.transNew t12 (fun i hi e => sdB_new hi (by omega) (by omega) e)
  clear p12 h11 t12 T11
  have p13 := sdPick_any h12 1
  rw [show sf7.pick 1 = 3 by decide, show sf7.picked 1 = sf8 by decide] at p13
  go_wp2_with fail
  with_reducible refine p13.mono ?_
  rintro e w13 ⟨rfl, h13, t13⟩
  have T13 := T12.transNew t13 (fun i hi e => sdB_new hi (by omega) (by omega) e)
  clear p13 h12 t13 T12
  have p14 := sdPick_any h13 1
  rw [show sf8.pick 1 = 0 by decide, show sf8.picked 1 = sf9 by decide] at p14
  go_wp2_with fail
  with_reducible refine p14.mono ?_
  rintro e w14 ⟨rfl, h14, t14⟩
  have T14 := T13.transNew t14 (fun i hi e => sdB_new hi (by omega) (by omega) e)
  clear p14 h13 t14 T13
  have p15 := sdPick_any h14 0
  rw [show sf9.pick 0 = 3 by decide, show sf9.picked 0 = sf10 by decide] at p15
  go_wp2_with fail
  with_reducible refine p15.mono ?_
  rintro e w15 ⟨rfl, h15, t15⟩
  have T15 := T14.transNew t15 (fun i hi e => sdB_new hi (by omega) (by omega) e)
  clear p15 h14 t15 T14
  have q := sdWhere_any h15 3
  rw [show sf10.wh 3 = 0 by decide] at q
  go_wp2_with fail
  with_reducible refine q.mono ?_
  rintro e wq ⟨rfl, rfl⟩
  clear q
  have q := sdWhere_any h15 2
  rw [show sf10.wh 2 = (-1) by decide] at q
  go_wp2_with fail
  with_reducible refine q.mono ?_
  rintro e wq ⟨rfl, rfl⟩
  clear q
  have p16 := sdEnd_any h15 3
  rw [show sf10.lives 3 = true by decide, show sf10.fin 3 = sf11 by decide] at p16
  go_wp2_with fail
  with_reducible refine p16.mono ?_
  rintro e w16 ⟨rfl, h16, t16⟩
  have T16 := T15.transNew t16 (fun i hi e => sdB_new hi (by omega) (by omega) e)
  clear p16 h15 t16 T15
  have p17 := sdEnd_any h16 3
  rw [show sf11.lives 3 = false by decide, show sf11.fin 3 = sf11 by decide] at p17
  go_wp2_with fail
  with_reducible refine p17.mono ?_
  rintro e w17 ⟨rfl, h17, t17⟩
  have T17 := T16.transNew t17 (fun i hi e => sdB_new hi (by omega) (by omega) e)
  clear p17 h16 t17 T16
  have q := sdOn_any h17 0
  rw [show sf11.on 0 = (-1) by decide] at q
  go_wp2_with fail
  with_reducible refine q.mono ?_
  rintro e wq ⟨rfl, rfl⟩
  clear q
  have p18 := sdPick_any h17 0
  rw [show sf11.pick 0 = 1 by decide, show sf11.picked 0 = sf12 by decide] at p18
  go_wp2_with fail
  with_reducible refine p18.mono ?_
  rintro e w18 ⟨rfl, h18, t18⟩
  have T18 := T17.transNew t18 (fun i hi e => sdB_new hi (by omega) (by omega) e)
  clear p18 h17 t18 T17
  have p19 := sdEnd_any h18 1
  rw [show sf12.lives 1 = true by decide, show sf12.fin 1 = sf13 by decide] at p19
  go_wp2_with fail
  with_reducible refine p19.mono ?_
  rintro e w19 ⟨rfl, h19, t19⟩
  have T19 := T18.transNew t19 (fun i hi e => sdB_new hi (by omega) (by omega) e)
  clear p19 h18 t19 T18
  have p20 := sdEnd_any h19 0
  rw [show sf13.lives 0 = true by decide, show sf13.fin 0 = sf14 by decide] at p20
  go_wp2_with fail
  with_reducible refine p20.mono ?_
  rintro e w20 ⟨rfl, h20, t20⟩
  have T20 := T19.transNew t20 (fun i hi e => sdB_new hi (by omega) (by omega) e)
  clear p20 h19 t20 T19
  have q := sdOn_any h20 1
  rw [show sf14.on 1 = (-1) by decide] at q
  go_wp2_with fail
  with_reducible refine q.mono ?_
  rintro e wq ⟨rfl, rfl⟩
  clear q
  have p21 := sdPick_any h20 1
  rw [show sf14.pick 1 = 2 by decide, show sf14.picked 1 = sf15 by decide] at p21
  go_wp2_with fail
  with_reducible refine p21.mono ?_
  rintro e w21 ⟨rfl, h21, t21⟩
  have T21 := T20.transNew t21 (fun i hi e => sdB_new hi (by omega) (by omega) e)
  clear p21 h20 t21 T20
  have p22 := sdPick_any h21 0
  rw [show sf15.pick 0 = (-1) by decide, show sf15.picked 0 = sf15 by decide] at p22
  go_wp2_with fail
  with_reducible refine p22.mono ?_
  rintro e w22 ⟨rfl, h22, t22⟩
  have T22 := T21.transNew t22 (fun i hi e => sdB_new hi (by omega) (by omega) e)
  clear p22 h21 t22 T21
  have p23 := sdPick_any h22 1
  rw [show sf15.pick 1 = 2 by decide, show sf15.picked 1 = sf15 by decide] at p23
  go_wp2_with fail
  with_reducible refine p23.mono ?_
  rintro e w23 ⟨rfl, h23, t23⟩
  have T23 := T22.transNew t23 (fun i hi e => sdB_new hi (by omega) (by omega) e)
  clear p23 h22 t23 T22
  go_wp2_with fail
  with_reducible refine (within_any a0 50 _ (by decide) (by decide)).mono ?_
  rintro e wq ⟨rfl, rfl⟩
  have n0 := Int.emod_nonneg a0 (b := 50) (by decide)
  have n1 := Int.emod_lt_of_pos a0 (b := 50) (by decide)
  generalize a0 % 50 = x at *
  have p24 := sdWake_any h23 3
  rw [show sf15.wakes 3 = true by decide, show sf15.wake 3 = sf16 by decide] at p24
  go_wp2_with fail
  with_reducible refine p24.mono ?_
  rintro e w24 ⟨rfl, h24, t24⟩
  have T24 := T23.transNew t24 (fun i hi e => sdB_new hi (by omega) (by omega) e)
  clear p24 h23 t24 T23
  have p25 := sdPick_any h24 0
  rw [show sf16.pick 0 = 3 by decide, show sf16.picked 0 = sf17 by decide] at p25
  go_wp2_with fail
  with_reducible refine p25.mono ?_
  rintro e w25 ⟨rfl, h25, t25⟩
  have T25 := T24.transNew t25 (fun i hi e => sdB_new hi (by omega) (by omega) e)
  clear p25 h24 t25 T24
  have q := sdAlive_any h25
  rw [show sf17.live = [2, 3] by decide] at q
  go_wp2_with fail
  with_reducible refine q.mono ?_
  rintro e w26 ⟨⟨a, cap, rfl, hO⟩, t26⟩
  clear q
  have h26 := h25.nil t26
  have T26 := T25.trans t26
  have hN := SOwn.nums hO rfl
  clear hO t26 h25 T25
  have hL := sdLit2 w26 2 3
  have tL := (Touch.refl Nil w26).alloc (.cells #[.int .i64 2, .int .i64 3] 3)
  have q := sdSame_any (hN.nil tL) hL 2 rfl (by decide) cap 2
  go_wp2_with fail
  with_reducible refine q.mono ?_
  rintro e w27 ⟨rfl, t27⟩
  have h27 := (h26.nil tL).nil t27
  have T27 := (T26.trans tL).trans t27
  clear q h26 T26 hN hL tL t27
  have q := sdWake_any h27 (2 + x + 2)
  rw [Sd.wakes_out _ _ (by omega), Sd.wake_out _ _ (by omega)] at q
  go_wp2_with fail
  with_reducible refine q.mono ?_
  rintro e w28 ⟨rfl, h28, t28⟩
  have T28 := T27.transNew t28 (fun i hi e => sdB_new hi (by omega) (by omega) e)
  clear q h27 t28 T27
  have q := sdEnd_any h28 (-(2 + x))
  rw [Sd.lives_out _ _ (by omega), Sd.fin_out _ _ (by omega)] at q
  go_wp2_with fail
  with_reducible refine q.mono ?_
  rintro e w29 ⟨rfl, h29, t29⟩
  have T29 := T28.transNew t29 (fun i hi e => sdB_new hi (by omega) (by omega) e)
  clear q h28 t29 T28
  have q := sdPick_any h29 (2 + x)
  rw [Sd.pick_out _ _ (by omega), Sd.picked_out _ _ (by omega)] at q
  go_wp2_with fail
  with_reducible refine q.mono ?_
  rintro e w30 ⟨rfl, h30, t30⟩
  have T30 := T29.transNew t30 (fun i hi e => sdB_new hi (by omega) (by omega) e)
  clear q h29 t30 T29
  have q := sdOn_any h30 (2 + x)
  rw [Sd.on_out _ _ (by omega)] at q
  go_wp2_with fail
  with_reducible refine q.mono ?_
  rintro e wq ⟨rfl, rfl⟩
  clear q
  have q := sdWhere_any h30 (2 + x + 2)
  rw [Sd.wh_out _ _ (by omega)] at q
  go_wp2_with fail
  with_reducible refine q.mono ?_
  rintro e wq ⟨rfl, rfl⟩
  clear q
  have q := sdWhere_any h30 (-1)
  rw [Sd.wh_out _ _ (by omega)] at q
  go_wp2_with fail
  with_reducible refine q.mono ?_
  rintro e wq ⟨rfl, rfl⟩
  clear q
  go_wp2_with fail
  with_reducible refine (sdWakes_any _).mono ?_
  rintro e w31 ⟨rfl, t31⟩
  go_wp2_with fail
  go_ret
  exact ⟨rfl, T30.trans t31⟩
end Go.Proofs.Ytlhppmhacdoilaa
