/-
  The document's own answers on instructions: CheckInsn.
-/
import Derived.Test.YtpnegpcnmmaclaaDoorInsnX
import Derived.Deep.DeepCutAuto
namespace Go.Proofs.YtpnegpcnmmaclaaDoor
open Go.ChangeShapes Go.WideShapes Go.ChangeAt Go.RowKit

theorem field_has {op : Int} (h1 : 1 ≤ op) (h7 : op ≤ 7) : (fieldL op).contains 65 = (shape op).a ∧ (fieldL op).contains 66 = (shape op).b ∧ (fieldL op).contains 78 = (op != 2) ∧ ((fieldL op).toArray.toList == [63]) = false ∧ (fieldL op).length ≤ 3 := by
  rcases seven h1 h7 with rfl | rfl | rfl | rfl | rfl | rfl | rfl <;> decide
theorem field_none {op : Int} (h : ¬ (1 ≤ op ∧ op ≤ 7)) : fieldL op = [63] := by
  unfold fieldL
  rw [if_neg (by omega), if_neg (by omega), if_neg (by omega), if_neg (by omega), if_neg (by omega), if_neg (by omega), if_neg (by omega)]

set_option maxHeartbeats 2000000 in
theorem rcheck_any (x : Ins) (w : World) :
    Calls Tryd.prog 34 #[insV x] w fun e w' => e = .returned (.bool (okP x)) ∧ Below w.heap.size w w' := by
  obtain ⟨op, a, b, n⟩ := x
  unfold insV
  by_cases h17 : 1 ≤ op ∧ op ≤ 7
  · obtain ⟨hA, hB, hN, hq, hlen⟩ := field_has h17.1 h17.2
    have hf := fields_any op
    generalize fieldL op = f at *
    go_enter Tryd.func34, Tryd.ntmps34
    go_wp2_with fail
    refine (hf _).mono ?_
    rintro e w1 ⟨rfl, b1⟩
    obtain ⟨x0, x1, x2, x3, hlt⟩ := copy_cells b1
    have B1 : Below w.heap.size w w1 := past_alloc (Below.refl _ w) (Nat.le_refl _) b1
    obtain ⟨sa, hsa⟩ : ∃ s, Hid ((shape op).a = s) := ⟨_, rfl⟩
    obtain ⟨sb, hsb⟩ : ∃ s, Hid ((shape op).b = s) := ⟨_, rfl⟩
    rw [hsa.out] at hA
    rw [hsb.out] at hB
    clear b1
    go_wp2_with fail
    go_loopg [17] 2 (fun g i wr => ∃ k : Nat, g + k = 2 ∧ i = .int .i64 k ∧ Hid (1 ≤ k → fitP a sa = true) ∧ Hid (2 ≤ k → fitP b sb = true) ∧ Hid (w1.alloc (.cells #[.int .i64 a, .int .i64 b] 3) = wr))
    case atStart => exact ⟨0, by omega, rfl, fun h => by omega, fun h => by omega, rfl⟩
    case round =>
      obtain ⟨k, hg, rfl, ha, hb, hw⟩ := hrel
      have hw' := hw.out
      subst hw'
      rcases (by omega : k = 0 ∨ k = 1 ∨ k = 2) with rfl | rfl | rfl
      · go_upto_region 7 with fail
        go_cut [38] (fun v wx => v = .bool (!(fitP a sa)) ∧ Hid (wx = w1.alloc (.cells #[.int .i64 a, .int .i64 b] 3)))
        case first =>
          by_cases l0 : a < 0
          · have hf : fitP a sa = false := by cases sa <;> simp [fitP] <;> omega
            go_wp2_with fail
            go_meet
            exact ⟨by rw [hf]; rfl, rfl⟩
          · by_cases l8 : 8 ≤ a
            · have hf : fitP a sa = false := by cases sa <;> simp [fitP] <;> omega
              go_wp2_with fail
              go_meet
              exact ⟨by rw [hf]; rfl, rfl⟩
            · cases lz : (a != 0)
              · have h0 : a = 0 := by simpa using lz
                have hf : fitP a sa = true := by cases sa <;> simp [fitP] <;> omega
                have h0' : Hid (a = 0) := h0
                clear h0
                go_wp2_with fail
                go_meet
                exact ⟨by rw [hf]; rfl, rfl⟩
              · have hf : fitP a sa = sa := by
                  have : a ≠ 0 := by simpa using lz
                  cases sa <;> simp [fitP] <;> omega
                go_wp2_with (go_at_call 35; refine (in_any f 65 _ (by omega)).mono ?_; rintro e wq ⟨rfl, rfl⟩; rw [hA])
                go_meet
                exact ⟨by rw [hf], rfl⟩
        case rest =>
        obtain ⟨rfl, hw⟩ := hcut
        have hw' := hw.out
        subst hw'
        cases hz : fitP a sa
        · go_wp2_with fail
          go_ret
          refine ⟨ret_bool ?_, B1.alloc B1.size _⟩
          simp [okP, hsa.out, hsb.out, hz]
        · go_wp2_with fail
          go_roundg 1
          case measure => omega
          case rel => exact ⟨1, by omega, by go_num, fun _ => hz, fun h => by omega, rfl⟩
      · go_upto_region 7 with fail
        go_cut [38] (fun v wx => v = .bool (!(fitP b sb)) ∧ Hid (wx = w1.alloc (.cells #[.int .i64 a, .int .i64 b] 3)))
        case first =>
          by_cases l0 : b < 0
          · have hf : fitP b sb = false := by cases sb <;> simp [fitP] <;> omega
            go_wp2_with fail
            go_meet
            exact ⟨by rw [hf]; rfl, rfl⟩
          · by_cases l8 : 8 ≤ b
            · have hf : fitP b sb = false := by cases sb <;> simp [fitP] <;> omega
              go_wp2_with fail
              go_meet
              exact ⟨by rw [hf]; rfl, rfl⟩
            · cases lz : (b != 0)
              · have h0 : b = 0 := by simpa using lz
                have hf : fitP b sb = true := by cases sb <;> simp [fitP] <;> omega
                have h0' : Hid (b = 0) := h0
                clear h0
                go_wp2_with fail
                go_meet
                exact ⟨by rw [hf]; rfl, rfl⟩
              · have hf : fitP b sb = sb := by
                  have : b ≠ 0 := by simpa using lz
                  cases sb <;> simp [fitP] <;> omega
                go_wp2_with (go_at_call 35; refine (in_any f 66 _ (by omega)).mono ?_; rintro e wq ⟨rfl, rfl⟩; rw [hB])
                go_meet
                exact ⟨by rw [hf], rfl⟩
        case rest =>
        obtain ⟨rfl, hw⟩ := hcut
        have hw' := hw.out
        subst hw'
        cases hz : fitP b sb
        · go_wp2_with fail
          go_ret
          refine ⟨ret_bool ?_, B1.alloc B1.size _⟩
          simp [okP, hsa.out, hsb.out, hz]
        · go_wp2_with fail
          go_roundg 0
          case measure => omega
          case rel => exact ⟨2, by omega, by go_num, fun _ => ha.out (by omega), fun h => hz, rfl⟩
      · have hfa := ha.out (by omega)
        have hfb := hb.out (by omega)
        have c3 : (w1.alloc (.cells #[.int .i64 a, .int .i64 b] 3)).cell? ⟨w.heap.size, 3, none⟩ = some (.int .i64 n) := (Below.cell ((Below.refl _ w1).alloc (Nat.le_refl _) _) hlt).trans x3
        have c0 : (w1.alloc (.cells #[.int .i64 a, .int .i64 b] 3)).cell? ⟨w.heap.size, 0, none⟩ = some (.int .i64 op) := (Below.cell ((Below.refl _ w1).alloc (Nat.le_refl _) _) hlt).trans x0
        go_wp2_with fail
        refine (in_any f 78 _ (by omega)).mono ?_
        rintro e wq ⟨rfl, rfl⟩
        rw [hN]
        have hok : Hid (okP ⟨op, a, b, n⟩ = (decide ((shape op).least ≤ n) && decide (n ≤ (shape op).most))) := by show _ = _; simp [okP, hsa.out, hsb.out, hfa, hfb, h17.1, h17.2]
        clear hf hA hB hN hq x0 x1 x2 x3 hw ha hb hfa hfb
        rcases seven h17.1 h17.2 with rfl | rfl | rfl | rfl | rfl | rfl | rfl
        all_goals
          go_wp2_with fail
          all_goals go_ret
          all_goals refine ⟨ret_bool ?_, B1.alloc B1.size _⟩
          all_goals (rw [hok.out, Bool.eq_iff_iff]; simp [shape] ; try omega)
  · have e : okP ⟨op, a, b, n⟩ = false := by simp [okP]; omega
    have hf := fields_any op
    rw [field_none h17] at hf
    rw [e]
    go_enter Tryd.func34, Tryd.ntmps34
    go_wp2_with fail
    refine (hf _).mono ?_
    rintro e w1 ⟨rfl, b1⟩
    go_wp2_with fail
    go_ret
    exact ⟨rfl, past_alloc (Below.refl _ w) (Nat.le_refl _) b1⟩
end Go.Proofs.YtpnegpcnmmaclaaDoor
