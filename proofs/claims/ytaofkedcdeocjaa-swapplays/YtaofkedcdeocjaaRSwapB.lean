/-
  The document's own slots: out, in.
-/
import Derived.Test.YtaofkedcdeocjaaRSwapA
import Derived.Deep.RegionHeld3
namespace Go.Proofs.Ytaofkedcdeocjaa
open Go.ChangeShapes Go.WideShapes Go.ChangeAt Go.RowKit

/-- A copy whose run is known. -/
theorem wpList_copy_eq {P : Program} {w : World} {ops : Array Oper} {rest : List Oper} {oo : Oper} {a : Act} {Q : Exit → Act → World → Prop} (hgd : oo.guard = none) (d s : Operand) (dT sT : TypeId)
    (ho : oo.op = .call { callee := .builtin .copy, args := #[d, s], argTypes := #[dT, sT] }) (v u : Value) (hd : a.eval d = v) (hs : a.eval s = u) {v' : Value} {w' : World}
    (hr : (Builtin.copy_ #[dT, sT] oo.type #[v, u]).run P w = .ok v' w') (h : wpList P ops Q rest (a.put oo.dst v') w') : wpList P ops Q (oo :: rest) a w := by
  refine wpList_plain hgd fun K hK => ?_
  unfold Oper.wp
  simp [execOp, ho, resolve, invoke, builtin, hd, hs, hr, Result.andThen]
  exact hK _ _ h
theorem ws8_one (g : Nat → Int) : ∀ v ∈ ws8 g, v.oneCell' = true := by
  intro v hv
  simp [ws8] at hv
  rcases hv with rfl | rfl | rfl | rfl | rfl | rfl | rfl | rfl <;> rfl
theorem MS.frame_eq (s : MS) (f : Int) (hf : s.hasF f = true) (o : Nat) (ho : o < 8) : s.frame f o = s.W (f.toNat * 8 + o) := by
  obtain ⟨f0, f1⟩ := (s.hasF_iff f).1 hf
  unfold MS.frame MS.rd
  rw [if_pos ((s.hasW_iff _).2 (by omega)), show (f * 8 + (o : Int)).toNat = f.toNat * 8 + o by omega]

set_option maxRecDepth 20000 in
set_option maxHeartbeats 1000000 in
theorem rsout_yes {w : World} {p b cw cc co f : Nat} {q : QS} {s : MS} (h : RQAt w p q) (m : RefAt w b cw cc co s) (hF : q.Free f) (fr : Int) (hf : s.hasF fr = true) :
    Calls Try.prog 40 #[.pointer (some ⟨p, 0, none⟩), .pointer (some ⟨b, 0, none⟩), .int .i64 fr] w fun e w' => e = .returned (.tuple #[.int .i64 f, .bool true]) ∧ RQAt w' p ((q.setW f (s.frame fr)).setU f true) ∧ Touch (· = p) w w' := by
  have hH := rhas_any m fr
  rw [hf] at hH
  obtain ⟨f0, f1⟩ := (s.hasF_iff fr).1 hf
  have hle := m.le
  have hlo := hF.lo
  have hhi := hF.hi
  go_enter Try.func40, Try.ntmps40
  have hT := m.top.cell (i := 0) (by omega)
  simp only [if_true] at hT
  go_wp2
  go_loopg [8] 7 (fun g i wr => ∃ k : Nat, g + k = 7 ∧ k < f ∧ i = .int .i64 ((k : Int) + 1) ∧ w = wr)
  case atStart => exact ⟨0, by omega, by omega, rfl, rfl⟩
  case round =>
    obtain ⟨k, hgk, hkf, rfl, rfl⟩ := hrel
    have hc := h.outC (k := k + 1) (by omega)
    have k1 : (k : Int) + 1 < 8 := by omega
    by_cases hk : k + 1 < f
    · rw [hF.less _ (by omega) hk] at hc
      go_wp2_with fail
      with_reducible refine hH.mono ?_
      rintro e wq ⟨rfl, rfl⟩
      go_wp2_with fail
      go_roundg (6 - k)
      case measure => omega
      case rel => exact ⟨k + 1, by omega, by omega, by go_num, rfl⟩
    · have h7 : k + 1 = f := by omega
      rw [h7, hF.free] at hc
      have hc' : w.cell? ⟨p, 64 + (k + 1), none⟩ = some (.bool false) := by rw [h7]; exact hc
      go_wp2_with fail
      with_reducible refine hH.mono ?_
      rintro e wq ⟨rfl, rfl⟩
      go_upto_region 5 with fail
      have b1 : (0 : Int) ≤ (k : Int) + 1 := by omega
      have w1 : IntKind.i64.wrap (fr * 8) = fr * 8 := by rw [IntKind.wrap_i64]; omega
      have w2 : IntKind.i64.wrap (fr + 1) = fr + 1 := by rw [IntKind.wrap_i64]; omega
      have w3 : IntKind.i64.wrap ((fr + 1) * 8) = (fr + 1) * 8 := by rw [IntKind.wrap_i64]; omega
      have b2 : (0 : Int) ≤ fr * 8 := by omega
      have b3 : fr * 8 ≤ (fr + 1) * 8 := by omega
      have b4 : (fr + 1) * 8 ≤ ((s.n * 8 : Nat) : Int) := by omega
      have b5 : (0 : Int) ≤ (fr + 1) * 8 := by omega
      have b6 : (fr + 1) * 8 ≤ (s.n : Int) * 8 := by omega
      have hTd : w.drew.cell? ⟨b, 0, none⟩ = some (.slice (some ⟨cw, 0, none⟩) (s.n * 8) (s.n * 8)) := hT
      have hQd : RQAt w.drew p q := h
      have hQ2 := hQd.setW f (by omega) (s.frame fr)
      have t2 : Touch (· = p) w (w.drew.setCells p (f * 8) (ws8 (s.frame fr))) := ((Touch.refl (· = p) w).drew).setCells rfl _ _
      have hT2 : (w.drew.setCells p (f * 8) (ws8 (s.frame fr))).cell? ⟨b, 0, none⟩ = some (.slice (some ⟨cw, 0, none⟩) (s.n * 8) (s.n * 8)) := by
        have hpb : b ≠ p := rowIs_ne m.top h (by decide)
        have := (m.touch t2 hpb (rowIs_ne m.rw' h (by decide)) (rowIs_ne m.rc h (by decide)) (rowIs_ne m.ro h (by decide))).top.cell (i := 0) (by omega)
        simp only [if_true] at this
        exact this
      have hrun : (Builtin.copy_ #[66, 66] 3 #[.slice (some ⟨p, f * 8, none⟩) 8 8, .slice (some ⟨cw, (fr * 8).toNat, none⟩) (((fr + 1) * 8).toNat - (fr * 8).toNat) (s.n * 8 - (fr * 8).toNat)]).run Try.prog w.drew = .ok (.int .i64 8) (w.drew.setCells p (f * 8) (ws8 (s.frame fr))) := by
        refine run_copy_cells (P := Try.prog) w.drew 66 66 3 23 p (f * 8) 8 8 ⟨cw, (fr * 8).toNat, none⟩ _ _ (ws8 (s.frame fr)) Try.underlying66 (by kernel_rfl) ?_ ?_ ?_ ?_ (ws8_one _)
        · show 8 = Nat.min _ 8
          rw [show ((fr + 1) * 8).toNat - (fr * 8).toNat = 8 by omega]; rfl
        · intro j v hv
          have hj : j < 8 := (List.getElem?_eq_some_iff.1 hv).1
          rw [ws8_get _ _ hj, s.frame_eq fr hf j hj] at hv
          rw [Addr.add_mid, ← hv]
          have := m.rw'.cell (i := fr.toNat * 8 + j) (by omega)
          rw [show (fr * 8).toNat + j = fr.toNat * 8 + j by omega]
          exact this
        · intro j hj
          have hj : j < 8 := hj
          have := hQd.wordC (k := f) (o := j) (by omega) hj
          rw [this]; rfl
        · intro j _; exact hQd.frozen _
      clear hT hQd
      generalize w.drew.setCells p (f * 8) (ws8 (s.frame fr)) = W2 at *
      have hfk : (f : Int) = (k : Int) + 1 := by omega
      go_region
      have z2 := hQ2.frozen (64 + f)
      have cU := hQ2.outC (k := f) (by omega)
      have hQ3 := hQ2.setU f true
      have t3 := t2.setCell (p := ⟨p, 64 + f, none⟩) rfl (.bool true)
      go_wp2
      go_ret2
      exact ⟨by rw [hfk]; rfl, hQ3, t3⟩

set_option maxHeartbeats 1000000 in
theorem rsout_full {w : World} {p b cw cc co : Nat} {q : QS} {s : MS} (h : RQAt w p q) (m : RefAt w b cw cc co s) (hF : q.Full) (fr : Int) :
    Calls Try.prog 40 #[.pointer (some ⟨p, 0, none⟩), .pointer (some ⟨b, 0, none⟩), .int .i64 fr] w fun e w' => e = .returned (.tuple #[.int .i64 0, .bool false]) ∧ w = w' := by
  have hH := rhas_any m fr
  go_enter Try.func40, Try.ntmps40
  go_wp2
  go_loopg [8] 7 (fun g i wr => ∃ k : Nat, g + k = 7 ∧ i = .int .i64 ((k : Int) + 1) ∧ w = wr)
  case atStart => exact ⟨0, by omega, rfl, rfl⟩
  case round =>
    obtain ⟨k, hgk, rfl, rfl⟩ := hrel
    by_cases hk : k < 7
    · have hc := h.outC (k := k + 1) (by omega)
      have k1 : (k : Int) + 1 < 8 := by omega
      rw [hF _ (by omega) (by omega)] at hc
      cases hf : s.hasF fr
      · rw [hf] at hH
        go_wp2_with fail
        with_reducible refine hH.mono ?_
        rintro e wq ⟨rfl, rfl⟩
        go_wp2_with fail
        go_ret2
        exact ⟨rfl, rfl⟩
      · rw [hf] at hH
        go_wp2_with fail
        with_reducible refine hH.mono ?_
        rintro e wq ⟨rfl, rfl⟩
        go_wp2_with fail
        go_roundg (6 - k)
        case measure => omega
        case rel => exact ⟨k + 1, by omega, by go_num, rfl⟩
    · have h7 : k = 7 := by omega
      subst h7
      go_wp2_with fail
      go_ret2
      exact ⟨rfl, rfl⟩
set_option maxHeartbeats 1000000 in
theorem rsout_none {w : World} {p b cw cc co : Nat} {q : QS} {s : MS} (_ : RQAt w p q) (m : RefAt w b cw cc co s) (fr : Int) (hf : s.hasF fr = false) :
    Calls Try.prog 40 #[.pointer (some ⟨p, 0, none⟩), .pointer (some ⟨b, 0, none⟩), .int .i64 fr] w fun e w' => e = .returned (.tuple #[.int .i64 0, .bool false]) ∧ w = w' := by
  have hH := rhas_any m fr
  rw [hf] at hH
  go_enter Try.func40, Try.ntmps40
  go_wp2
  go_loopg [8] 0 (fun g i wr => i = .int .i64 1 ∧ w = wr)
  case atStart => exact ⟨rfl, rfl⟩
  case round =>
    obtain ⟨rfl, rfl⟩ := hrel
    go_wp2_with fail
    with_reducible refine hH.mono ?_
    rintro e wq ⟨rfl, rfl⟩
    go_wp2_with fail
    go_ret2
    exact ⟨rfl, rfl⟩

theorem RefAt.lay {w : World} {b cw cc co : Nat} {s : MS} (h : RefAt w b cw cc co s) (f : Int) (g : Nat → Int) : RefAt (w.setCells cw (f.toNat * 8) (ws8 g)) b cw cc co (s.lay f g) := by
  have t : Touch (· = cw) w (w.setCells cw (f.toNat * 8) (ws8 g)) := (Touch.refl (· = cw) w).setCells rfl _ _
  refine ⟨h.le, h.bw, h.bc, h.bo, h.wc, h.wo, h.co', t.row h.top h.bw, ?_, t.row h.rc (Ne.symm h.wc), t.row h.ro (Ne.symm h.wo)⟩
  refine (rowIs_setCells _ _ _ _ h.rw').congr fun i _ => ?_
  show _ = Value.int .u64 (if i / 8 = f.toNat then g (i % 8) else s.W i)
  by_cases h1 : f.toNat * 8 ≤ i
  · rw [if_pos h1]
    by_cases h2 : i - f.toNat * 8 < 8
    · have hd : i / 8 = f.toNat := by omega
      rw [ws8_get _ _ h2, if_pos hd, show i % 8 = i - f.toNat * 8 by omega]; rfl
    · rw [List.getElem?_eq_none (by show 8 ≤ _; omega), if_neg (by omega)]; rfl
  · rw [if_neg h1, if_neg (by omega)]

set_option maxRecDepth 20000 in
set_option maxHeartbeats 1000000 in
theorem rsin_yes {w : World} {p b cw cc co : Nat} {q : QS} {s : MS} (h : RQAt w p q) (m : RefAt w b cw cc co s) (k fr : Int) (hk : q.isOut k = true) (hf : s.hasF fr = true) :
    Calls Try.prog 41 #[.pointer (some ⟨p, 0, none⟩), .pointer (some ⟨b, 0, none⟩), .int .i64 k, .int .i64 fr] w fun e w' => e = .returned (.bool true) ∧ RQAt w' p (q.setU k.toNat false) ∧ RefAt w' b cw cc co (s.lay fr (q.W k.toNat)) ∧ Touch (fun x => x = p ∨ x = cw) w w' := by
  have hH := rhas_any m fr
  rw [hf] at hH
  obtain ⟨k1, k2, hU⟩ := (q.isOut_iff k).1 hk
  obtain ⟨f0, f1⟩ := (s.hasF_iff fr).1 hf
  have hle := m.le
  have hc := h.outC (k := k.toNat) (by omega)
  rw [hU] at hc
  have hT := m.top.cell (i := 0) (by omega)
  simp only [if_true] at hT
  have hpw : p ≠ cw := rowIs_ne h m.rw' (by decide)
  have k0 : (0 : Int) ≤ k := by omega
  have w1 : IntKind.i64.wrap (fr * 8) = fr * 8 := by rw [IntKind.wrap_i64]; omega
  have w2 : IntKind.i64.wrap (fr + 1) = fr + 1 := by rw [IntKind.wrap_i64]; omega
  have w3 : IntKind.i64.wrap ((fr + 1) * 8) = (fr + 1) * 8 := by rw [IntKind.wrap_i64]; omega
  have b2 : (0 : Int) ≤ fr * 8 := by omega
  have b3 : fr * 8 ≤ (fr + 1) * 8 := by omega
  have b4 : (fr + 1) * 8 ≤ ((s.n * 8 : Nat) : Int) := by omega
  have b5 : (0 : Int) ≤ (fr + 1) * 8 := by omega
  have b6 : (fr + 1) * 8 ≤ (s.n : Int) * 8 := by omega
  have hTd : w.drew.cell? ⟨b, 0, none⟩ = some (.slice (some ⟨cw, 0, none⟩) (s.n * 8) (s.n * 8)) := hT
  have hQd : RQAt w.drew p q := h
  have hMd : RefAt w.drew b cw cc co s := m.drew
  have hM2 := hMd.lay fr (q.W k.toNat)
  have t2 : Touch (· = cw) w (w.drew.setCells cw (fr.toNat * 8) (ws8 (q.W k.toNat))) := ((Touch.refl (· = cw) w).drew).setCells rfl _ _
  have hQ2 : RQAt (w.drew.setCells cw (fr.toNat * 8) (ws8 (q.W k.toNat))) p q := h.touch t2 hpw
  have hrun : (Builtin.copy_ #[66, 66] 3 #[.slice (some ⟨cw, (fr * 8).toNat, none⟩) (((fr + 1) * 8).toNat - (fr * 8).toNat) (s.n * 8 - (fr * 8).toNat), .slice (some ⟨p, k.toNat * 8, none⟩) 8 8]).run Try.prog w.drew = .ok (.int .i64 8) (w.drew.setCells cw (fr.toNat * 8) (ws8 (q.W k.toNat))) := by
    rw [show (fr * 8).toNat = fr.toNat * 8 by omega]
    refine run_copy_cells (P := Try.prog) w.drew 66 66 3 23 cw (fr.toNat * 8) _ _ ⟨p, k.toNat * 8, none⟩ _ _ (ws8 (q.W k.toNat)) Try.underlying66 (by kernel_rfl) ?_ ?_ ?_ ?_ (ws8_one _)
    · show 8 = Nat.min 8 _
      rw [show ((fr + 1) * 8).toNat - fr.toNat * 8 = 8 by omega]; rfl
    · intro j v hv
      have hj : j < 8 := (List.getElem?_eq_some_iff.1 hv).1
      rw [ws8_get _ _ hj] at hv
      rw [Addr.add_mid, ← hv]
      exact hQd.wordC (k := k.toNat) (o := j) (by omega) hj
    · intro j hj
      have hj : j < 8 := hj
      have := hMd.rw'.cell (i := fr.toNat * 8 + j) (by omega)
      rw [this]; rfl
    · intro j _; exact hMd.rw'.frozen _
  clear hQd hMd
  generalize w.drew.setCells cw (fr.toNat * 8) (ws8 (q.W k.toNat)) = W2 at *
  go_enter Try.func41, Try.ntmps41
  go_wp2_with fail
  with_reducible refine hH.mono ?_
  rintro e wq ⟨rfl, rfl⟩
  go_upto_region 3 with fail
  go_region
  have z2 := hQ2.frozen (64 + k.toNat)
  have cU := hQ2.outC (k := k.toNat) (by omega)
  have hQ3 := hQ2.setU k.toNat false
  have tS : Touch (· = p) W2 (W2.setCell ⟨p, 64 + k.toNat, none⟩ (.bool false)) := (Touch.refl (· = p) W2).setCell (p := ⟨p, 64 + k.toNat, none⟩) rfl _
  have hM3 := hM2.touch tS (rowIs_ne hM2.top hQ2 (by decide)) (rowIs_ne hM2.rw' hQ2 (by decide)) (rowIs_ne hM2.rc hQ2 (by decide)) (rowIs_ne hM2.ro hQ2 (by decide))
  go_wp2
  go_ret
  exact ⟨rfl, hQ3, hM3, (t2.mono (fun x _ e => Or.inr e)).trans (tS.mono (fun x _ e => Or.inl e))⟩

set_option maxHeartbeats 1000000 in
theorem rsin_no {w : World} {p b cw cc co : Nat} {q : QS} {s : MS} (h : RQAt w p q) (m : RefAt w b cw cc co s) (k fr : Int) (hn : (q.isOut k && s.hasF fr) = false) :
    Calls Try.prog 41 #[.pointer (some ⟨p, 0, none⟩), .pointer (some ⟨b, 0, none⟩), .int .i64 k, .int .i64 fr] w fun e w' => e = .returned (.bool false) ∧ w = w' := by
  have hH := rhas_any m fr
  by_cases h1 : 1 ≤ k
  · by_cases h2 : k < 8
    · have hc := h.outC (k := k.toNat) (by omega)
      have hi : q.isOut k = q.U k.toNat := by unfold QS.isOut; rw [decide_eq_true h1, decide_eq_true h2]; rfl
      rw [hi] at hn
      have k0 : (0 : Int) ≤ k := by omega
      cases hU : q.U k.toNat
      · rw [hU] at hc
        go_enter Try.func41, Try.ntmps41
        go_wp2_with fail
        go_ret
        exact ⟨rfl, rfl⟩
      · rw [hU] at hc hn
        rw [Bool.true_and] at hn
        rw [hn] at hH
        go_enter Try.func41, Try.ntmps41
        go_wp2_with fail
        with_reducible refine hH.mono ?_
        rintro e wq ⟨rfl, rfl⟩
        go_wp2_with fail
        go_ret
        exact ⟨rfl, rfl⟩
    · go_enter Try.func41, Try.ntmps41
      go_wp2_with fail
      go_ret
      exact ⟨rfl, rfl⟩
  · go_enter Try.func41, Try.ntmps41
    go_wp2_with fail
    go_ret
    exact ⟨rfl, rfl⟩
end Go.Proofs.Ytaofkedcdeocjaa
