/-
  The law RegsTell, walked.
-/
import Derived.Test.YtdhamejgdapdjaaDoorRegL
namespace Go.Proofs.YtdhamejgdapdjaaDoor
open Go.ChangeShapes Go.WideShapes Go.ChangeAt Go.RowKit

theorem wf_i64 {n : Int} (h : (Lit.int .i64 n).wf = true) : -9223372036854775808 ≤ n ∧ n ≤ 9223372036854775807 := by
  have e1 : IntKind.i64.min = -9223372036854775808 := by decide
  have e2 : IntKind.i64.max = 9223372036854775807 := by decide
  simp only [Lit.wf, decide_eq_true_eq, Bool.and_eq_true, e1, e2] at h
  omega
/-- The next instruction as a value, and whether there is one. -/
def nx (o : Option Ins) : Ins := o.getD ⟨0, 0, 0, 0⟩
theorem nextV_nx (o : Option Ins) : nextV o = .tuple #[insV (nx o), .bool o.isSome] := by cases o <;> rfl
/-- Plain's answers. -/
theorem plain_both {w : World} (s : RS) {a : Option Addr} {c : Nat} {l : List Ins} (h : IsL w a l) (hl : l.length ≤ 1000) (hpc : -9223372036854775808 ≤ s.pc) (hV : Sh w) :
    ∃ s' n' lb al cl b, n' = lb.length ∧ lb.length ≤ 1000 ∧
      Calls Tryd.prog 18 #[stV s a l.length c] w (fun e w' => ∃ a' c', e = .returned (.tuple #[stV s' a' n' c', .bool b]) ∧ IsL w' a' lb ∧ Below w.heap.size w w') ∧
      (∀ wx, Below w.heap.size w wx → Calls Tryd.prog 27 #[stV s a l.length c] wx (fun e w' => e = .returned (.tuple #[stV s' al n' cl, .bool b]) ∧ IsL w' al lb ∧ Below wx.heap.size wx w')) := by
  cases hp : plainP l s with
  | none =>
    refine ⟨RS.zero, 0, [], none, 0, false, rfl, by simp, ?_, fun wx bx => ?_⟩
    · refine (plain_any (c := c) s h hl hpc hV).mono ?_
      rintro e w' ⟨hb, he⟩
      rw [hp] at he
      exact ⟨none, 0, he, Or.inl rfl, hb⟩
    · refine (rplain_any (c := c) s (h.later bx) hl).mono ?_
      rintro e w' ⟨he, hb⟩
      rw [hp] at he
      exact ⟨he, Or.inl rfl, hb⟩
  | some s' =>
    refine ⟨s', l.length, l, a, c, true, rfl, hl, ?_, fun wx bx => ?_⟩
    · refine (plain_any (c := c) s h hl hpc hV).mono ?_
      rintro e w' ⟨hb, he⟩
      rw [hp] at he
      obtain ⟨a', c', he, hi⟩ := he
      exact ⟨a', c', he, hi.toL, hb⟩
    · refine (rplain_any (c := c) s (h.later bx) hl).mono ?_
      rintro e w' ⟨he, hb⟩
      rw [hp] at he
      exact ⟨he, (h.later bx).later hb, hb⟩

set_option maxRecDepth 20000 in
set_option maxHeartbeats 4000000 in
theorem regsTell_walk (a0 : Option Addr) (len0 cap0 : Nat) (z0 : List Int) (a1 : Option Addr) (len1 cap1 : Nat) (z1 : List Int) (pc v code : Int) (w : World) (w0 : Row .i64 w a0 len0 cap0 z0) (w1 : Row .u64 w a1 len1 cap1 z1) (hpc : -9223372036854775808 ≤ pc ∧ pc ≤ 9223372036854775807) (hV : Sh w) :
    Calls Tryd.prog 6 #[.slice a0 len0 cap0, .slice a1 len1 cap1, .int .i64 pc, .int .u64 v, .int .i64 code] w fun e w' => e = .returned (.bool true) ∧ Below w.heap.size w w' := by
  have hst := state_any a0 len0 cap0 z0 a1 len1 cap1 z1 pc w w0 w1 hpc
  clear w0 w1
  go_enter Tryd.func6, Tryd.ntmps6
  go_upto_region 2 with (go_at_call 24; refine hst.mono ?_; rintro e w2 ⟨s, aS, l, cap, rfl, hI, h12, hsw, hp0, hp1, hB⟩; unfold stV)
  have bA := (Below.refl w2.heap.size w2).alloc (Nat.le_refl _) (.cells #[.int .u64 (s.r 0), .int .u64 (s.r 1), .int .u64 (s.r 2), .int .u64 (s.r 3), .int .u64 (s.r 4), .int .u64 (s.r 5), .int .u64 (s.r 6), .int .u64 (s.r 7), .slice aS l.length cap, .int .i64 s.pc] 45)
  have hSB : SB (w2.alloc (.cells #[.int .u64 (s.r 0), .int .u64 (s.r 1), .int .u64 (s.r 2), .int .u64 (s.r 3), .int .u64 (s.r 4), .int .u64 (s.r 5), .int .u64 (s.r 6), .int .u64 (s.r 7), .slice aS l.length cap, .int .i64 s.pc] 45)) w2.heap.size s aS l.length cap := heap_alloc_new w2 _
  have hI := hI.later bA
  have hB := past hB bA
  clear bA hst
  generalize w2.alloc (.cells #[.int .u64 (s.r 0), .int .u64 (s.r 1), .int .u64 (s.r 2), .int .u64 (s.r 3), .int .u64 (s.r 4), .int .u64 (s.r 5), .int .u64 (s.r 6), .int .u64 (s.r 7), .slice aS l.length cap, .int .i64 s.pc] 45) = W1 at *
  generalize w2.heap.size = Ps at *
  have hsw' : Hid s.words := hsw
  clear hsw
  obtain ⟨o, ho⟩ : ∃ o, Hid (nextP l s.pc = o) := ⟨_, rfl⟩
  have hN := next_any (c := cap) s hI (by omega) (hV.later hB)
  rw [ho.out, nextV_nx] at hN
  have hNr := fun wx (bx : Below W1.heap.size W1 wx) => rnext_any (c := cap) s (hI.later bx) (by omega)
  simp only [ho.out, nextV_nx] at hNr
  obtain ⟨y0, y1, y2, y3, y4, y5, y6, y7, y8, y9⟩ := SCells.of hSB
  obtain ⟨b, hb⟩ : ∃ b, Hid (o.isSome = b) := ⟨_, rfl⟩
  obtain ⟨x, hx⟩ : ∃ x, Hid (nx o = x) := ⟨_, rfl⟩
  rw [hb.out, hx.out] at hN
  simp only [hb.out, hx.out] at hNr
  unfold stV insV at hN
  go_upto_region 3 with (go_at_call 19; refine hN.mono ?_; rintro e w3 ⟨rfl, b3⟩)
  have b3a := b3.alloc b3.size (.cells #[.int .i64 x.op, .int .i64 x.a, .int .i64 x.b, .int .i64 x.n] 32)
  have hX3 := C4.new w3 x.op x.a x.b x.n 32
  clear hN y0 y1 y2 y3 y4 y5 y6 y7 y8 y9
  generalize w3.alloc (.cells #[.int .i64 x.op, .int .i64 x.a, .int .i64 x.b, .int .i64 x.n] 32) = W3 at *
  generalize w3.heap.size = Px at *
  obtain ⟨y0, y1, y2, y3, y4, y5, y6, y7, y8, y9⟩ := SCells.of (hSB.later b3a)
  have hRf := fun wx => rref_any (w := wx) s aS l.length cap
  unfold stV at hRf
  unfold stV insV at hNr
  go_upto_region 4 with (first | (go_at_call 26; refine (hRf _).mono ?_; rintro e w4 ⟨rfl, b4⟩) | (go_at_call 25; refine (hNr _ (past b3a b4)).mono ?_; rintro e w5 ⟨rfl, b5⟩))
  have b5a := past (past b3a b4) (b5.alloc b5.size (.cells #[.int .i64 x.op, .int .i64 x.a, .int .i64 x.b, .int .i64 x.n] 32))
  have hX5 := hX3.later (past b4 (b5.alloc b5.size (.cells #[.int .i64 x.op, .int .i64 x.a, .int .i64 x.b, .int .i64 x.n] 32)))
  have hY5 := C4.new w5 x.op x.a x.b x.n 32
  clear hNr y0 y1 y2 y3 y4 y5 y6 y7 y8 y9 hX3 b4 b3a
  generalize w5.alloc (.cells #[.int .i64 x.op, .int .i64 x.a, .int .i64 x.b, .int .i64 x.n] 32) = W5 at *
  generalize w5.heap.size = Py at *
  have hSB5 := hSB.later b5a
  have hI5 := hI.later b5a
  have hB5 := past hB b5a
  clear hSB hI hB b5a b5 b3
  obtain ⟨sp, np, lb, al, cl, bp, hnp, hlb, hP, hPr⟩ := plain_both (c := cap) s hI5 (by omega) hp0 (hV.later hB5)
  subst hnp
  obtain ⟨y0, y1, y2, y3, y4, y5, y6, y7, y8, y9⟩ := SCells.of hSB5
  unfold stV at hP
  go_upto_region 5 with (go_at_call 18; refine hP.mono ?_; rintro e w6 ⟨a', c', rfl, hI6, b6⟩)
  have b6a := b6.alloc b6.size (.cells #[.int .u64 (sp.r 0), .int .u64 (sp.r 1), .int .u64 (sp.r 2), .int .u64 (sp.r 3), .int .u64 (sp.r 4), .int .u64 (sp.r 5), .int .u64 (sp.r 6), .int .u64 (sp.r 7), .slice a' lb.length c', .int .i64 sp.pc] 45)
  have hA6 : SB (w6.alloc (.cells #[.int .u64 (sp.r 0), .int .u64 (sp.r 1), .int .u64 (sp.r 2), .int .u64 (sp.r 3), .int .u64 (sp.r 4), .int .u64 (sp.r 5), .int .u64 (sp.r 6), .int .u64 (sp.r 7), .slice a' lb.length c', .int .i64 sp.pc] 45)) w6.heap.size sp a' lb.length c' := heap_alloc_new w6 _
  have hIa6 := hI6.later ((Below.refl _ w6).alloc (Nat.le_refl _) (.cells #[.int .u64 (sp.r 0), .int .u64 (sp.r 1), .int .u64 (sp.r 2), .int .u64 (sp.r 3), .int .u64 (sp.r 4), .int .u64 (sp.r 5), .int .u64 (sp.r 6), .int .u64 (sp.r 7), .slice a' lb.length c', .int .i64 sp.pc] 45))
  clear hP y0 y1 y2 y3 y4 y5 y6 y7 y8 y9 hI6
  generalize w6.alloc (.cells #[.int .u64 (sp.r 0), .int .u64 (sp.r 1), .int .u64 (sp.r 2), .int .u64 (sp.r 3), .int .u64 (sp.r 4), .int .u64 (sp.r 5), .int .u64 (sp.r 6), .int .u64 (sp.r 7), .slice a' lb.length c', .int .i64 sp.pc] 45) = W6 at *
  generalize w6.heap.size = Pa at *
  obtain ⟨y0, y1, y2, y3, y4, y5, y6, y7, y8, y9⟩ := SCells.of (hSB5.later b6a)
  unfold stV at hPr
  go_upto_region 6 with (first | (go_at_call 26; refine (hRf _).mono ?_; rintro e w7 ⟨rfl, b7⟩) | (go_at_call 27; refine (hPr _ (past b6a b7)).mono ?_; rintro e w8 ⟨rfl, hIb8, b8⟩))
  have b8a := b8.alloc b8.size (.cells #[.int .u64 (sp.r 0), .int .u64 (sp.r 1), .int .u64 (sp.r 2), .int .u64 (sp.r 3), .int .u64 (sp.r 4), .int .u64 (sp.r 5), .int .u64 (sp.r 6), .int .u64 (sp.r 7), .slice al lb.length cl, .int .i64 sp.pc] 57)
  have hBb : SBt 57 (w8.alloc (.cells #[.int .u64 (sp.r 0), .int .u64 (sp.r 1), .int .u64 (sp.r 2), .int .u64 (sp.r 3), .int .u64 (sp.r 4), .int .u64 (sp.r 5), .int .u64 (sp.r 6), .int .u64 (sp.r 7), .slice al lb.length cl, .int .i64 sp.pc] 57)) w8.heap.size sp al lb.length cl := heap_alloc_new w8 _
  have hIb := hIb8.later ((Below.refl _ w8).alloc (Nat.le_refl _) (.cells #[.int .u64 (sp.r 0), .int .u64 (sp.r 1), .int .u64 (sp.r 2), .int .u64 (sp.r 3), .int .u64 (sp.r 4), .int .u64 (sp.r 5), .int .u64 (sp.r 6), .int .u64 (sp.r 7), .slice al lb.length cl, .int .i64 sp.pc] 57))
  have hA := hA6.later (past b7 b8a)
  have hIa := hIa6.later (past b7 b8a)
  have b58 := past b6a (past b7 b8a)
  clear hPr y0 y1 y2 y3 y4 y5 y6 y7 y8 y9 hIb8 hA6 hIa6 b8a b7 b8 b6a b6
  generalize w8.alloc (.cells #[.int .u64 (sp.r 0), .int .u64 (sp.r 1), .int .u64 (sp.r 2), .int .u64 (sp.r 3), .int .u64 (sp.r 4), .int .u64 (sp.r 5), .int .u64 (sp.r 6), .int .u64 (sp.r 7), .slice al lb.length cl, .int .i64 sp.pc] 57) = W8 at *
  generalize w8.heap.size = Pb at *
  have hX := hX5.later b58
  have hY := hY5.later b58
  have hSB := hSB5.later b58
  have hI := hI5.later b58
  have hB := past hB5 b58
  clear hX5 hY5 hSB5 hI5 hB5 b58
  have hSm := rsame_any (c := c') (d := cl) sp hIa hIb hlb
  obtain ⟨x0, x1, x2, x3, xf⟩ := id hX
  obtain ⟨u0, u1, u2, u3, uf⟩ := hY
  obtain ⟨p0, p1, p2, p3, p4, p5, p6, p7, p8, p9⟩ := SCells.of hA
  obtain ⟨q0, q1, q2, q3, q4, q5, q6, q7, q8, q9⟩ := SCells.of hBb
  unfold stV at hSm
  go_upto_region 8 with (go_at_call 28; refine hSm.mono ?_; rintro e w9 ⟨rfl, b9⟩)
  have hX9 := hX.later b9
  have hSB9 := hSB.later b9
  have hI9 := hI.later b9
  have hB9 := past hB b9
  clear hX hSB hI hB hSm x0 x1 x2 x3 xf u0 u1 u2 u3 uf p0 p1 p2 p3 p4 p5 p6 p7 p8 p9 q0 q1 q2 q3 q4 q5 q6 q7 q8 q9 hA hBb hIa hIb b9
  have C0 := Int.emod_nonneg code (b := 9) (by omega)
  have C9 := Int.emod_lt_of_pos code (b := 9) (by omega)
  have hWn : ∀ wx, Calls Tryd.prog 17 #[.int .i64 code, .int .i64 9] wx fun e w' => e = .returned (.int .i64 (code % 9)) ∧ wx = w' := fun wx => within_any code 9 wx (by omega) (by omega)
  generalize code % 9 = K9 at *
  go_upto_region 9 with (go_at_call 17; refine (hWn _).mono ?_; rintro e wq ⟨rfl, rfl⟩)
  clear hWn
  have hd : Below w9.heap.size w9 w9.drew := (Below.refl _ w9).drew
  have HS : ∀ wx, Below w9.heap.size w9 wx → wx.cell? ⟨Ps, 0, none⟩ = some (.int .u64 (s.r 0)) ∧ wx.cell? ⟨Ps, 1, none⟩ = some (.int .u64 (s.r 1)) ∧ wx.cell? ⟨Ps, 2, none⟩ = some (.int .u64 (s.r 2)) ∧ wx.cell? ⟨Ps, 3, none⟩ = some (.int .u64 (s.r 3)) ∧ wx.cell? ⟨Ps, 4, none⟩ = some (.int .u64 (s.r 4)) ∧ wx.cell? ⟨Ps, 5, none⟩ = some (.int .u64 (s.r 5)) ∧ wx.cell? ⟨Ps, 6, none⟩ = some (.int .u64 (s.r 6)) ∧ wx.cell? ⟨Ps, 7, none⟩ = some (.int .u64 (s.r 7)) ∧ wx.cell? ⟨Ps, 8, none⟩ = some (.slice aS l.length cap) ∧ wx.cell? ⟨Ps, 9, none⟩ = some (.int .i64 s.pc) ∧ wx.cell? ⟨Px, 0, none⟩ = some (.int .i64 x.op) ∧ wx.cell? ⟨Px, 1, none⟩ = some (.int .i64 x.a) ∧ wx.cell? ⟨Px, 2, none⟩ = some (.int .i64 x.b) ∧ wx.cell? ⟨Px, 3, none⟩ = some (.int .i64 x.n) := fun wx bx => by
    obtain ⟨y0, y1, y2, y3, y4, y5, y6, y7, y8, y9⟩ := SCells.of (hSB9.later bx)
    obtain ⟨x0, x1, x2, x3, xf⟩ := hX9.later bx
    exact ⟨y0, y1, y2, y3, y4, y5, y6, y7, y8, y9, x0, x1, x2, x3⟩
  go_cut [101] (fun v wx => v = .bool false ∧ Below w.heap.size w wx)
  case first =>
    cases b with
    | false =>
      refine wp_region_held_drew (S := fun wx => wx.cell? ⟨Ps, 0, none⟩ = some (.int .u64 (s.r 0)) ∧ wx.cell? ⟨Ps, 1, none⟩ = some (.int .u64 (s.r 1)) ∧ wx.cell? ⟨Ps, 2, none⟩ = some (.int .u64 (s.r 2)) ∧ wx.cell? ⟨Ps, 3, none⟩ = some (.int .u64 (s.r 3)) ∧ wx.cell? ⟨Ps, 4, none⟩ = some (.int .u64 (s.r 4)) ∧ wx.cell? ⟨Ps, 5, none⟩ = some (.int .u64 (s.r 5)) ∧ wx.cell? ⟨Ps, 6, none⟩ = some (.int .u64 (s.r 6)) ∧ wx.cell? ⟨Ps, 7, none⟩ = some (.int .u64 (s.r 7)) ∧ wx.cell? ⟨Ps, 8, none⟩ = some (.slice aS l.length cap) ∧ wx.cell? ⟨Ps, 9, none⟩ = some (.int .i64 s.pc) ∧ wx.cell? ⟨Px, 0, none⟩ = some (.int .i64 x.op) ∧ wx.cell? ⟨Px, 1, none⟩ = some (.int .i64 x.a) ∧ wx.cell? ⟨Px, 2, none⟩ = some (.int .i64 x.b) ∧ wx.cell? ⟨Px, 3, none⟩ = some (.int .i64 x.n)) (by kernel_rfl) (HS _ hd) (fun hHeld => ?_)
      refine wpAnyH_take (i := 0) (oi := { dst := some 67, op := _, type := _, pos := _, after := _, guard := _ }) (v := ?_) rfl (by kernel_rfl) (by kernel_rfl) (by kernel_rfl) (fun _ _ _ h => h) (Or.inl ⟨by rfl, ?_⟩) (by assumption) ?_
      rotate_left
      · intro wz hSw; (try dsimp only at hSw); go_simp; try with_reducible rfl
      (try simp only [Act.put]); (try simp only [List.setIfInBounds_toArray]); (try simp only [List.set_cons_succ]); (try simp only [List.set_cons_zero])
      refine wpAnyH_take (i := 1) (oi := { dst := some 68, op := _, type := _, pos := _, after := _, guard := _ }) (v := ?_) rfl (by kernel_rfl) (by kernel_rfl) (by kernel_rfl) (fun _ _ _ h => h) (Or.inl ⟨by rfl, ?_⟩) (by assumption) ?_
      rotate_left
      · intro wz hSw; (try dsimp only at hSw); go_simp; try with_reducible rfl
      (try simp only [Act.put]); (try simp only [List.setIfInBounds_toArray]); (try simp only [List.set_cons_succ]); (try simp only [List.set_cons_zero])
      refine wpAnyH_take (i := 2) (oi := { dst := some 69, op := _, type := _, pos := _, after := _, guard := _ }) (v := undef) rfl (by kernel_rfl) (by kernel_rfl) (by kernel_rfl) (fun _ _ _ h => h) (Or.inr ⟨by kernel_rfl, rfl⟩) (by assumption) ?_
      refine wpAnyH_take (i := 3) (oi := { dst := some 70, op := _, type := _, pos := _, after := _, guard := _ }) (v := undef) rfl (by kernel_rfl) (by kernel_rfl) (by kernel_rfl) (fun _ _ _ h => h) (Or.inr ⟨by kernel_rfl, rfl⟩) (by assumption) ?_
      refine wpAnyH_take (i := 4) (oi := { dst := some 71, op := _, type := _, pos := _, after := _, guard := _ }) (v := undef) rfl (by kernel_rfl) (by kernel_rfl) (by kernel_rfl) (fun _ _ _ h => h) (Or.inr ⟨by kernel_rfl, rfl⟩) (by assumption) ?_
      refine wpAnyH_take (i := 5) (oi := { dst := some 72, op := _, type := _, pos := _, after := _, guard := _ }) (v := undef) rfl (by kernel_rfl) (by kernel_rfl) (by kernel_rfl) (fun _ _ _ h => h) (Or.inr ⟨by kernel_rfl, rfl⟩) (by assumption) ?_
      refine wpAnyH_take (i := 6) (oi := { dst := some 73, op := _, type := _, pos := _, after := _, guard := _ }) (v := undef) rfl (by kernel_rfl) (by kernel_rfl) (by kernel_rfl) (fun _ _ _ h => h) (Or.inr ⟨by kernel_rfl, rfl⟩) (by assumption) ?_
      refine wpAnyH_take (i := 7) (oi := { dst := some 74, op := _, type := _, pos := _, after := _, guard := _ }) (v := undef) rfl (by kernel_rfl) (by kernel_rfl) (by kernel_rfl) (fun _ _ _ h => h) (Or.inr ⟨by kernel_rfl, rfl⟩) (by assumption) ?_
      refine wpAnyH_take (i := 8) (oi := { dst := some 75, op := _, type := _, pos := _, after := _, guard := _ }) (v := undef) rfl (by kernel_rfl) (by kernel_rfl) (by kernel_rfl) (fun _ _ _ h => h) (Or.inr ⟨by kernel_rfl, rfl⟩) (by assumption) ?_
      refine wpAnyH_take (i := 9) (oi := { dst := some 76, op := _, type := _, pos := _, after := _, guard := _ }) (v := undef) rfl (by kernel_rfl) (by kernel_rfl) (by kernel_rfl) (fun _ _ _ h => h) (Or.inr ⟨by kernel_rfl, rfl⟩) (by assumption) ?_
      refine wpAnyH_take (i := 10) (oi := { dst := some 77, op := _, type := _, pos := _, after := _, guard := _ }) (v := undef) rfl (by kernel_rfl) (by kernel_rfl) (by kernel_rfl) (fun _ _ _ h => h) (Or.inr ⟨by kernel_rfl, rfl⟩) (by assumption) ?_
      refine wpAnyH_take (i := 11) (oi := { dst := some 78, op := _, type := _, pos := _, after := _, guard := _ }) (v := undef) rfl (by kernel_rfl) (by kernel_rfl) (by kernel_rfl) (fun _ _ _ h => h) (Or.inr ⟨by kernel_rfl, rfl⟩) (by assumption) ?_
      refine wpAnyH_take (i := 12) (oi := { dst := some 79, op := _, type := _, pos := _, after := _, guard := _ }) (v := undef) rfl (by kernel_rfl) (by kernel_rfl) (by kernel_rfl) (fun _ _ _ h => h) (Or.inr ⟨by kernel_rfl, rfl⟩) (by assumption) ?_
      refine wpAnyH_take (i := 13) (oi := { dst := some 80, op := _, type := _, pos := _, after := _, guard := _ }) (v := undef) rfl (by kernel_rfl) (by kernel_rfl) (by kernel_rfl) (fun _ _ _ h => h) (Or.inr ⟨by kernel_rfl, rfl⟩) (by assumption) ?_
      refine wpAnyH_take (i := 14) (oi := { dst := some 81, op := _, type := _, pos := _, after := _, guard := _ }) (v := undef) rfl (by kernel_rfl) (by kernel_rfl) (by kernel_rfl) (fun _ _ _ h => h) (Or.inr ⟨by kernel_rfl, rfl⟩) (by assumption) ?_
      refine wpAnyH_take (i := 15) (oi := { dst := some 82, op := _, type := _, pos := _, after := _, guard := _ }) (v := undef) rfl (by kernel_rfl) (by kernel_rfl) (by kernel_rfl) (fun _ _ _ h => h) (Or.inr ⟨by kernel_rfl, rfl⟩) (by assumption) ?_
      refine wpAnyH_take (i := 16) (oi := { dst := some 83, op := _, type := _, pos := _, after := _, guard := _ }) (v := undef) rfl (by kernel_rfl) (by kernel_rfl) (by kernel_rfl) (fun _ _ _ h => h) (Or.inr ⟨by kernel_rfl, rfl⟩) (by assumption) ?_
      refine wpAnyH_take (i := 17) (oi := { dst := some 84, op := _, type := _, pos := _, after := _, guard := _ }) (v := undef) rfl (by kernel_rfl) (by kernel_rfl) (by kernel_rfl) (fun _ _ _ h => h) (Or.inr ⟨by kernel_rfl, rfl⟩) (by assumption) ?_
      refine wpAnyH_take (i := 18) (oi := { dst := some 85, op := _, type := _, pos := _, after := _, guard := _ }) (v := undef) rfl (by kernel_rfl) (by kernel_rfl) (by kernel_rfl) (fun _ _ _ h => h) (Or.inr ⟨by kernel_rfl, rfl⟩) (by assumption) ?_
      refine wpAnyH_take (i := 19) (oi := { dst := some 86, op := _, type := _, pos := _, after := _, guard := _ }) (v := undef) rfl (by kernel_rfl) (by kernel_rfl) (by kernel_rfl) (fun _ _ _ h => h) (Or.inr ⟨by kernel_rfl, rfl⟩) (by assumption) ?_
      refine wpAnyH_take (i := 20) (oi := { dst := some 87, op := _, type := _, pos := _, after := _, guard := _ }) (v := undef) rfl (by kernel_rfl) (by kernel_rfl) (by kernel_rfl) (fun _ _ _ h => h) (Or.inr ⟨by kernel_rfl, rfl⟩) (by assumption) ?_
      refine wpAnyH_take (i := 21) (oi := { dst := some 88, op := _, type := _, pos := _, after := _, guard := _ }) (v := undef) rfl (by kernel_rfl) (by kernel_rfl) (by kernel_rfl) (fun _ _ _ h => h) (Or.inr ⟨by kernel_rfl, rfl⟩) (by assumption) ?_
      refine wpAnyH_take (i := 22) (oi := { dst := some 89, op := _, type := _, pos := _, after := _, guard := _ }) (v := undef) rfl (by kernel_rfl) (by kernel_rfl) (by kernel_rfl) (fun _ _ _ h => h) (Or.inr ⟨by kernel_rfl, rfl⟩) (by assumption) ?_
      refine wpAnyH_take (i := 23) (oi := { dst := some 90, op := _, type := _, pos := _, after := _, guard := _ }) (v := undef) rfl (by kernel_rfl) (by kernel_rfl) (by kernel_rfl) (fun _ _ _ h => h) (Or.inr ⟨by kernel_rfl, rfl⟩) (by assumption) ?_
      refine wpAnyH_take (i := 24) (oi := { dst := some 91, op := _, type := _, pos := _, after := _, guard := _ }) (v := undef) rfl (by kernel_rfl) (by kernel_rfl) (by kernel_rfl) (fun _ _ _ h => h) (Or.inr ⟨by kernel_rfl, rfl⟩) (by assumption) ?_
      refine wpAnyH_take (i := 25) (oi := { dst := some 92, op := _, type := _, pos := _, after := _, guard := _ }) (v := undef) rfl (by kernel_rfl) (by kernel_rfl) (by kernel_rfl) (fun _ _ _ h => h) (Or.inr ⟨by kernel_rfl, rfl⟩) (by assumption) ?_
      refine wpAnyH_take (i := 26) (oi := { dst := some 93, op := _, type := _, pos := _, after := _, guard := _ }) (v := undef) rfl (by kernel_rfl) (by kernel_rfl) (by kernel_rfl) (fun _ _ _ h => h) (Or.inr ⟨by kernel_rfl, rfl⟩) (by assumption) ?_
      refine wpAnyH_take (i := 27) (oi := { dst := some 94, op := _, type := _, pos := _, after := _, guard := _ }) (v := undef) rfl (by kernel_rfl) (by kernel_rfl) (by kernel_rfl) (fun _ _ _ h => h) (Or.inr ⟨by kernel_rfl, rfl⟩) (by assumption) ?_
      refine wpAnyH_take (i := 28) (oi := { dst := some 95, op := _, type := _, pos := _, after := _, guard := _ }) (v := undef) rfl (by kernel_rfl) (by kernel_rfl) (by kernel_rfl) (fun _ _ _ h => h) (Or.inr ⟨by kernel_rfl, rfl⟩) (by assumption) ?_
      refine wpAnyH_take (i := 29) (oi := { dst := some 96, op := _, type := _, pos := _, after := _, guard := _ }) (v := undef) rfl (by kernel_rfl) (by kernel_rfl) (by kernel_rfl) (fun _ _ _ h => h) (Or.inr ⟨by kernel_rfl, rfl⟩) (by assumption) ?_
      refine wpAnyH_take (i := 30) (oi := { dst := some 97, op := _, type := _, pos := _, after := _, guard := _ }) (v := undef) rfl (by kernel_rfl) (by kernel_rfl) (by kernel_rfl) (fun _ _ _ h => h) (Or.inr ⟨by kernel_rfl, rfl⟩) (by assumption) ?_
      refine wpAnyH_take (i := 31) (oi := { dst := some 98, op := _, type := _, pos := _, after := _, guard := _ }) (v := undef) rfl (by kernel_rfl) (by kernel_rfl) (by kernel_rfl) (fun _ _ _ h => h) (Or.inr ⟨by kernel_rfl, rfl⟩) (by assumption) ?_
      refine wpAnyH_take (i := 32) (oi := { dst := some 99, op := _, type := _, pos := _, after := _, guard := _ }) (v := undef) rfl (by kernel_rfl) (by kernel_rfl) (by kernel_rfl) (fun _ _ _ h => h) (Or.inr ⟨by kernel_rfl, rfl⟩) (by assumption) ?_
      refine wpAnyH_take (i := 33) (oi := { dst := some 100, op := _, type := _, pos := _, after := _, guard := _ }) (v := undef) rfl (by kernel_rfl) (by kernel_rfl) (by kernel_rfl) (fun _ _ _ h => h) (Or.inr ⟨by kernel_rfl, rfl⟩) (by assumption) ?_
      simp only [Act.put, List.setIfInBounds_toArray, List.set_cons_succ, List.set_cons_zero]
      refine wpAnyH_take (i := 34) (oi := { dst := some 101, op := _, type := _, pos := _, after := _, guard := _ }) (v := ?_) rfl (by kernel_rfl) (by kernel_rfl) (by kernel_rfl) (fun _ _ _ h => h) (Or.inl ⟨by rfl, ?_⟩) (by assumption) ?_
      rotate_left
      · intro wz hSw; (try dsimp only at hSw); go_simp; try with_reducible rfl
      simp only [Act.put, List.setIfInBounds_toArray, List.set_cons_succ, List.set_cons_zero]
      refine wpAnyH_done (by kernel_rfl) ?_ _
      go_wp2
      go_meet
      exact ⟨rfl, hB9.drew⟩
    | true =>
      have hox : o = some x := by
        have h1 := hb.out
        have h2 := hx.out
        cases o with
        | none => cases h1
        | some y => rw [← h2]; rfl
      have hnk := next_ok (ho.out.trans hox)
      obtain ⟨g0, g1, _, hok⟩ := hnk
      have hab := ok_ab hok
      have hl1000 : l.length ≤ 1000 := by omega
      have hreg : 0 ≤ s.reg x.b ∧ s.reg x.b < 18446744073709551616 := by
        unfold RS.reg; rw [if_pos hab.2.1]; exact hsw'.out _
      have hAd : ∀ wx, Calls Tryd.prog 20 #[.agg #[.int .u64 (s.r 0), .int .u64 (s.r 1), .int .u64 (s.r 2), .int .u64 (s.r 3), .int .u64 (s.r 4), .int .u64 (s.r 5), .int .u64 (s.r 6), .int .u64 (s.r 7), .slice aS l.length cap, .int .i64 s.pc], .agg #[.int .i64 x.op, .int .i64 x.a, .int .i64 x.b, .int .i64 x.n]] wx fun e w' => e = .returned (.int .u64 (addW (s.reg x.b) x.n)) ∧ Below wx.heap.size wx w' := fun wx => address_any (w := wx) s aS l.length cap x hab.2.2 hreg
      have hrAd : ∀ wx, Calls Tryd.prog 29 #[.agg #[.int .u64 (s.r 0), .int .u64 (s.r 1), .int .u64 (s.r 2), .int .u64 (s.r 3), .int .u64 (s.r 4), .int .u64 (s.r 5), .int .u64 (s.r 6), .int .u64 (s.r 7), .slice aS l.length cap, .int .i64 s.pc], .agg #[.int .i64 x.op, .int .i64 x.a, .int .i64 x.b, .int .i64 x.n]] wx fun e w' => e = .returned (.int .u64 (addW (s.reg x.b) x.n)) ∧ Below wx.heap.size wx w' := fun wx => raddr_any (w := wx) s aS l.length cap x hok hsw'.out
      have hDn : ∀ wx, Below w9.heap.size w9 wx → Calls Tryd.prog 21 #[.agg #[.int .u64 (s.r 0), .int .u64 (s.r 1), .int .u64 (s.r 2), .int .u64 (s.r 3), .int .u64 (s.r 4), .int .u64 (s.r 5), .int .u64 (s.r 6), .int .u64 (s.r 7), .slice aS l.length cap, .int .i64 s.pc], .agg #[.int .i64 x.op, .int .i64 x.a, .int .i64 x.b, .int .i64 x.n], .int .u64 v] wx fun e w' => ∃ a' c', e = .returned (.agg #[.int .u64 ((doneP l.length s x v).r 0), .int .u64 ((doneP l.length s x v).r 1), .int .u64 ((doneP l.length s x v).r 2), .int .u64 ((doneP l.length s x v).r 3), .int .u64 ((doneP l.length s x v).r 4), .int .u64 ((doneP l.length s x v).r 5), .int .u64 ((doneP l.length s x v).r 6), .int .u64 ((doneP l.length s x v).r 7), .slice a' l.length c', .int .i64 (doneP l.length s x v).pc]) ∧ IsL w' a' l ∧ Below wx.heap.size wx w' := fun wx bx => (done_some (n := l.length) (c := cap) (w := wx) x v rfl rfl (hI9.later bx) hl1000 hp0).mono fun e w' h => by
        obtain ⟨a', c', he, hi, hb⟩ := h
        exact ⟨a', c', he, hi.toL, hb⟩
      have hrDn : ∀ wx, Calls Tryd.prog 30 #[.agg #[.int .u64 (s.r 0), .int .u64 (s.r 1), .int .u64 (s.r 2), .int .u64 (s.r 3), .int .u64 (s.r 4), .int .u64 (s.r 5), .int .u64 (s.r 6), .int .u64 (s.r 7), .slice aS l.length cap, .int .i64 s.pc], .agg #[.int .i64 x.op, .int .i64 x.a, .int .i64 x.b, .int .i64 x.n], .int .u64 v] wx fun e w' => e = .returned (.agg #[.int .u64 ((doneP l.length s x v).r 0), .int .u64 ((doneP l.length s x v).r 1), .int .u64 ((doneP l.length s x v).r 2), .int .u64 ((doneP l.length s x v).r 3), .int .u64 ((doneP l.length s x v).r 4), .int .u64 ((doneP l.length s x v).r 5), .int .u64 ((doneP l.length s x v).r 6), .int .u64 ((doneP l.length s x v).r 7), .slice aS l.length cap, .int .i64 (doneP l.length s x v).pc]) ∧ Below wx.heap.size wx w' := fun wx => rdone_any (w := wx) s aS l.length cap x v hok ⟨g0, g1⟩ hl1000
      have hFl : ∀ wx, Below w9.heap.size w9 wx → Calls Tryd.prog 22 #[.agg #[.int .u64 (s.r 0), .int .u64 (s.r 1), .int .u64 (s.r 2), .int .u64 (s.r 3), .int .u64 (s.r 4), .int .u64 (s.r 5), .int .u64 (s.r 6), .int .u64 (s.r 7), .slice aS l.length cap, .int .i64 s.pc], .int .i64 K9] wx fun e w' => ∃ a' c', e = .returned (.agg #[.int .u64 ((faultP l.length s K9).r 0), .int .u64 ((faultP l.length s K9).r 1), .int .u64 ((faultP l.length s K9).r 2), .int .u64 ((faultP l.length s K9).r 3), .int .u64 ((faultP l.length s K9).r 4), .int .u64 ((faultP l.length s K9).r 5), .int .u64 ((faultP l.length s K9).r 6), .int .u64 ((faultP l.length s K9).r 7), .slice a' l.length c', .int .i64 (faultP l.length s K9).pc]) ∧ IsL w' a' l ∧ Below wx.heap.size wx w' := fun wx bx => (fault_some (n := l.length) (c := cap) (w := wx) K9 rfl rfl (hI9.later bx) hl1000 hp0 ⟨C0, C9⟩).mono fun e w' h => by
        obtain ⟨a', c', he, hi, hb⟩ := h
        exact ⟨a', c', he, hi.toL, hb⟩
      have hrFl : ∀ wx, Calls Tryd.prog 31 #[.agg #[.int .u64 (s.r 0), .int .u64 (s.r 1), .int .u64 (s.r 2), .int .u64 (s.r 3), .int .u64 (s.r 4), .int .u64 (s.r 5), .int .u64 (s.r 6), .int .u64 (s.r 7), .slice aS l.length cap, .int .i64 s.pc], .int .i64 K9] wx fun e w' => e = .returned (.agg #[.int .u64 ((faultP l.length s K9).r 0), .int .u64 ((faultP l.length s K9).r 1), .int .u64 ((faultP l.length s K9).r 2), .int .u64 ((faultP l.length s K9).r 3), .int .u64 ((faultP l.length s K9).r 4), .int .u64 ((faultP l.length s K9).r 5), .int .u64 ((faultP l.length s K9).r 6), .int .u64 ((faultP l.length s K9).r 7), .slice aS l.length cap, .int .i64 (faultP l.length s K9).pc]) ∧ Below wx.heap.size wx w' := fun wx => rfault_any (w := wx) s aS l.length cap K9 ⟨C0, C9⟩ ⟨g0, g1⟩ hl1000
      have hSm : ∀ (s' : RS) (a' : Option Addr) (c' : Nat) wx, Below w9.heap.size w9 wx → IsL wx a' l → Calls Tryd.prog 28 #[.agg #[.int .u64 (s'.r 0), .int .u64 (s'.r 1), .int .u64 (s'.r 2), .int .u64 (s'.r 3), .int .u64 (s'.r 4), .int .u64 (s'.r 5), .int .u64 (s'.r 6), .int .u64 (s'.r 7), .slice a' l.length c', .int .i64 s'.pc], .agg #[.int .u64 (s'.r 0), .int .u64 (s'.r 1), .int .u64 (s'.r 2), .int .u64 (s'.r 3), .int .u64 (s'.r 4), .int .u64 (s'.r 5), .int .u64 (s'.r 6), .int .u64 (s'.r 7), .slice aS l.length cap, .int .i64 s'.pc]] wx fun e w' => e = .returned (.bool true) ∧ Below wx.heap.size wx w' := fun s' a' c' wx bx hi => rsame_any (w := wx) (c := c') (d := cap) s' hi (hI9.later bx) hl1000
      clear hox hok hab hreg hl1000 hI9 hX9 hSB9
      generalize doneP l.length s x v = sd at *
      generalize faultP l.length s K9 = sf at *
      generalize addW (s.reg x.b) x.n = ya at *
      have hcur := hd
      go_region_held3 (fun wx => wx.cell? ⟨Ps, 0, none⟩ = some (.int .u64 (s.r 0)) ∧ wx.cell? ⟨Ps, 1, none⟩ = some (.int .u64 (s.r 1)) ∧ wx.cell? ⟨Ps, 2, none⟩ = some (.int .u64 (s.r 2)) ∧ wx.cell? ⟨Ps, 3, none⟩ = some (.int .u64 (s.r 3)) ∧ wx.cell? ⟨Ps, 4, none⟩ = some (.int .u64 (s.r 4)) ∧ wx.cell? ⟨Ps, 5, none⟩ = some (.int .u64 (s.r 5)) ∧ wx.cell? ⟨Ps, 6, none⟩ = some (.int .u64 (s.r 6)) ∧ wx.cell? ⟨Ps, 7, none⟩ = some (.int .u64 (s.r 7)) ∧ wx.cell? ⟨Ps, 8, none⟩ = some (.slice aS l.length cap) ∧ wx.cell? ⟨Ps, 9, none⟩ = some (.int .i64 s.pc) ∧ wx.cell? ⟨Px, 0, none⟩ = some (.int .i64 x.op) ∧ wx.cell? ⟨Px, 1, none⟩ = some (.int .i64 x.a) ∧ wx.cell? ⟨Px, 2, none⟩ = some (.int .i64 x.b) ∧ wx.cell? ⟨Px, 3, none⟩ = some (.int .i64 x.n)) (first | with_reducible exact HS _ hcur)
        (first
          | (go_at_call 20; with_reducible refine (hAd _).mono ?_; rintro e wq ⟨rfl, bq⟩; have hcur := past hcur bq)
          | (go_at_call 29; with_reducible refine (hrAd _).mono ?_; rintro e wq ⟨rfl, bq⟩; have hcur := past hcur bq)
          | (go_at_call 26; with_reducible refine (hRf _).mono ?_; rintro e wq ⟨rfl, bq⟩; have hcur := past hcur bq; (try have hID := hID.later bq); (try have hIE := hIE.later bq))
          | (go_at_call 21; with_reducible refine (hDn _ hcur).mono ?_; rintro e wq ⟨aD, cD, rfl, hID, bq⟩; have hcur := past hcur bq)
          | (go_at_call 30; with_reducible refine (hrDn _).mono ?_; rintro e wq ⟨rfl, bq⟩; have hcur := past hcur bq; have hID := hID.later bq)
          | (go_at_call 22; with_reducible refine (hFl _ hcur).mono ?_; rintro e wq ⟨aE, cE, rfl, hIE, bq⟩; have hcur := past hcur bq)
          | (go_at_call 31; with_reducible refine (hrFl _).mono ?_; rintro e wq ⟨rfl, bq⟩; have hcur := past hcur bq; have hIE := hIE.later bq)
          | (go_at_call 28; with_reducible refine (hSm sd aD cD _ hcur hID).mono ?_; rintro e wq ⟨rfl, bq⟩; have hcur := past hcur bq)
          | (go_at_call 28; with_reducible refine (hSm sf aE cE _ hcur hIE).mono ?_; rintro e wq ⟨rfl, bq⟩; have hcur := past hcur bq))
      all_goals go_wp2
      all_goals go_meet
      all_goals exact ⟨rfl, past hB9 hcur⟩
  case rest =>
    obtain ⟨rfl, hBc⟩ := hcut
    go_wp2_with fail
    refine (wakes8 _ (hV.later hBc)).mono ?_
    rintro e wz ⟨rfl, bz⟩
    go_wp2_with fail
    go_ret
    exact ⟨rfl, past hBc bz⟩
end Go.Proofs.YtdhamejgdapdjaaDoor
