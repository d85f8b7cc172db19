/-
  regs: Plain.
-/
import Derived.Test.YtfbmjagchjhddaaDoorRegF
namespace Go.Proofs.YtfbmjagchjhddaaDoor
open Go.ChangeShapes Go.WideShapes Go.ChangeAt Go.RowKit

/-- What Plain answers. -/
def PlainEnd (w : World) (o : Option RS) (l : List Ins) (e : Ending) (w' : World) : Prop :=
  Below w.heap.size w w' ∧ match o with
    | none => e = .returned (.tuple #[stV RS.zero none 0 0, .bool false])
    | some s => ∃ a c, e = .returned (.tuple #[stV s a l.length c, .bool true]) ∧ IsN w' w.heap.size a l

theorem PlainEnd.no {w w' : World} {l : List Ins} (b : Below w.heap.size w w') : PlainEnd w none l (.returned (.tuple #[stV RS.zero none 0 0, .bool false])) w' := ⟨b, rfl⟩
theorem PlainEnd.yes {w w' : World} {l : List Ins} {s : RS} {a : Option Addr} {c : Nat} (h : StEnd w s l (.returned (stV s a l.length c)) w') : PlainEnd w (some s) l (.returned (.tuple #[stV s a l.length c, .bool true])) w' := by
  obtain ⟨a', c', he, hI, hB⟩ := h
  simp only [stV, Ending.returned.injEq, Value.agg.injEq, Array.mk.injEq, List.cons.injEq, Value.slice.injEq, and_true, true_and] at he
  obtain ⟨rfl, rfl⟩ := he
  exact ⟨hB, a, c, rfl, hI⟩

theorem SCells.later {w w' : World} {g : Nat} {r : Nat → Int} {v p : Value} (h : SCells w g r v p) (b : Below w.heap.size w w') : SCells w' g r v p := by
  have hl : g < w.heap.size := lt_of_cell h.c0
  exact ⟨(b.cell hl).trans h.c0, (b.cell hl).trans h.c1, (b.cell hl).trans h.c2, (b.cell hl).trans h.c3, (b.cell hl).trans h.c4, (b.cell hl).trans h.c5, (b.cell hl).trans h.c6, (b.cell hl).trans h.c7, (b.cell hl).trans h.c8, (b.cell hl).trans h.c9⟩

set_option maxRecDepth 20000 in
set_option maxHeartbeats 2000000 in
theorem plain_any {w : World} (s : RS) {a : Option Addr} {c : Nat} {l : List Ins} (h : IsL w a l) (hl : l.length ≤ 1000) (hpc : -9223372036854775808 ≤ s.pc) (hV : Sh w) :
    Calls Tryd.prog 17 #[stV s a l.length c] w (PlainEnd w (plainP l s) l) := by
  have hW := sBox_below w s a l.length c
  have hB := sBox_new w s a l.length c
  have hsz := sBox_size w s a l.length c
  have hI := h.later hW
  have hS := (Below.heap_alloc (w.alloc (.cells #[.int .u64 (s.r 0), .int .u64 (s.r 1), .int .u64 (s.r 2), .int .u64 (s.r 3), .int .u64 (s.r 4), .int .u64 (s.r 5), .int .u64 (s.r 6), .int .u64 (s.r 7), .slice a l.length c, .int .i64 s.pc] 45)) (.cells zCells 45) w.heap.size (by simp)).trans (heap_alloc_new w _)
  have hN := next_any (c := c) s hI hl (hV.later hW)
  unfold plainP
  obtain ⟨o, ho⟩ : ∃ o, Hid (nextP l s.pc = o) := ⟨_, rfl⟩
  rw [ho.out] at hN ⊢
  obtain ⟨q, hq⟩ : ∃ q, Hid (o.bind (plainX l.length s) = q) := ⟨_, rfl⟩
  rw [hq.out]
  unfold stV at hN
  unfold stV
  go_enter Tryd.func17, Tryd.ntmps17
  go_wp2_with fail
  refine hN.mono ?_
  rintro e w1 ⟨rfl, b1⟩
  have K1 := cells_of hS b1
  have K2 := cells_of hB b1
  have B1 := past hW b1
  have hs1 := b1.size
  rw [hsz] at hs1
  cases o with
  | none =>
    have hq' : q = none := hq.out.symm
    subst hq'
    have bA := (Below.refl w1.heap.size w1).alloc (Nat.le_refl _) (.cells #[.int .i64 0, .int .i64 0, .int .i64 0, .int .i64 0] 32)
    have R1 := cells_of K2 bA
    have BW := past B1 bA
    obtain ⟨m0, m1, m2, m3, m4, m5, m6, m7, m8, m9⟩ := SCells.of (r := fun _ => 0) R1
    have mf := cells_frozen R1
    unfold nextV insV
    go_upto_region 2 with fail
    generalize w1.alloc (.cells #[.int .i64 0, .int .i64 0, .int .i64 0, .int .i64 0] 32) = W1 at *
    go_wp2_with fail
    refine bodyPost_ret (v := .tuple #[stV RS.zero none 0 0, .bool false]) (by simp [results, Tryd.results17, go_sem, stV, RS.zero, m0, m1, m2, m3, m4, m5, m6, m7, m8, m9]) rfl ?_
    refine PlainEnd.no ?_
    repeat (with_reducible refine Below.setCell ?_ (Nat.le_succ _) _)
    exact BW
  | some x =>
    have hx := (next_ok ho.out).2.2.2
    obtain ⟨op, xa, xb, xn⟩ := x
    unfold nextV insV
    go_upto_block 0 with fail
    have KX := C4.new w1 op xa xb xn 32
    have bA := (Below.refl w1.heap.size w1).alloc (Nat.le_refl _) (.cells #[.int .i64 op, .int .i64 xa, .int .i64 xb, .int .i64 xn] 32)
    have S1 := SCells.of (cells_of K1 bA)
    have R1 := cells_of K2 bA
    have BW := past B1 bA
    have hsW : w.heap.size + 2 ≤ (w1.alloc (.cells #[.int .i64 op, .int .i64 xa, .int .i64 xb, .int .i64 xn] 32)).heap.size := by rw [World.size_alloc]; omega
    generalize w1.alloc (.cells #[.int .i64 op, .int .i64 xa, .int .i64 xb, .int .i64 xn] 32) = W1 at *
    generalize w1.heap.size = P at *
    clear K1 K2 B1 bA b1
    clear w1
    have S1' := S1
    obtain ⟨z0, z1, z2, z3, z4, z5, z6, z7, z8, z9⟩ := S1
    obtain ⟨m0, m1, m2, m3, m4, m5, m6, m7, m8, m9⟩ := SCells.of (r := fun _ => 0) R1
    have mf := cells_frozen R1
    have KX' := KX
    obtain ⟨x0, x1, x2, x3, xf⟩ := KX
    have hIW := h.later BW
    have hab := ok_ab hx
    have hop := ok_op hx
    simp only at hab hop
    clear hx hI hN hS hB hsz ho
    by_cases h1 : op = 1
    · subst h1
      have hn : IntKind.u64.wrap xn = xn := by rw [u64w]; omega
      have hWi := with_any s a l.length c xa xn W1
      have hq' : q = some ((s.set xa xn).on l.length) := hq.out.symm
      subst hq'
      clear hq
      have hqc : -9223372036854775808 ≤ (s.set xa xn).pc := by unfold RS.set; split <;> exact hpc
      have hF := fun w2 (b2 : Below W1.heap.size W1 w2) => StEnd.with (further_any (c := c) (w := w2) (s.set xa xn) (hIW.later b2) hl hqc) (cells_of R1 b2)
      generalize s.set xa xn = s' at *
      generalize s'.on l.length = s2 at *
      unfold stV at hWi
      go_wp2_with fail
      refine hWi.mono ?_
      rintro e w2 ⟨rfl, b2⟩
      have hF := hF w2 b2
      unfold stV at hF
      go_wp2_with fail
      refine hF.mono ?_
      rintro e w3 ⟨a', c', rfl, hI1, b3, ⟨n0, n1, n2, n3, n4, n5, n6, n7, n8, n9⟩, nf⟩
      unfold stV
      go_wp2_with fail
      refine bodyPost_ret (v := .tuple #[stV s2 a' l.length c', .bool true]) (by simp [results, Tryd.results17, go_sem, stV, n0, n1, n2, n3, n4, n5, n6, n7, n8, n9]) rfl (PlainEnd.yes (ten hI1 b3 (past BW b2) (by omega) (by have := b2.size; omega)))
    · by_cases h2 : op = 2
      · subst h2
        have hq' : q = some ((s.set xa (addW (s.reg xa) (s.reg xb))).on l.length) := hq.out.symm
        subst hq'
        clear hq
        have hd : Below W1.heap.size W1 W1.drew := (Below.refl _ W1).drew
        have hRa : ∀ wx, Below W1.heap.size W1 wx → Calls Tryd.prog 32 #[.agg #[.int .u64 (s.r 0), .int .u64 (s.r 1), .int .u64 (s.r 2), .int .u64 (s.r 3), .int .u64 (s.r 4), .int .u64 (s.r 5), .int .u64 (s.r 6), .int .u64 (s.r 7), .slice a l.length c, .int .i64 s.pc], .int .i64 xa] wx fun e w' => e = .returned (.int .u64 (s.reg xa)) ∧ Below W1.heap.size W1 w' := fun wx bx => (register_any s a l.length c xa wx).mono fun e w' ⟨he, hb⟩ => ⟨he, past bx hb⟩
        have hRb : ∀ wx, Below W1.heap.size W1 wx → Calls Tryd.prog 32 #[.agg #[.int .u64 (s.r 0), .int .u64 (s.r 1), .int .u64 (s.r 2), .int .u64 (s.r 3), .int .u64 (s.r 4), .int .u64 (s.r 5), .int .u64 (s.r 6), .int .u64 (s.r 7), .slice a l.length c, .int .i64 s.pc], .int .i64 xb] wx fun e w' => e = .returned (.int .u64 (s.reg xb)) ∧ Below W1.heap.size W1 w' := fun wx bx => (register_any s a l.length c xb wx).mono fun e w' ⟨he, hb⟩ => ⟨he, past bx hb⟩
        have hWi : ∀ wx, Below W1.heap.size W1 wx → Calls Tryd.prog 31 #[.agg #[.int .u64 (s.r 0), .int .u64 (s.r 1), .int .u64 (s.r 2), .int .u64 (s.r 3), .int .u64 (s.r 4), .int .u64 (s.r 5), .int .u64 (s.r 6), .int .u64 (s.r 7), .slice a l.length c, .int .i64 s.pc], .int .i64 xa, .int .u64 (addW (s.reg xa) (s.reg xb))] wx fun e w' => e = .returned (stV (s.set xa (addW (s.reg xa) (s.reg xb))) a l.length c) ∧ Below W1.heap.size W1 w' := fun wx bx => (with_any s a l.length c xa (addW (s.reg xa) (s.reg xb)) wx).mono fun e w' ⟨he, hb⟩ => ⟨he, past bx hb⟩
        have hqc : -9223372036854775808 ≤ (s.set xa (addW (s.reg xa) (s.reg xb))).pc := by unfold RS.set; split <;> exact hpc
        have hF : ∀ w2, Below W1.heap.size W1 w2 → Calls Tryd.prog 30 #[stV (s.set xa (addW (s.reg xa) (s.reg xb))) a l.length c] w2 fun e w' => ∃ a' c', e = .returned (stV ((s.set xa (addW (s.reg xa) (s.reg xb))).on l.length) a' l.length c') ∧ IsN w' W1.heap.size a' l ∧ Below W1.heap.size W1 w' ∧ SCells w' (w.heap.size + 1) (fun _ => 0) (.slice none 0 0) (.int .i64 0) ∧ (∀ i, w'.frozen? ⟨w.heap.size + 1, i, none⟩ = false) := fun w2 b2 => (StEnd.with (further_any (c := c) (w := w2) (s.set xa (addW (s.reg xa) (s.reg xb))) (hIW.later b2) hl hqc) (cells_of R1 b2)).mono fun e w' ⟨a', c', he, hi, hb, hc, hf⟩ => ⟨a', c', he, hi.mono b2.size, past b2 hb, hc, hf⟩
        have hz : IntKind.u64.wrap (s.reg xa + s.reg xb) = addW (s.reg xa) (s.reg xb) := u64w _
        generalize s.set xa (addW (s.reg xa) (s.reg xb)) = s' at *
        generalize addW (s.reg xa) (s.reg xb) = y at *
        generalize s.reg xa = ya at *
        generalize s.reg xb = yb at *
        generalize s'.on l.length = s2 at *
        have HS : ∀ wx, Below W1.heap.size W1 wx → (fun wx => wx.cell? ⟨w.heap.size, 0, none⟩ = some (.int .u64 (s.r 0)) ∧ wx.cell? ⟨w.heap.size, 1, none⟩ = some (.int .u64 (s.r 1)) ∧ wx.cell? ⟨w.heap.size, 2, none⟩ = some (.int .u64 (s.r 2)) ∧ wx.cell? ⟨w.heap.size, 3, none⟩ = some (.int .u64 (s.r 3)) ∧ wx.cell? ⟨w.heap.size, 4, none⟩ = some (.int .u64 (s.r 4)) ∧ wx.cell? ⟨w.heap.size, 5, none⟩ = some (.int .u64 (s.r 5)) ∧ wx.cell? ⟨w.heap.size, 6, none⟩ = some (.int .u64 (s.r 6)) ∧ wx.cell? ⟨w.heap.size, 7, none⟩ = some (.int .u64 (s.r 7)) ∧ wx.cell? ⟨w.heap.size, 8, none⟩ = some (.slice a l.length c) ∧ wx.cell? ⟨w.heap.size, 9, none⟩ = some (.int .i64 s.pc) ∧ wx.cell? ⟨P, 1, none⟩ = some (.int .i64 xa) ∧ wx.cell? ⟨P, 2, none⟩ = some (.int .i64 xb)) wx := fun wx bx => by
          obtain ⟨y0, y1, y2, y3, y4, y5, y6, y7, y8, y9⟩ := S1'.later bx
          obtain ⟨p0, p1, p2, p3, pf⟩ := KX'.later bx
          exact ⟨y0, y1, y2, y3, y4, y5, y6, y7, y8, y9, p1, p2⟩
        have HT : ∀ wx a' c', Below W1.heap.size W1 wx → (fun wx => wx.cell? ⟨w.heap.size, 0, none⟩ = some (.int .u64 (s.r 0)) ∧ wx.cell? ⟨w.heap.size, 1, none⟩ = some (.int .u64 (s.r 1)) ∧ wx.cell? ⟨w.heap.size, 2, none⟩ = some (.int .u64 (s.r 2)) ∧ wx.cell? ⟨w.heap.size, 3, none⟩ = some (.int .u64 (s.r 3)) ∧ wx.cell? ⟨w.heap.size, 4, none⟩ = some (.int .u64 (s.r 4)) ∧ wx.cell? ⟨w.heap.size, 5, none⟩ = some (.int .u64 (s.r 5)) ∧ wx.cell? ⟨w.heap.size, 6, none⟩ = some (.int .u64 (s.r 6)) ∧ wx.cell? ⟨w.heap.size, 7, none⟩ = some (.int .u64 (s.r 7)) ∧ wx.cell? ⟨w.heap.size, 8, none⟩ = some (.slice a l.length c) ∧ wx.cell? ⟨w.heap.size, 9, none⟩ = some (.int .i64 s.pc) ∧ wx.cell? ⟨P, 1, none⟩ = some (.int .i64 xa) ∧ wx.cell? ⟨P, 2, none⟩ = some (.int .i64 xb)) (put10 wx (w.heap.size + 1) s2 a' l.length c') := fun wx a' c' bx => by
          obtain ⟨y0, y1, y2, y3, y4, y5, y6, y7, y8, y9⟩ := S1'.later bx
          obtain ⟨p0, p1, p2, p3, pf⟩ := KX'.later bx
          have e1 : ∀ i, (put10 wx (w.heap.size + 1) s2 a' l.length c').cell? ⟨w.heap.size, i, none⟩ = wx.cell? ⟨w.heap.size, i, none⟩ := fun i => World.cell?_of_block (a := ⟨w.heap.size, i, none⟩) (put10_block (show w.heap.size ≠ w.heap.size + 1 by omega))
          have e2 : ∀ i, (put10 wx (w.heap.size + 1) s2 a' l.length c').cell? ⟨P, i, none⟩ = wx.cell? ⟨P, i, none⟩ := fun i => World.cell?_of_block (a := ⟨P, i, none⟩) (put10_block (show P ≠ w.heap.size + 1 by omega))
          exact ⟨(e1 0).trans y0, (e1 1).trans y1, (e1 2).trans y2, (e1 3).trans y3, (e1 4).trans y4, (e1 5).trans y5, (e1 6).trans y6, (e1 7).trans y7, (e1 8).trans y8, (e1 9).trans y9, (e2 1).trans p1, (e2 2).trans p2⟩
        unfold stV at hF hWi
        go_upto_region 8 with fail
        go_region_held3 (fun wx => wx.cell? ⟨w.heap.size, 0, none⟩ = some (.int .u64 (s.r 0)) ∧ wx.cell? ⟨w.heap.size, 1, none⟩ = some (.int .u64 (s.r 1)) ∧ wx.cell? ⟨w.heap.size, 2, none⟩ = some (.int .u64 (s.r 2)) ∧ wx.cell? ⟨w.heap.size, 3, none⟩ = some (.int .u64 (s.r 3)) ∧ wx.cell? ⟨w.heap.size, 4, none⟩ = some (.int .u64 (s.r 4)) ∧ wx.cell? ⟨w.heap.size, 5, none⟩ = some (.int .u64 (s.r 5)) ∧ wx.cell? ⟨w.heap.size, 6, none⟩ = some (.int .u64 (s.r 6)) ∧ wx.cell? ⟨w.heap.size, 7, none⟩ = some (.int .u64 (s.r 7)) ∧ wx.cell? ⟨w.heap.size, 8, none⟩ = some (.slice a l.length c) ∧ wx.cell? ⟨w.heap.size, 9, none⟩ = some (.int .i64 s.pc) ∧ wx.cell? ⟨P, 1, none⟩ = some (.int .i64 xa) ∧ wx.cell? ⟨P, 2, none⟩ = some (.int .i64 xb)) (first | with_reducible exact HS _ hd | with_reducible exact HS _ (by assumption) | with_reducible exact HT _ _ _ (by assumption))
          (first
            | (go_at_call 32; with_reducible refine (hRa _ (by assumption)).mono ?_; rintro e w2 ⟨rfl, b2⟩)
            | (go_at_call 32; with_reducible refine (hRb _ (by assumption)).mono ?_; rintro e w2 ⟨rfl, b2⟩)
            | (go_at_call 31; (try rw [hz]); with_reducible refine (hWi _ (by assumption)).mono ?_; rintro e w2 ⟨rfl, b2⟩)
            | (go_at_call 30; with_reducible refine (hF _ (by assumption)).mono ?_; rintro e w3 ⟨a', c', rfl, hI1, b3, ⟨n0, n1, n2, n3, n4, n5, n6, n7, n8, n9⟩, nf⟩))
        all_goals go_wp2
        all_goals
          refine bodyPost_ret (v := .tuple #[stV s2 a' l.length c', .bool true]) (by simp [results, Tryd.results17, go_sem, stV, n0, n1, n2, n3, n4, n5, n6, n7, n8, n9]) rfl (PlainEnd.yes (ten hI1 b3 BW (by omega) (by omega)))
      · by_cases h6 : op = 6
        · subst h6
          have hRg := register_any s a l.length c xa W1
          generalize hyy : s.reg xa = y at *
          by_cases hy : y = 0
          · have hq' : q = some (s.on l.length) := by rw [← hq.out]; simp [plainX, hyy, hy]
            subst hq' hy
            clear hq hyy
            have hF := fun w2 (b2 : Below W1.heap.size W1 w2) => StEnd.with (further_any (c := c) (w := w2) s (hIW.later b2) hl hpc) (cells_of R1 b2)
            generalize s.on l.length = s2 at *
            unfold stV at hRg
            go_wp2_with fail
            refine hRg.mono ?_
            rintro e w2 ⟨rfl, b2⟩
            have hF := hF w2 b2
            have Sb := S1'.later b2
            obtain ⟨y0, y1, y2, y3, y4, y5, y6, y7, y8, y9⟩ := Sb
            unfold stV at hF
            go_wp2_with fail
            refine hF.mono ?_
            rintro e w3 ⟨a', c', rfl, hI1, b3, ⟨n0, n1, n2, n3, n4, n5, n6, n7, n8, n9⟩, nf⟩
            unfold stV
            go_wp2_with fail
            refine bodyPost_ret (v := .tuple #[stV s2 a' l.length c', .bool true]) (by simp [results, Tryd.results17, go_sem, stV, n0, n1, n2, n3, n4, n5, n6, n7, n8, n9]) rfl (PlainEnd.yes (ten hI1 b3 (past BW b2) (by omega) (by have := b2.size; omega)))
          · have hq' : q = some (s.go l.length xn) := by rw [← hq.out]; simp [plainX, hyy, hy]
            subst hq'
            clear hq hyy
            have hF := fun w2 (b2 : Below W1.heap.size W1 w2) => StEnd.with (at_any (c := c) (w := w2) s xn (hIW.later b2) hl) (cells_of R1 b2)
            generalize s.go l.length xn = s2 at *
            unfold stV at hRg
            have hy' : (y == 0) = false := by simpa using hy
            go_wp2_with fail
            refine hRg.mono ?_
            rintro e w2 ⟨rfl, b2⟩
            have hF := hF w2 b2
            have Sb := S1'.later b2
            obtain ⟨y0, y1, y2, y3, y4, y5, y6, y7, y8, y9⟩ := Sb
            obtain ⟨p0, p1, p2, p3, pf⟩ := KX'.later b2
            unfold stV at hF
            go_wp2_with fail
            refine hF.mono ?_
            rintro e w3 ⟨a', c', rfl, hI1, b3, ⟨n0, n1, n2, n3, n4, n5, n6, n7, n8, n9⟩, nf⟩
            unfold stV
            go_wp2_with fail
            refine bodyPost_ret (v := .tuple #[stV s2 a' l.length c', .bool true]) (by simp [results, Tryd.results17, go_sem, stV, n0, n1, n2, n3, n4, n5, n6, n7, n8, n9]) rfl (PlainEnd.yes (ten hI1 b3 (past BW b2) (by omega) (by have := b2.size; omega)))
        · have hq' : q = none := by rw [← hq.out]; simp [plainX, h1, h2, h6]
          subst hq'
          clear hq
          go_wp2_with fail
          refine bodyPost_ret (v := .tuple #[stV RS.zero none 0 0, .bool false]) (by simp [results, Tryd.results17, go_sem, stV, RS.zero, m0, m1, m2, m3, m4, m5, m6, m7, m8, m9]) rfl ?_
          refine PlainEnd.no ?_
          repeat (with_reducible refine Below.setCell ?_ (Nat.le_succ _) _)
          exact BW
end Go.Proofs.YtfbmjagchjhddaaDoor
