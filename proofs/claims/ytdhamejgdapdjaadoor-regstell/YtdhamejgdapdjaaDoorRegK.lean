/-
  The document's registers (penumbraref01): Plain.
-/
import Derived.Test.YtdhamejgdapdjaaDoorRegJ
namespace Go.Proofs.YtdhamejgdapdjaaDoor
open Go.ChangeShapes Go.WideShapes Go.ChangeAt Go.RowKit

/-- Ten cells of a state in a block, of whatever type. -/
def SBt (t : TypeId) (w : World) (B : Nat) (s : RS) (a : Option Addr) (n c : Nat) : Prop :=
  w.heap[B]? = some (.cells #[.int .u64 (s.r 0), .int .u64 (s.r 1), .int .u64 (s.r 2), .int .u64 (s.r 3), .int .u64 (s.r 4), .int .u64 (s.r 5), .int .u64 (s.r 6), .int .u64 (s.r 7), .slice a n c, .int .i64 s.pc] t (0, 0))
theorem SBt.setR {t : TypeId} {w : World} {B : Nat} {s : RS} {a : Option Addr} {n c : Nat} (h : SBt t w B s a n c) {k : Nat} (hk : k < 8) (v : Int) : SBt t (w.setCell ⟨B, k, none⟩ (.int .u64 v)) B ⟨fun j => if j = k then v else s.r j, s.pc⟩ a n c := by
  have := setb h k (.int .u64 v)
  rcases nat8 hk with rfl | rfl | rfl | rfl | rfl | rfl | rfl | rfl <;> simpa [SBt] using this
theorem SBt.cell {t : TypeId} {w : World} {B : Nat} {s : RS} {a : Option Addr} {n c : Nat} (h : SBt t w B s a n c) {k : Nat} (hk : k < 8) : w.cell? ⟨B, k, none⟩ = some (.int .u64 (s.r k)) := (SCells.of h).cell hk
/-- What the document's Plain answers. -/
def rplV (o : Option RS) (a : Option Addr) (n c : Nat) : Value := match o with
  | none => .tuple #[stV RS.zero none 0 0, .bool false]
  | some s => .tuple #[stV s a n c, .bool true]

set_option maxRecDepth 20000 in
set_option maxHeartbeats 4000000 in
theorem rplain_any {w : World} (s : RS) {a : Option Addr} {c : Nat} {l : List Ins} (h : IsL w a l) (hl : l.length ≤ 1000) :
    Calls Tryd.prog 27 #[stV s a l.length c] w fun e w' => e = .returned (rplV (plainP l s) a l.length c) ∧ Below w.heap.size w w' := by
  have hW := rBox_below w s a l.length c
  have hB := rBox_new w s a l.length c
  have hI := h.later hW
  have hsz : (rBox w s a l.length c).heap.size = w.heap.size + 2 := by simp
  have hS := (Below.heap_alloc (w.alloc (.cells #[.int .u64 (s.r 0), .int .u64 (s.r 1), .int .u64 (s.r 2), .int .u64 (s.r 3), .int .u64 (s.r 4), .int .u64 (s.r 5), .int .u64 (s.r 6), .int .u64 (s.r 7), .slice a l.length c, .int .i64 s.pc] 57)) (.cells zCells 57) w.heap.size (by simp)).trans (heap_alloc_new w _)
  have hN := rnext_any (c := c) s hI hl
  unfold plainP
  obtain ⟨o, ho⟩ : ∃ o, Hid (nextP l s.pc = o) := ⟨_, rfl⟩
  rw [ho.out] at hN ⊢
  obtain ⟨q, hq⟩ : ∃ q, Hid (o.bind (plainX l.length s) = q) := ⟨_, rfl⟩
  rw [hq.out]
  unfold stV at hN
  unfold stV
  go_enter Tryd.func27, Tryd.ntmps27
  go_wp2_with fail
  refine hN.mono ?_
  rintro e w1 ⟨rfl, b1⟩
  have K1 := cells_of hS b1
  have K2 := cells_of hB b1
  have B1 := past hW b1
  have hs1 := b1.size
  rw [hsz] at hs1
  cases o with
  | none =>
    have hq' : q = none := hq.out.symm
    subst hq'
    have bA := (Below.refl w1.heap.size w1).alloc (Nat.le_refl _) (.cells #[.int .i64 0, .int .i64 0, .int .i64 0, .int .i64 0] 32)
    have R1 := cells_of K2 bA
    have BW := past B1 bA
    obtain ⟨m0, m1, m2, m3, m4, m5, m6, m7, m8, m9⟩ := SCells.of (r := fun _ => 0) R1
    have mf := cells_frozen R1
    unfold nextV insV
    go_upto_region 2 with fail
    generalize w1.alloc (.cells #[.int .i64 0, .int .i64 0, .int .i64 0, .int .i64 0] 32) = W1 at *
    go_wp2_with fail
    refine bodyPost_ret (v := .tuple #[stV RS.zero none 0 0, .bool false]) (by simp [results, Tryd.results27, go_sem, stV, RS.zero, m0, m1, m2, m3, m4, m5, m6, m7, m8, m9]) rfl ⟨rfl, ?_⟩
    repeat (with_reducible refine Below.setCell ?_ (Nat.le_succ _) _)
    exact BW
  | some x =>
    have hx := next_ok ho.out
    obtain ⟨op, xa, xb, xn⟩ := x
    unfold nextV insV
    go_upto_block 0 with fail
    have KX := C4.new w1 op xa xb xn 32
    have bA := (Below.refl w1.heap.size w1).alloc (Nat.le_refl _) (.cells #[.int .i64 op, .int .i64 xa, .int .i64 xb, .int .i64 xn] 32)
    replace K1 : SBt 57 (w1.alloc (.cells #[.int .i64 op, .int .i64 xa, .int .i64 xb, .int .i64 xn] 32)) w.heap.size s a l.length c := cells_of K1 bA
    have R1 := cells_of K2 bA
    have BW := past B1 bA
    generalize w1.alloc (.cells #[.int .i64 op, .int .i64 xa, .int .i64 xb, .int .i64 xn] 32) = W1 at *
    generalize w1.heap.size = P at *
    clear K2 B1 bA b1
    clear w1
    obtain ⟨z0, z1, z2, z3, z4, z5, z6, z7, z8, z9⟩ := SCells.of K1
    obtain ⟨m0, m1, m2, m3, m4, m5, m6, m7, m8, m9⟩ := SCells.of (r := fun _ => 0) R1
    have mf := cells_frozen R1
    obtain ⟨x0, x1, x2, x3, xf⟩ := id KX
    obtain ⟨hp0, hpn, _, hok⟩ := hx
    obtain ⟨ha, hb, hn0, hn1⟩ := ok_ab hok
    simp only at ha hb hn0 hn1
    obtain ⟨ha0, ha8⟩ := ha
    have ha : 0 ≤ xa ∧ xa < 8 := ⟨ha0, ha8⟩
    have hq1 : wrap64 (s.pc + 1) = s.pc + 1 := by unfold wrap64; omega
    clear hok hI hN hS hB hsz ho
    by_cases h1 : op = 1
    · subst h1
      have hn : IntKind.u64.wrap xn = xn := by rw [u64w]; omega
      obtain ⟨s2, h2⟩ : ∃ s2, Hid ((RS.set s xa (xn)).on l.length = s2) := ⟨_, rfl⟩
      have hq' : q = some s2 := by rw [← hq.out, ← h2.out]; rfl
      subst hq'
      clear hq
      have h3 : RS.go ⟨fun j => if j = xa.toNat then xn else s.r j, s.pc⟩ l.length (s.pc + 1) = s2 := by
        rw [← h2.out]; unfold RS.set; rw [if_pos ha]; exact (on_go ⟨fun j => if j = xa.toNat then xn else s.r j, s.pc⟩ l.length hpn).symm
      have hS2 := K1.setR (k := xa.toNat) (by omega) (xn)
      have hR2 := (Below.heap_setCell W1 ⟨w.heap.size, xa.toNat, none⟩ (.int .u64 (xn)) (w.heap.size + 1) (by show w.heap.size + 1 ≠ w.heap.size; omega)).trans R1
      have hO := ron_with ⟨fun j => if j = xa.toNat then xn else s.r j, s.pc⟩ a l.length c (s.pc + 1) h3 hR2
      have BW2 := BW.setCell (p := ⟨w.heap.size, xa.toNat, none⟩) (Nat.le_refl _) (.int .u64 (xn))
      have hcA := K1.cell (k := xa.toNat) (by omega)
      have hfA := cells_frozen K1 xa.toNat
      clear h3 h2
      go_upto_region 13 with fail
      generalize W1.setCell ⟨w.heap.size, xa.toNat, none⟩ (.int .u64 xn) = W2 at *
      clear z0 z1 z2 z3 z4 z5 z6 z7 z8 z9 m0 m1 m2 m3 m4 m5 m6 m7 m8 m9 mf
      obtain ⟨z0, z1, z2, z3, z4, z5, z6, z7, z8, z9⟩ := SCells.of hS2
      unfold stV at hO
      generalize (fun j => if j = xa.toNat then xn else s.r j : Nat → Int) = rr at *
      go_wp2_with fail
      refine hO.mono ?_
      rintro e w2 ⟨rfl, b2, ⟨n0, n1, n2, n3, n4, n5, n6, n7, n8, n9⟩, nf⟩
      go_wp2_with fail
      refine bodyPost_ret (v := .tuple #[stV s2 a l.length c, .bool true]) (by simp [results, Tryd.results27, go_sem, stV, n0, n1, n2, n3, n4, n5, n6, n7, n8, n9]) rfl ⟨rfl, put10_below (s := s2) (past BW2 b2) (Nat.le_succ _)⟩
    · by_cases h2 : op = 2
      · subst h2
        have hra : RS.reg s xa = s.r xa.toNat := by unfold RS.reg; rw [if_pos ha]
        have hrb : RS.reg s xb = s.r xb.toNat := by unfold RS.reg; rw [if_pos hb]
        obtain ⟨y, hy⟩ : ∃ y, Hid (addW (s.r xa.toNat) (s.r xb.toNat) = y) := ⟨_, rfl⟩
        obtain ⟨s2, h2⟩ : ∃ s2, Hid ((RS.set s xa y).on l.length = s2) := ⟨_, rfl⟩
        have hq' : q = some s2 := by rw [← hq.out, ← h2.out, ← hy.out, ← hra, ← hrb]; rfl
        subst hq'
        clear hq hra hrb
        have h3 : RS.go ⟨fun j => if j = xa.toNat then y else s.r j, s.pc⟩ l.length (s.pc + 1) = s2 := by
          rw [← h2.out]; unfold RS.set; rw [if_pos ha]; exact (on_go ⟨fun j => if j = xa.toNat then y else s.r j, s.pc⟩ l.length hpn).symm
        have hS2 := K1.setR (k := xa.toNat) (by omega) (y)
        have hR2 := (Below.heap_setCell W1 ⟨w.heap.size, xa.toNat, none⟩ (.int .u64 (y)) (w.heap.size + 1) (by show w.heap.size + 1 ≠ w.heap.size; omega)).trans R1
        have hO := ron_with ⟨fun j => if j = xa.toNat then y else s.r j, s.pc⟩ a l.length c (s.pc + 1) h3 hR2
        have BW2 := BW.setCell (p := ⟨w.heap.size, xa.toNat, none⟩) (Nat.le_refl _) (.int .u64 (y))
        have hcA := K1.cell (k := xa.toNat) (by omega)
        have hfA := cells_frozen K1 xa.toNat
        clear h2
        have hcB := K1.cell (k := xb.toNat) (by omega)
        have hz : IntKind.u64.wrap (s.r xa.toNat + s.r xb.toNat) = y := by rw [u64w, ← hy.out]; rfl
        obtain ⟨hb0, hb8⟩ := hb
        clear z0 z1 z2 z3 z4 z5 z6 z7 z8 z9 m0 m1 m2 m3 m4 m5 m6 m7 m8 m9 mf
        clear hO
        go_cut [17] (fun _ wx => SBt 57 wx w.heap.size ⟨fun j => if j = xa.toNat then y else s.r j, s.pc⟩ a l.length c ∧ wx.heap[w.heap.size + 1]? = some (.cells zCells 57 (0, 0)) ∧ Below w.heap.size w wx)
        case first =>
          go_upto_region 9 with fail
          go_region
          all_goals go_wp2
          all_goals go_meet
          all_goals exact ⟨hS2, hR2, BW2.os, BW2.tape, BW2.output, BW2.size, BW2.block⟩
        case rest =>
          obtain ⟨hS3, hR3, BW3⟩ := hcut
          have hO := ron_with ⟨fun j => if j = xa.toNat then y else s.r j, s.pc⟩ a l.length c (s.pc + 1) h3 hR3
          obtain ⟨z0, z1, z2, z3, z4, z5, z6, z7, z8, z9⟩ := SCells.of hS3
          clear h3 hS2 hR2 BW2 hS3
          unfold stV at hO
          generalize (fun j => if j = xa.toNat then y else s.r j : Nat → Int) = rr at *
          go_wp2_with fail
          refine hO.mono ?_
          rintro e w2 ⟨rfl, b2, ⟨n0, n1, n2, n3, n4, n5, n6, n7, n8, n9⟩, nf⟩
          go_wp2_with fail
          refine bodyPost_ret (v := .tuple #[stV s2 a l.length c, .bool true]) (by simp [results, Tryd.results27, go_sem, stV, n0, n1, n2, n3, n4, n5, n6, n7, n8, n9]) rfl ⟨rfl, put10_below (s := s2) (past BW3 b2) (Nat.le_succ _)⟩
      · by_cases h6 : op = 6
        · subst h6
          have hra : RS.reg s xa = s.r xa.toNat := by unfold RS.reg; rw [if_pos ha]
          have hcA := K1.cell (k := xa.toNat) (by omega)
          by_cases hy : s.r xa.toNat = 0
          · obtain ⟨s2, h2⟩ : ∃ s2, Hid (s.on l.length = s2) := ⟨_, rfl⟩
            have hq' : q = some s2 := by rw [← hq.out, ← h2.out]; simp [plainX, hra, hy]
            subst hq'
            clear hq hra
            have h3 : RS.go s l.length (s.pc + 1) = s2 := by rw [← h2.out]; exact (on_go s l.length hpn).symm
            have hO := ron_with s a l.length c (s.pc + 1) h3 R1
            rw [hy] at hcA
            clear h3 h2 hy m0 m1 m2 m3 m4 m5 m6 m7 m8 m9 mf
            unfold stV at hO
            go_wp2_with fail
            refine hO.mono ?_
            rintro e w2 ⟨rfl, b2, ⟨n0, n1, n2, n3, n4, n5, n6, n7, n8, n9⟩, nf⟩
            go_wp2_with fail
            refine bodyPost_ret (v := .tuple #[stV s2 a l.length c, .bool true]) (by simp [results, Tryd.results27, go_sem, stV, n0, n1, n2, n3, n4, n5, n6, n7, n8, n9]) rfl ⟨rfl, put10_below (s := s2) (past BW b2) (Nat.le_succ _)⟩
          · obtain ⟨s2, h2⟩ : ∃ s2, Hid (s.go l.length xn = s2) := ⟨_, rfl⟩
            have hq' : q = some s2 := by rw [← hq.out, ← h2.out]; simp [plainX, hra, hy]
            subst hq'
            clear hq hra
            have hO := ron_with s a l.length c xn h2.out R1
            have hy' : (s.r xa.toNat == 0) = false := by simpa using hy
            clear h2 m0 m1 m2 m3 m4 m5 m6 m7 m8 m9 mf
            unfold stV at hO
            go_wp2_with fail
            refine hO.mono ?_
            rintro e w2 ⟨rfl, b2, ⟨n0, n1, n2, n3, n4, n5, n6, n7, n8, n9⟩, nf⟩
            go_wp2_with fail
            refine bodyPost_ret (v := .tuple #[stV s2 a l.length c, .bool true]) (by simp [results, Tryd.results27, go_sem, stV, n0, n1, n2, n3, n4, n5, n6, n7, n8, n9]) rfl ⟨rfl, put10_below (s := s2) (past BW b2) (Nat.le_succ _)⟩
        · have hq' : q = none := by rw [← hq.out]; simp [plainX, h1, h2, h6]
          subst hq'
          clear hq
          go_wp2_with fail
          refine bodyPost_ret (v := .tuple #[stV RS.zero none 0 0, .bool false]) (by simp [results, Tryd.results27, go_sem, stV, RS.zero, m0, m1, m2, m3, m4, m5, m6, m7, m8, m9]) rfl ⟨rfl, ?_⟩
          repeat (with_reducible refine Below.setCell ?_ (Nat.le_succ _) _)
          exact BW
end Go.Proofs.YtdhamejgdapdjaaDoor
