/-
  The document's own answers on texts: ParseInsn.
-/
import Derived.Test.YtpnegpcnmmaclaaDoorRInsC
import Derived.Deep.RegionWith
import Derived.Deep.RegionHeld3
namespace Go.Proofs.YtpnegpcnmmaclaaDoor
open Go.ChangeShapes Go.WideShapes Go.ChangeAt Go.RowKit

/-- What ParseInsn answers. -/
def parseR (s : List UInt8) : Value := match parseP s with
  | some x => .tuple #[insV x, .bool true]
  | none => .tuple #[insV ⟨0, 0, 0, 0⟩, .bool false]
theorem name_inj {a b : Int} (ha : 1 ≤ a ∧ a ≤ 7) (hb : 1 ≤ b ∧ b ≤ 7) (h : (shape a).name = (shape b).name) : a = b := by
  rcases seven ha.1 ha.2 with rfl | rfl | rfl | rfl | rfl | rfl | rfl <;> rcases seven hb.1 hb.2 with rfl | rfl | rfl | rfl | rfl | rfl | rfl <;> first | rfl | (exfalso; revert h; decide)
theorem sol {s : List UInt8} {x : Ins} (h : parseP s = some x) : okP x = true ∧ wordsP s = wordsOf x ∧ 1 ≤ x.op ∧ x.op ≤ 7 := by
  obtain ⟨h1, h2⟩ := (parse_iff s x).1 h
  refine ⟨h1, by rw [← h2]; exact words_pr x h1, ?_⟩
  simp [okP] at h1; omega
/-- What stays through the readings: the answer's block (R), the words' (g). -/
structure RS (w : World) (R g : Nat) (ws : List (List UInt8)) (wr : World) : Prop where
  hR : wr.heap[R]? = some (.cells #[.int .i64 0, .int .i64 0, .int .i64 0, .int .i64 0] 32 (0, 0))
  hg : CRow wr g (strC ws)
  B : Below w.heap.size w wr
theorem RS.later {w wr wx : World} {R g : Nat} {ws : List (List UInt8)} (h : RS w R g ws wr) (b : Below wr.heap.size wr wx) : RS w R g ws wx :=
  ⟨(b.block _ (lt_of_block h.hR)).trans h.hR, h.hg.later b, h.B.trans (b.mono h.B.size)⟩
theorem opsL_at {op : Int} (h1 : 1 ≤ op) (h7 : op ≤ 7) : opsL[op.toNat]? = some (shape op).name := by
  rcases seven h1 h7 with rfl | rfl | rfl | rfl | rfl | rfl | rfl <;> rfl

/-- The instruction that is being read, at X. -/
structure PX (w : World) (R g X : Nat) (ws : List (List UInt8)) (y : Ins) (wr : World) : Prop where
  rs : RS w R g ws wr
  hX : wr.heap[X]? = some (.cells #[.int .i64 y.op, .int .i64 y.a, .int .i64 y.b, .int .i64 y.n] 32 (0, 0))
  w0 : w.heap.size ≤ X
  ne : R ≠ X ∧ g ≠ X
theorem PX.later {w wr wx : World} {R g X : Nat} {ws : List (List UInt8)} {y : Ins} (h : PX w R g X ws y wr) (b : Below wr.heap.size wr wx) : PX w R g X ws y wx :=
  ⟨h.rs.later b, (b.block _ (lt_of_block h.hX)).trans h.hX, h.w0, h.ne⟩
/-- What is read so far of x is y's. -/
def got (f : List UInt8) (k : Nat) (x y : Ins) : Prop := y.op = x.op ∧ y.a = (if (f.take k).contains 65 then x.a else 0) ∧ y.b = (if (f.take k).contains 66 then x.b else 0) ∧ y.n = (if (f.take k).contains 78 then x.n else 0)
theorem got_all {x y : Ins} (hk : okP x = true) (h : got (fieldL x.op) (fieldL x.op).length x y) : y = x := by
  obtain ⟨h0, ha, hb, hn⟩ := h
  have h17 : 1 ≤ x.op ∧ x.op ≤ 7 := by simp [okP] at hk; omega
  obtain ⟨f1, f2, f3, _, _⟩ := field_has h17.1 h17.2
  rw [List.take_length] at ha hb hn
  rw [f1] at ha; rw [f2] at hb; rw [f3] at hn
  obtain ⟨xo, xa, xb, xn⟩ := x
  obtain ⟨yo, ya, yb, yn⟩ := y
  dsimp only at *
  rcases seven h17.1 h17.2 with rfl | rfl | rfl | rfl | rfl | rfl | rfl <;> simp [okP, fitP, shape] at * <;> simp_all <;> omega

theorem letters {op : Int} (h1 : 1 ≤ op) (h7 : op ≤ 7) : ∀ c ∈ fieldL op, c = 65 ∨ c = 66 ∨ c = 78 := by
  rcases seven h1 h7 with rfl | rfl | rfl | rfl | rfl | rfl | rfl <;> decide
theorem wf_lens (l : List UInt8) : ∀ (p : List (List UInt8) × List UInt8) (n : Nat), (∀ v ∈ p.1, v.length ≤ n) → p.2.length ≤ n → (∀ v ∈ (l.foldl wstep p).1, v.length ≤ n + l.length) ∧ (l.foldl wstep p).2.length ≤ n + l.length := by
  induction l with
  | nil => intro p n h1 h2; exact ⟨h1, h2⟩
  | cons c l ih =>
    intro p n h1 h2
    rw [List.foldl_cons]
    have h : (∀ v ∈ (wstep p c).1, v.length ≤ n + 1) ∧ (wstep p c).2.length ≤ n + 1 := by
      unfold wstep
      split
      · refine ⟨fun v hv => ?_, by simp⟩
        rcases List.mem_append.1 hv with h | h
        · exact Nat.le_succ_of_le (h1 v h)
        · rw [List.mem_singleton.1 h]; exact Nat.le_succ_of_le h2
      · exact ⟨fun v hv => Nat.le_succ_of_le (h1 v hv), by simp; omega⟩
    have := ih _ (n + 1) h.1 h.2
    simp only [List.length_cons]
    exact ⟨fun v hv => by have := this.1 v hv; omega, by omega⟩
theorem word_len (l : List UInt8) : ∀ v ∈ wordsP l, v.length ≤ l.length := fun v hv => by
  have h := wf_lens l ([], []) 0 (fun _ h => by cases h) (Nat.le_refl _)
  rcases List.mem_append.1 hv with h' | h'
  · have := h.1 v h'; omega
  · rw [List.mem_singleton.1 h']; have := h.2; unfold wfold; omega

theorem RS.set {w wr : World} {R g X : Nat} {ws : List (List UInt8)} (h : RS w R g ws wr) (h0 : w.heap.size ≤ X) (hR : R ≠ X) (hg : g ≠ X) (i : Nat) (v : Value) : RS w R g ws (wr.setCell ⟨X, i, none⟩ v) := by
  refine ⟨(Below.heap_setCell wr ⟨X, i, none⟩ v R hR).trans h.hR, ?_, h.B.setCell (p := ⟨X, i, none⟩) h0 v⟩
  obtain ⟨cur, e, fr, h1, h2⟩ := h.hg
  exact ⟨cur, e, fr, (Below.heap_setCell wr ⟨X, i, none⟩ v g hg).trans h1, h2⟩
theorem PX.setA {w wr : World} {R g X : Nat} {ws : List (List UInt8)} {y : Ins} (h : PX w R g X ws y wr) (n : Int) : PX w R g X ws ⟨y.op, n, y.b, y.n⟩ (wr.setCell ⟨X, 1, none⟩ (.int .i64 n)) :=
  ⟨h.rs.set h.w0 h.ne.1 h.ne.2 _ _, by rw [set_block h.hX]; rfl, h.w0, h.ne⟩
theorem PX.setB {w wr : World} {R g X : Nat} {ws : List (List UInt8)} {y : Ins} (h : PX w R g X ws y wr) (n : Int) : PX w R g X ws ⟨y.op, y.a, n, y.n⟩ (wr.setCell ⟨X, 2, none⟩ (.int .i64 n)) :=
  ⟨h.rs.set h.w0 h.ne.1 h.ne.2 _ _, by rw [set_block h.hX]; rfl, h.w0, h.ne⟩
theorem PX.setN {w wr : World} {R g X : Nat} {ws : List (List UInt8)} {y : Ins} (h : PX w R g X ws y wr) (n : Int) : PX w R g X ws ⟨y.op, y.a, y.b, n⟩ (wr.setCell ⟨X, 3, none⟩ (.int .i64 n)) :=
  ⟨h.rs.set h.w0 h.ne.1 h.ne.2 _ _, by rw [set_block h.hX]; rfl, h.w0, h.ne⟩
theorem gotA {f : List UInt8} {k : Nat} {x y : Ins} (hc : f[k]? = some 65) (h : got f k x y) {n : Int} (hn : n = x.a) : got f (k + 1) x ⟨y.op, n, y.b, y.n⟩ := by
  obtain ⟨h0, h1, h2, h3⟩ := h
  unfold got
  rw [take_snoc8 hc]
  simp [h0, h2, h3, hn]
theorem gotB {f : List UInt8} {k : Nat} {x y : Ins} (hc : f[k]? = some 66) (h : got f k x y) {n : Int} (hn : n = x.b) : got f (k + 1) x ⟨y.op, y.a, n, y.n⟩ := by
  obtain ⟨h0, h1, h2, h3⟩ := h
  unfold got
  rw [take_snoc8 hc]
  simp [h0, h1, h3, hn]
theorem gotN {f : List UInt8} {k : Nat} {x y : Ins} (hc : f[k]? = some 78) (h : got f k x y) {n : Int} (hn : n = x.n) : got f (k + 1) x ⟨y.op, y.a, y.b, n⟩ := by
  obtain ⟨h0, h1, h2, h3⟩ := h
  unfold got
  rw [take_snoc8 hc]
  simp [h0, h1, h2, hn]
theorem none_of {s : List UInt8} (h : ∀ x, parseP s = some x → False) : parseR s = .tuple #[insV ⟨0, 0, 0, 0⟩, .bool false] := by
  unfold parseR
  cases hp : parseP s with
  | none => rfl
  | some x => exact (h x hp).elim
theorem ok_n {x : Ins} (hk : okP x = true) (h7 : x.op ≠ 7) : 0 ≤ x.n ∧ x.n ≤ 65535 := by
  obtain ⟨o, a, b, n⟩ := x
  have h17 : 1 ≤ o ∧ o ≤ 7 := by simp [okP] at hk; omega
  rcases seven h17.1 h17.2 with rfl | rfl | rfl | rfl | rfl | rfl | rfl <;> simp [okP, fitP, shape] at hk h7 ⊢ <;> omega

theorem slice_rest (l : List UInt8) (h : 1 ≤ l.length) (wx : World) : (Instr.slice 9 (.string ⟨l.toArray⟩) (some (.int .i64 1)) none none).run Tryd.prog wx = .ok (.string ⟨l.tail.toArray⟩) wx := by
  have e : (⟨l.toArray⟩ : ByteArray).extract 1 l.length = ⟨l.tail.toArray⟩ := by
    apply ext_toList
    simp [List.take_of_length_le]
  have h' : ¬ ((l.length : Int) < 1) := by omega
  simp [go_sem, size_mk, e, h']
theorem ok_ab {x : Ins} (hk : okP x = true) : (0 ≤ x.a ∧ x.a ≤ 65535) ∧ 0 ≤ x.b ∧ x.b ≤ 65535 := by
  obtain ⟨o, a, b, n⟩ := x
  have h17 : 1 ≤ o ∧ o ≤ 7 := by simp [okP] at hk; omega
  rcases seven h17.1 h17.2 with rfl | rfl | rfl | rfl | rfl | rfl | rfl <;> simp [okP, fitP, shape] at hk ⊢ <;> omega

theorem call_inj {m : Nat} {n : Int} (hm : m < 10) (h1 : 1 ≤ n) (h9 : n ≤ 9) : callsL[m]? = some (callN n) ↔ (m : Int) = n := by
  obtain ⟨j, rfl⟩ : ∃ j : Nat, n = j := ⟨n.toNat, by omega⟩
  have h : ∀ m < 10, ∀ j < 10, 1 ≤ j → (callsL[m]? = some (callN (j : Nat)) ↔ m = j) := by decide
  rw [h m hm j (by omega) (by omega)]
  omega
theorem ok_call {x : Ins} (hk : okP x = true) (h7 : x.op = 7) : 1 ≤ x.n ∧ x.n ≤ 9 := by
  obtain ⟨o, a, b, n⟩ := x
  dsimp only at h7
  subst h7
  simp [okP, fitP, shape] at hk ⊢
  omega
theorem CRow.set {w : World} {g X : Nat} {l : List (List Value)} (h : CRow w g l) (hg : g ≠ X) (i : Nat) (v : Value) : CRow (w.setCell ⟨X, i, none⟩ v) g l := by
  obtain ⟨cur, e, fr, h1, h2⟩ := h
  exact ⟨cur, e, fr, (Below.heap_setCell w ⟨X, i, none⟩ v g hg).trans h1, h2⟩

set_option maxRecDepth 20000 in
set_option maxHeartbeats 4000000 in
theorem rparse_any (s : List UInt8) (hs : s.length ≤ 100000) (w : World) :
    Calls Tryd.prog 12 #[.string ⟨s.toArray⟩] w fun e w' => e = .returned (parseR s) ∧ Below w.heap.size w w' := by
  obtain ⟨ans, hans⟩ : ∃ v, Hid (parseR s = v) := ⟨_, rfl⟩
  rw [hans.out]
  go_enter Tryd.func12, Tryd.ntmps12
  go_wp2_with fail
  refine (words_any s hs _).mono ?_
  rintro e w1 ⟨g, cap, rfl, hg, b1⟩
  have S1 : RS w w.heap.size g (wordsP s) w1 := ⟨(b1.block _ (by simp)).trans (heap_alloc_new w _), hg, past_alloc (Below.refl _ w) (Nat.le_refl _) b1⟩
  have hwl : 1 ≤ (wordsP s).length ∧ (wordsP s).length ≤ 100001 := by
    have := (wfold_len s).1
    simp [wordsP]; omega
  obtain ⟨w0, hw0⟩ : ∃ w0, (wordsP s)[0]? = some w0 := ⟨_, List.getElem?_eq_getElem (by omega)⟩
  have hsol : Hid (∀ x, parseP s = some x → okP x = true ∧ wordsP s = wordsOf x ∧ 1 ≤ x.op ∧ x.op ≤ 7) := fun x hx => sol hx
  have hvls : Hid (∀ v ∈ wordsP s, v.length ≤ 100000) := fun v hv => Nat.le_trans (word_len s v hv) hs
  generalize hws : wordsP s = ws at *
  have hws' : Hid (wordsP s = ws) := hws
  clear hws hg b1
  go_wp2_with fail
  go_loopg [5] 7 (fun gk i wr => ∃ op : Int, (gk : Int) + op = 8 ∧ 1 ≤ op ∧ i = .int .i64 op ∧ Hid (∀ x, parseP s = some x → op ≤ x.op) ∧ RS w w.heap.size g ws wr)
  case atStart => exact ⟨1, by omega, by omega, rfl, fun x hx => (hsol.out x hx).2.2.1, S1⟩
  case round =>
    obtain ⟨op, hgk, h1, rfl, hop, hS⟩ := hrel
    by_cases h7 : op ≤ 7
    · have hf := fields_any op
      obtain ⟨hfA, hfB, hfN, hfq, hflen⟩ := field_has h1 h7
      have hnm : Hid (opsL[op.toNat]? = some (shape op).name) := opsL_at h1 h7
      go_upto_region 5 with fail
      go_wp2_with fail
      refine (hf _).mono ?_
      rintro e w2 ⟨rfl, b2⟩
      have S2 := hS.later b2
      generalize hfo : fieldL op = f at *
      have hfo' : Hid (fieldL op = f) := hfo
      clear hfo hf
      have k0 := S2.hg.str hw0
      go_upto_region 6 with fail
      obtain ⟨nm, hnm2⟩ : ∃ nm, Hid ((shape op).name = nm) := ⟨_, rfl⟩
      have hnm' := hnm.out
      rw [hnm2.out] at hnm'
      clear hnm
      have o0 : (0 : Int) ≤ op := by omega
      have o8 : op < 8 := by omega
      have hwp : (0 : Int) < (ws.length : Int) := by omega
      have hwp' : 0 < ws.length := by omega
      have hszf := size_mk f
      have hwr : IntKind.i64.wrap (1 + (f.length : Int)) = 1 + (f.length : Int) := by rw [IntKind.wrap_i64]; omega
      have k0d : w2.drew.cell? ⟨g, 0, none⟩ = some (.string ⟨w0.toArray⟩) := k0
      have k3 := k0
      have hops : Calls Tryd.prog 23 #[] w2.drew fun e w3 => e = .returned (.slice (some ⟨w2.heap.size, 0, none⟩) 8 8) ∧ w3.cell? ⟨w2.heap.size, op.toNat, none⟩ = some (.string ⟨nm.toArray⟩) ∧ RS w w.heap.size g ws w3 := by
        refine (ops_any _).mono ?_
        rintro e w3 ⟨rfl, hC, b3⟩
        exact ⟨rfl, hC.str hnm', S2.later ((Below.refl w2.heap.size w2).drew.trans b3)⟩
      go_cut [39] (fun v wx => v = .bool (!(w0 == nm) || !((ws.length : Int) == 1 + (f.length : Int))) ∧ RS w w.heap.size g ws wx)
      case first =>
        cases e0 : (w0 == nm)
        · have e0' : (w0 != nm) = true := by rw [bne, e0]; rfl
          refine wp_region_held_drew (S := fun w' => w'.cell? ⟨g, 0, none⟩ = some (.string ⟨w0.toArray⟩)) (by kernel_rfl) k0d (fun hHeld => ?_)
          refine wpAnyH_take (i := 0) (oi := { dst := some 24, op := Op.move (Operand.tmp 4), type := 34, pos := "ref.go:633", after := #[], guard := none }) (v := ?_) rfl (by kernel_rfl) (by kernel_rfl) (by kernel_rfl) (fun _ _ _ h => h) (Or.inl ⟨by rfl, ?_⟩) (by assumption) ?_
          rotate_left
          · intro wz hSw; (try dsimp only at hSw); go_simp; try with_reducible rfl
          try simp only [Act.put, List.setIfInBounds_toArray, List.set_cons_zero, List.set_cons_succ]
          refine wpAnyH_take (i := 1) (oi := { dst := some 25, op := Op.indexAddr 34 (Operand.tmp 24) (Operand.const (Value.int IntKind.i64 0)), type := 0, pos := "ref.go:633", after := #[{ on := 0, ground := Ground.data }], guard := none }) (v := ?_) rfl (by kernel_rfl) (by kernel_rfl) (by kernel_rfl) (fun _ _ _ h => h) (Or.inl ⟨by rfl, ?_⟩) (by assumption) ?_
          rotate_left
          · intro wz hSw; (try dsimp only at hSw); go_simp; try with_reducible rfl
          try simp only [Act.put, List.setIfInBounds_toArray, List.set_cons_zero, List.set_cons_succ]
          refine wpAnyH_take (i := 2) (oi := { dst := some 26, op := Op.load 9 (Operand.tmp 25), type := 9, pos := "ref.go:633", after := #[{ on := 1, ground := Ground.data }], guard := none }) (v := ?_) rfl (by kernel_rfl) (by kernel_rfl) (by kernel_rfl) (fun _ _ _ h => h) (Or.inl ⟨by rfl, ?_⟩) (by assumption) ?_
          rotate_left
          · intro wz hSw; (try dsimp only at hSw); go_simp; try with_reducible rfl
          try simp only [Act.put, List.setIfInBounds_toArray, List.set_cons_zero, List.set_cons_succ]
          refine wpAnyH_take (i := 4) (oi := { dst := some 28, op := Op.move (Operand.tmp 5), type := 3, pos := "ref.go:633", after := #[], guard := none }) (v := ?_) rfl (by kernel_rfl) (by kernel_rfl) (by kernel_rfl) (fun _ _ _ h => h) (Or.inl ⟨by rfl, ?_⟩) (by assumption) ?_
          rotate_left
          · intro wz hSw; (try dsimp only at hSw); go_simp; try with_reducible rfl
          try simp only [Act.put, List.setIfInBounds_toArray, List.set_cons_zero, List.set_cons_succ]
          refine wpAnyH_ready (rs := [3]) (by kernel_rfl) (by simp) ?_
          refine AllReadyH.cons (o := { dst := some 27, op := Op.call { callee := Callee.value (Operand.func 23), args := #[], argTypes := #[] }, type := 34, pos := "ref.go:633", after := #[], guard := none }) rfl (fun K hK => ?_) AllReadyH.nil
          go_simp
          with_reducible refine hops.mono ?_
          rintro e w3 ⟨hx, kn, S3⟩
          subst hx
          have k3' := S3.hg.str hw0
          try dsimp only
          refine hK.out _ _ k3' (fun hHeld => ?_)
          clear hK K
          try simp only [Act.put, List.setIfInBounds_toArray, List.set_cons_zero, List.set_cons_succ]
          refine wpAnyH_take (i := 5) (oi := { dst := some 29, op := Op.indexAddr 34 (Operand.tmp 27) (Operand.tmp 28), type := 0, pos := "ref.go:633", after := #[{ on := 3, ground := Ground.data }, { on := 4, ground := Ground.data }], guard := none }) (v := ?_) rfl (by kernel_rfl) (by kernel_rfl) (by kernel_rfl) (fun _ _ _ h => h) (Or.inl ⟨by rfl, ?_⟩) (by assumption) ?_
          rotate_left
          · intro wz hSw; (try dsimp only at hSw); go_simp; try with_reducible rfl
          try simp only [Act.put, List.setIfInBounds_toArray, List.set_cons_zero, List.set_cons_succ]
          refine wpAnyH_ready (rs := [6]) (by kernel_rfl) (by simp) ?_
          refine AllReadyH.cons (o := { dst := some 30, op := Op.load 9 (Operand.tmp 29), type := 9, pos := "ref.go:633", after := #[{ on := 5, ground := Ground.data }], guard := none }) rfl (fun K hK => ?_) AllReadyH.nil
          go_simp
          refine hK.out _ _ k3' (fun hHeld => ?_)
          clear hK K
          try simp only [Act.put, List.setIfInBounds_toArray, List.set_cons_zero, List.set_cons_succ]
          refine wpAnyH_take (i := 7) (oi := { dst := some 31, op := Op.binOp BinOp.neq 9 (Operand.tmp 26) (Operand.tmp 30) 9, type := 4, pos := "ref.go:633", after := #[{ on := 2, ground := Ground.data }, { on := 6, ground := Ground.data }], guard := none }) (v := ?_) rfl (by kernel_rfl) (by kernel_rfl) (by kernel_rfl) (fun _ _ _ h => h) (Or.inl ⟨by rfl, ?_⟩) (by assumption) ?_
          rotate_left
          · intro wz hSw; (try dsimp only at hSw); go_simp; try with_reducible rfl
          try simp only [Act.put, List.setIfInBounds_toArray, List.set_cons_zero, List.set_cons_succ]
          refine wpAnyH_take (i := 8) (oi := { dst := some 32, op := Op.move (Operand.tmp 31), type := 4, pos := "ref.go:633", after := #[{ on := 7, ground := Ground.data }, { on := 3, ground := Ground.chain }], guard := none }) (v := ?_) rfl (by kernel_rfl) (by kernel_rfl) (by kernel_rfl) (fun _ _ _ h => h) (Or.inl ⟨by rfl, ?_⟩) (by assumption) ?_
          rotate_left
          · intro wz hSw; (try dsimp only at hSw); go_simp; try with_reducible rfl
          try simp only [Act.put, List.setIfInBounds_toArray, List.set_cons_zero, List.set_cons_succ]
          refine wpAnyH_take (i := 9) (oi := { dst := some 33, op := Op.move (Operand.tmp 4), type := 34, pos := "ref.go:633", after := #[{ on := 8, ground := Ground.guard }], guard := some (8, false) }) (v := undef) rfl (by kernel_rfl) (by kernel_rfl) (by kernel_rfl) (fun _ _ _ h => h) (Or.inr ⟨by rfl, rfl⟩) (by assumption) ?_
          try simp only [Act.put, List.setIfInBounds_toArray, List.set_cons_zero, List.set_cons_succ]
          refine wpAnyH_take (i := 10) (oi := { dst := some 34, op := Op.call { callee := Callee.builtin Builtin.len, args := #[Operand.tmp 33], argTypes := #[34] }, type := 3, pos := "ref.go:633", after := #[{ on := 9, ground := Ground.data }, { on := 8, ground := Ground.guard }], guard := some (8, false) }) (v := undef) rfl (by kernel_rfl) (by kernel_rfl) (by kernel_rfl) (fun _ _ _ h => h) (Or.inr ⟨by rfl, rfl⟩) (by assumption) ?_
          try simp only [Act.put, List.setIfInBounds_toArray, List.set_cons_zero, List.set_cons_succ]
          refine wpAnyH_take (i := 11) (oi := { dst := some 35, op := Op.move (Operand.tmp 6), type := 9, pos := "ref.go:633", after := #[{ on := 8, ground := Ground.guard }], guard := some (8, false) }) (v := undef) rfl (by kernel_rfl) (by kernel_rfl) (by kernel_rfl) (fun _ _ _ h => h) (Or.inr ⟨by rfl, rfl⟩) (by assumption) ?_
          try simp only [Act.put, List.setIfInBounds_toArray, List.set_cons_zero, List.set_cons_succ]
          refine wpAnyH_take (i := 12) (oi := { dst := some 36, op := Op.call { callee := Callee.builtin Builtin.len, args := #[Operand.tmp 35], argTypes := #[9] }, type := 3, pos := "ref.go:633", after := #[{ on := 11, ground := Ground.data }, { on := 8, ground := Ground.guard }], guard := some (8, false) }) (v := undef) rfl (by kernel_rfl) (by kernel_rfl) (by kernel_rfl) (fun _ _ _ h => h) (Or.inr ⟨by rfl, rfl⟩) (by assumption) ?_
          try simp only [Act.put, List.setIfInBounds_toArray, List.set_cons_zero, List.set_cons_succ]
          refine wpAnyH_take (i := 13) (oi := { dst := some 37, op := Op.binOp BinOp.add 3 (Operand.const (Value.int IntKind.i64 1)) (Operand.tmp 36) 3, type := 3, pos := "ref.go:633", after := #[{ on := 12, ground := Ground.data }, { on := 8, ground := Ground.guard }], guard := some (8, false) }) (v := undef) rfl (by kernel_rfl) (by kernel_rfl) (by kernel_rfl) (fun _ _ _ h => h) (Or.inr ⟨by rfl, rfl⟩) (by assumption) ?_
          try simp only [Act.put, List.setIfInBounds_toArray, List.set_cons_zero, List.set_cons_succ]
          refine wpAnyH_take (i := 14) (oi := { dst := some 38, op := Op.binOp BinOp.neq 3 (Operand.tmp 34) (Operand.tmp 37) 3, type := 4, pos := "ref.go:633", after := #[{ on := 10, ground := Ground.data }, { on := 13, ground := Ground.data }, { on := 8, ground := Ground.guard }], guard := some (8, false) }) (v := undef) rfl (by kernel_rfl) (by kernel_rfl) (by kernel_rfl) (fun _ _ _ h => h) (Or.inr ⟨by rfl, rfl⟩) (by assumption) ?_
          try simp only [Act.put, List.setIfInBounds_toArray, List.set_cons_zero, List.set_cons_succ]
          refine wpAnyH_take (i := 15) (oi := { dst := some 39, op := Op.pick (Operand.tmp 32) (Operand.const (Value.bool true)) (Operand.tmp 38), type := 4, pos := "ref.go:633", after := #[{ on := 8, ground := Ground.data }, { on := 14, ground := Ground.data }], guard := none }) (v := ?_) rfl (by kernel_rfl) (by kernel_rfl) (by kernel_rfl) (fun _ _ _ h => h) (Or.inl ⟨by rfl, ?_⟩) (by assumption) ?_
          rotate_left
          · intro wz hSw; (try dsimp only at hSw); go_simp; try with_reducible rfl
          try simp only [Act.put, List.setIfInBounds_toArray, List.set_cons_zero, List.set_cons_succ]
          refine wpAnyH_done (by kernel_rfl) ?_ _
          go_wp2
          go_meet
          exact ⟨by rw [e0]; rfl, S3⟩
        · have e0' : (w0 != nm) = false := by rw [bne, e0]; rfl
          refine wp_region_held_drew (S := fun w' => w'.cell? ⟨g, 0, none⟩ = some (.string ⟨w0.toArray⟩)) (by kernel_rfl) k0d (fun hHeld => ?_)
          refine wpAnyH_take (i := 0) (oi := { dst := some 24, op := Op.move (Operand.tmp 4), type := 34, pos := "ref.go:633", after := #[], guard := none }) (v := ?_) rfl (by kernel_rfl) (by kernel_rfl) (by kernel_rfl) (fun _ _ _ h => h) (Or.inl ⟨by rfl, ?_⟩) (by assumption) ?_
          rotate_left
          · intro wz hSw; (try dsimp only at hSw); go_simp; try with_reducible rfl
          try simp only [Act.put, List.setIfInBounds_toArray, List.set_cons_zero, List.set_cons_succ]
          refine wpAnyH_take (i := 1) (oi := { dst := some 25, op := Op.indexAddr 34 (Operand.tmp 24) (Operand.const (Value.int IntKind.i64 0)), type := 0, pos := "ref.go:633", after := #[{ on := 0, ground := Ground.data }], guard := none }) (v := ?_) rfl (by kernel_rfl) (by kernel_rfl) (by kernel_rfl) (fun _ _ _ h => h) (Or.inl ⟨by rfl, ?_⟩) (by assumption) ?_
          rotate_left
          · intro wz hSw; (try dsimp only at hSw); go_simp; try with_reducible rfl
          try simp only [Act.put, List.setIfInBounds_toArray, List.set_cons_zero, List.set_cons_succ]
          refine wpAnyH_take (i := 2) (oi := { dst := some 26, op := Op.load 9 (Operand.tmp 25), type := 9, pos := "ref.go:633", after := #[{ on := 1, ground := Ground.data }], guard := none }) (v := ?_) rfl (by kernel_rfl) (by kernel_rfl) (by kernel_rfl) (fun _ _ _ h => h) (Or.inl ⟨by rfl, ?_⟩) (by assumption) ?_
          rotate_left
          · intro wz hSw; (try dsimp only at hSw); go_simp; try with_reducible rfl
          try simp only [Act.put, List.setIfInBounds_toArray, List.set_cons_zero, List.set_cons_succ]
          refine wpAnyH_take (i := 4) (oi := { dst := some 28, op := Op.move (Operand.tmp 5), type := 3, pos := "ref.go:633", after := #[], guard := none }) (v := ?_) rfl (by kernel_rfl) (by kernel_rfl) (by kernel_rfl) (fun _ _ _ h => h) (Or.inl ⟨by rfl, ?_⟩) (by assumption) ?_
          rotate_left
          · intro wz hSw; (try dsimp only at hSw); go_simp; try with_reducible rfl
          try simp only [Act.put, List.setIfInBounds_toArray, List.set_cons_zero, List.set_cons_succ]
          refine wpAnyH_ready (rs := [3]) (by kernel_rfl) (by simp) ?_
          refine AllReadyH.cons (o := { dst := some 27, op := Op.call { callee := Callee.value (Operand.func 23), args := #[], argTypes := #[] }, type := 34, pos := "ref.go:633", after := #[], guard := none }) rfl (fun K hK => ?_) AllReadyH.nil
          go_simp
          with_reducible refine hops.mono ?_
          rintro e w3 ⟨hx, kn, S3⟩
          subst hx
          have k3' := S3.hg.str hw0
          try dsimp only
          refine hK.out _ _ k3' (fun hHeld => ?_)
          clear hK K
          try simp only [Act.put, List.setIfInBounds_toArray, List.set_cons_zero, List.set_cons_succ]
          refine wpAnyH_take (i := 5) (oi := { dst := some 29, op := Op.indexAddr 34 (Operand.tmp 27) (Operand.tmp 28), type := 0, pos := "ref.go:633", after := #[{ on := 3, ground := Ground.data }, { on := 4, ground := Ground.data }], guard := none }) (v := ?_) rfl (by kernel_rfl) (by kernel_rfl) (by kernel_rfl) (fun _ _ _ h => h) (Or.inl ⟨by rfl, ?_⟩) (by assumption) ?_
          rotate_left
          · intro wz hSw; (try dsimp only at hSw); go_simp; try with_reducible rfl
          try simp only [Act.put, List.setIfInBounds_toArray, List.set_cons_zero, List.set_cons_succ]
          refine wpAnyH_ready (rs := [6]) (by kernel_rfl) (by simp) ?_
          refine AllReadyH.cons (o := { dst := some 30, op := Op.load 9 (Operand.tmp 29), type := 9, pos := "ref.go:633", after := #[{ on := 5, ground := Ground.data }], guard := none }) rfl (fun K hK => ?_) AllReadyH.nil
          go_simp
          refine hK.out _ _ k3' (fun hHeld => ?_)
          clear hK K
          try simp only [Act.put, List.setIfInBounds_toArray, List.set_cons_zero, List.set_cons_succ]
          refine wpAnyH_take (i := 7) (oi := { dst := some 31, op := Op.binOp BinOp.neq 9 (Operand.tmp 26) (Operand.tmp 30) 9, type := 4, pos := "ref.go:633", after := #[{ on := 2, ground := Ground.data }, { on := 6, ground := Ground.data }], guard := none }) (v := ?_) rfl (by kernel_rfl) (by kernel_rfl) (by kernel_rfl) (fun _ _ _ h => h) (Or.inl ⟨by rfl, ?_⟩) (by assumption) ?_
          rotate_left
          · intro wz hSw; (try dsimp only at hSw); go_simp; try with_reducible rfl
          try simp only [Act.put, List.setIfInBounds_toArray, List.set_cons_zero, List.set_cons_succ]
          refine wpAnyH_take (i := 8) (oi := { dst := some 32, op := Op.move (Operand.tmp 31), type := 4, pos := "ref.go:633", after := #[{ on := 7, ground := Ground.data }, { on := 3, ground := Ground.chain }], guard := none }) (v := ?_) rfl (by kernel_rfl) (by kernel_rfl) (by kernel_rfl) (fun _ _ _ h => h) (Or.inl ⟨by rfl, ?_⟩) (by assumption) ?_
          rotate_left
          · intro wz hSw; (try dsimp only at hSw); go_simp; try with_reducible rfl
          try simp only [Act.put, List.setIfInBounds_toArray, List.set_cons_zero, List.set_cons_succ]
          refine wpAnyH_take (i := 9) (oi := { dst := some 33, op := Op.move (Operand.tmp 4), type := 34, pos := "ref.go:633", after := #[{ on := 8, ground := Ground.guard }], guard := some (8, false) }) (v := ?_) rfl (by kernel_rfl) (by kernel_rfl) (by kernel_rfl) (fun _ _ _ h => h) (Or.inl ⟨by rfl, ?_⟩) (by assumption) ?_
          rotate_left
          · intro wz hSw; (try dsimp only at hSw); go_simp; try with_reducible rfl
          try simp only [Act.put, List.setIfInBounds_toArray, List.set_cons_zero, List.set_cons_succ]
          refine wpAnyH_take (i := 10) (oi := { dst := some 34, op := Op.call { callee := Callee.builtin Builtin.len, args := #[Operand.tmp 33], argTypes := #[34] }, type := 3, pos := "ref.go:633", after := #[{ on := 9, ground := Ground.data }, { on := 8, ground := Ground.guard }], guard := some (8, false) }) (v := ?_) rfl (by kernel_rfl) (by kernel_rfl) (by kernel_rfl) (fun _ _ _ h => h) (Or.inl ⟨by rfl, ?_⟩) (by assumption) ?_
          rotate_left
          · intro wz hSw; (try dsimp only at hSw); go_simp; try with_reducible rfl
          try simp only [Act.put, List.setIfInBounds_toArray, List.set_cons_zero, List.set_cons_succ]
          refine wpAnyH_take (i := 11) (oi := { dst := some 35, op := Op.move (Operand.tmp 6), type := 9, pos := "ref.go:633", after := #[{ on := 8, ground := Ground.guard }], guard := some (8, false) }) (v := ?_) rfl (by kernel_rfl) (by kernel_rfl) (by kernel_rfl) (fun _ _ _ h => h) (Or.inl ⟨by rfl, ?_⟩) (by assumption) ?_
          rotate_left
          · intro wz hSw; (try dsimp only at hSw); go_simp; try with_reducible rfl
          try simp only [Act.put, List.setIfInBounds_toArray, List.set_cons_zero, List.set_cons_succ]
          refine wpAnyH_take (i := 12) (oi := { dst := some 36, op := Op.call { callee := Callee.builtin Builtin.len, args := #[Operand.tmp 35], argTypes := #[9] }, type := 3, pos := "ref.go:633", after := #[{ on := 11, ground := Ground.data }, { on := 8, ground := Ground.guard }], guard := some (8, false) }) (v := ?_) rfl (by kernel_rfl) (by kernel_rfl) (by kernel_rfl) (fun _ _ _ h => h) (Or.inl ⟨by rfl, ?_⟩) (by assumption) ?_
          rotate_left
          · intro wz hSw; (try dsimp only at hSw); go_simp; try with_reducible rfl
          try simp only [Act.put, List.setIfInBounds_toArray, List.set_cons_zero, List.set_cons_succ]
          refine wpAnyH_take (i := 13) (oi := { dst := some 37, op := Op.binOp BinOp.add 3 (Operand.const (Value.int IntKind.i64 1)) (Operand.tmp 36) 3, type := 3, pos := "ref.go:633", after := #[{ on := 12, ground := Ground.data }, { on := 8, ground := Ground.guard }], guard := some (8, false) }) (v := ?_) rfl (by kernel_rfl) (by kernel_rfl) (by kernel_rfl) (fun _ _ _ h => h) (Or.inl ⟨by rfl, ?_⟩) (by assumption) ?_
          rotate_left
          · intro wz hSw; (try dsimp only at hSw); go_simp; try with_reducible rfl
          try simp only [Act.put, List.setIfInBounds_toArray, List.set_cons_zero, List.set_cons_succ]
          refine wpAnyH_take (i := 14) (oi := { dst := some 38, op := Op.binOp BinOp.neq 3 (Operand.tmp 34) (Operand.tmp 37) 3, type := 4, pos := "ref.go:633", after := #[{ on := 10, ground := Ground.data }, { on := 13, ground := Ground.data }, { on := 8, ground := Ground.guard }], guard := some (8, false) }) (v := ?_) rfl (by kernel_rfl) (by kernel_rfl) (by kernel_rfl) (fun _ _ _ h => h) (Or.inl ⟨by rfl, ?_⟩) (by assumption) ?_
          rotate_left
          · intro wz hSw; (try dsimp only at hSw); go_simp; try with_reducible rfl
          try simp only [Act.put, List.setIfInBounds_toArray, List.set_cons_zero, List.set_cons_succ]
          refine wpAnyH_take (i := 15) (oi := { dst := some 39, op := Op.pick (Operand.tmp 32) (Operand.const (Value.bool true)) (Operand.tmp 38), type := 4, pos := "ref.go:633", after := #[{ on := 8, ground := Ground.data }, { on := 14, ground := Ground.data }], guard := none }) (v := ?_) rfl (by kernel_rfl) (by kernel_rfl) (by kernel_rfl) (fun _ _ _ h => h) (Or.inl ⟨by rfl, ?_⟩) (by assumption) ?_
          rotate_left
          · intro wz hSw; (try dsimp only at hSw); go_simp; try with_reducible rfl
          try simp only [Act.put, List.setIfInBounds_toArray, List.set_cons_zero, List.set_cons_succ]
          refine wpAnyH_done (by kernel_rfl) ?_ _
          go_wp2
          go_meet
          exact ⟨by rw [e0]; rfl, S3⟩
      case rest =>
      obtain ⟨rfl, S3⟩ := hcut
      by_cases hc : w0 = nm ∧ ws.length = 1 + f.length
      · have hcb : (!(w0 == nm) || !((ws.length : Int) == 1 + (f.length : Int))) = false := by
          have : (ws.length : Int) = 1 + (f.length : Int) := by omega
          simp [hc.1, this]
        rw [hcb]
        have hall : Hid (∀ x, parseP s = some x → x.op = op) := fun x hx => by
          obtain ⟨_, hw, h5, h6⟩ := hsol.out x hx
          have e0 : some (shape x.op).name = some w0 := by rw [← hw0, hw]; rfl
          exact name_inj ⟨h5, h6⟩ ⟨h1, h7⟩ ((Option.some.inj e0).trans (hc.1.trans hnm2.out.symm))
        have hcl : Hid (ws.length = 1 + f.length) := hc.2
        clear hops hnm' k0 k0d k3 hS S2 b2 hop hcb hc
        go_wp2_with fail
        go_loopg [8] f.length (fun gk i wr => ∃ (k : Nat) (y : Ins), gk + k = f.length ∧ i = .int .i64 k ∧ Hid (y.op = op) ∧ Hid (∀ x, parseP s = some x → got f k x y) ∧ PX w w.heap.size g wc.heap.size ws y wr)
        case atStart =>
          exact ⟨0, ⟨op, 0, 0, 0⟩, by omega, rfl, rfl, fun x hx => ⟨(hall.out x hx).symm, by simp, by simp, by simp⟩, ⟨S3.later ((Below.refl _ wc).alloc (Nat.le_refl _) _), heap_alloc_new wc _, S3.B.size, ⟨Nat.ne_of_lt (lt_of_block S3.hR), Nat.ne_of_lt S3.hg.lt⟩⟩⟩
        case round => 
          obtain ⟨k, y, hgk2, rfl, hyo, hgot, P⟩ := hrel
          by_cases hk : k < f.length
          · obtain ⟨c, hc⟩ : ∃ c, f[k]? = some c := ⟨_, List.getElem?_eq_getElem hk⟩
            obtain ⟨v, hv⟩ : ∃ v, ws[1 + k]? = some v := ⟨_, List.getElem?_eq_getElem (by rw [hcl.out]; omega)⟩
            have hcc : c = 65 ∨ c = 66 ∨ c = 78 := letters h1 h7 c (by rw [hfo'.out]; exact List.mem_of_getElem? hc)
            have hval : Hid (∀ x, parseP s = some x → v = fieldW x c) := fun x hx => by
              have h3 := (hsol.out x hx).2.1
              have h4 := hv
              rw [h3, wordsOf, hall.out x hx, hfo'.out, Nat.add_comm, List.getElem?_cons_succ, List.getElem?_map, hc] at h4
              exact (Option.some.inj h4).symm
            have hvl : v.length ≤ 100000 := hvls.out v (List.mem_of_getElem? hv)
            have ek := byte_at f k c hc
            have hk' : (k : Int) < (f.length : Int) := by omega
            have kv := P.rs.hg.str hv
            have kw : IntKind.i64.wrap (1 + (k : Int)) = 1 + (k : Int) := by rw [IntKind.wrap_i64]; omega
            have kt : (1 + (k : Int)).toNat = 1 + k := by omega
            have k0 : (0 : Int) ≤ 1 + (k : Int) := by omega
            have kl : 1 + (k : Int) < (ws.length : Int) := by rw [hcl.out]; omega
            have hzv := size_mk v
            obtain ⟨x0, x1, x2, x3, zx⟩ := four_cells P.hX
            have hnum := number_r v (by omega)
            obtain ⟨r0, r1, r2, r3, zr⟩ := four_cells P.rs.hR
            rcases hcc with rfl | rfl | rfl
            · have hres : Hid (∀ x, parseP s = some x → v = 114 :: dig x.a ∧ numR (dig x.a) = (x.a, true)) := fun x hx => by
                have h3 := hval.out x hx
                rw [fieldW, if_pos rfl] at h3
                have h4 := ok_ab (hsol.out x hx).1
                exact ⟨h3, numR_dig x.a (by omega) (by omega)⟩
              clear hval hnum
              by_cases hv1 : 1 ≤ v.length
              · obtain ⟨c0, hc0⟩ : ∃ c0, v[0]? = some c0 := ⟨_, List.getElem?_eq_getElem (by omega)⟩
                have ev := byte_at v 0 c0 hc0
                have hv2 : ¬ ((v.length : Int) < 1) := by omega
                have hv3 : (0 : Int) < (v.length : Int) := by omega
                by_cases hr : c0 = 114
                · subst hr
                  have hS1 := slice_rest v hv1
                  have htl : v.tail.length ≤ 100000 := by simp; omega
                  have hres2 : Hid (∀ x, parseP s = some x → numR v.tail = (x.a, true)) := fun x hx => by
                    obtain ⟨h5, h6⟩ := hres.out x hx
                    rw [h5]; exact h6
                  clear hres
                  generalize v.tail = v2 at *
                  have hnum := number_r v2 (by omega)
                  generalize numR v2 = r at *
                  obtain ⟨n, ok⟩ := r
                  cases ok
                  · have hno : Hid (parseR s = .tuple #[insV ⟨0, 0, 0, 0⟩, .bool false]) := none_of fun x hx => by
                      have := hres2.out x hx
                      simp at this
                    rw [hans.out] at hno
                    go_wp2_with fail
                    refine (hnum _).mono ?_
                    rintro e wq ⟨rfl, rfl⟩
                    go_wp2_with fail
                    refine bodyPost_ret (v := .tuple #[.agg #[.int .i64 0, .int .i64 0, .int .i64 0, .int .i64 0], .bool false]) (by simp [results, Tryd.results12, go_sem, r0, r1, r2, r3]) rfl ⟨by rw [hno.out]; rfl, ((((P.rs.B.setCell (p := ⟨w.heap.size, 0, none⟩) (Nat.le_refl _) _).setCell (p := ⟨w.heap.size, 1, none⟩) (Nat.le_refl _) _).setCell (p := ⟨w.heap.size, 2, none⟩) (Nat.le_refl _) _).setCell (p := ⟨w.heap.size, 3, none⟩) (Nat.le_refl _) _)⟩
                  · have PN := P.setA n
                    have hnx : Hid (∀ x, parseP s = some x → got f (k + 1) x ⟨y.op, n, y.b, y.n⟩) := fun x hx => gotA hc (hgot.out x hx) (by have := hres2.out x hx; simpa using this)
                    go_wp2_with fail
                    refine (hnum _).mono ?_
                    rintro e wq ⟨rfl, rfl⟩
                    go_wp2_with fail
                    go_roundg (f.length - (k + 1))
                    case measure => omega
                    case rel => exact ⟨k + 1, ⟨y.op, n, y.b, y.n⟩, by omega, by go_num, hyo, hnx, PN⟩
                · have hr2 : ((c0.toNat : Int) == 114) = false := by
                    have : ¬ ((c0.toNat : Int) = 114) := fun e => hr (UInt8.toNat_inj.1 (by show c0.toNat = 114; omega))
                    simpa using this
                  have hr3 : ((c0.toNat : Int) != 114) = true := by rw [bne, hr2]; rfl
                  have hno : Hid (parseR s = .tuple #[insV ⟨0, 0, 0, 0⟩, .bool false]) := none_of fun x hx => by
                    have h5 := (hres.out x hx).1
                    rw [h5] at hc0
                    exact hr (Option.some.inj hc0).symm
                  rw [hans.out] at hno
                  clear hres
                  go_wp2_with fail
                  refine bodyPost_ret (v := .tuple #[.agg #[.int .i64 0, .int .i64 0, .int .i64 0, .int .i64 0], .bool false]) (by simp [results, Tryd.results12, go_sem, r0, r1, r2, r3]) rfl ⟨by rw [hno.out]; rfl, ((((P.rs.B.setCell (p := ⟨w.heap.size, 0, none⟩) (Nat.le_refl _) _).setCell (p := ⟨w.heap.size, 1, none⟩) (Nat.le_refl _) _).setCell (p := ⟨w.heap.size, 2, none⟩) (Nat.le_refl _) _).setCell (p := ⟨w.heap.size, 3, none⟩) (Nat.le_refl _) _)⟩
              · have hv2 : (v.length : Int) < 1 := by omega
                have hno : Hid (parseR s = .tuple #[insV ⟨0, 0, 0, 0⟩, .bool false]) := none_of fun x hx => by
                  have h5 := (hres.out x hx).1
                  rw [h5] at hv1
                  exact hv1 (by simp)
                rw [hans.out] at hno
                clear hres
                go_wp2_with fail
                refine bodyPost_ret (v := .tuple #[.agg #[.int .i64 0, .int .i64 0, .int .i64 0, .int .i64 0], .bool false]) (by simp [results, Tryd.results12, go_sem, r0, r1, r2, r3]) rfl ⟨by rw [hno.out]; rfl, ((((P.rs.B.setCell (p := ⟨w.heap.size, 0, none⟩) (Nat.le_refl _) _).setCell (p := ⟨w.heap.size, 1, none⟩) (Nat.le_refl _) _).setCell (p := ⟨w.heap.size, 2, none⟩) (Nat.le_refl _) _).setCell (p := ⟨w.heap.size, 3, none⟩) (Nat.le_refl _) _)⟩
            · have hres : Hid (∀ x, parseP s = some x → v = 114 :: dig x.b ∧ numR (dig x.b) = (x.b, true)) := fun x hx => by
                have h3 := hval.out x hx
                rw [fieldW, if_neg (by decide), if_pos rfl] at h3
                have h4 := ok_ab (hsol.out x hx).1
                exact ⟨h3, numR_dig x.b (by omega) (by omega)⟩
              clear hval hnum
              by_cases hv1 : 1 ≤ v.length
              · obtain ⟨c0, hc0⟩ : ∃ c0, v[0]? = some c0 := ⟨_, List.getElem?_eq_getElem (by omega)⟩
                have ev := byte_at v 0 c0 hc0
                have hv2 : ¬ ((v.length : Int) < 1) := by omega
                have hv3 : (0 : Int) < (v.length : Int) := by omega
                by_cases hr : c0 = 114
                · subst hr
                  have hS1 := slice_rest v hv1
                  have htl : v.tail.length ≤ 100000 := by simp; omega
                  have hres2 : Hid (∀ x, parseP s = some x → numR v.tail = (x.b, true)) := fun x hx => by
                    obtain ⟨h5, h6⟩ := hres.out x hx
                    rw [h5]; exact h6
                  clear hres
                  generalize v.tail = v2 at *
                  have hnum := number_r v2 (by omega)
                  generalize numR v2 = r at *
                  obtain ⟨n, ok⟩ := r
                  cases ok
                  · have hno : Hid (parseR s = .tuple #[insV ⟨0, 0, 0, 0⟩, .bool false]) := none_of fun x hx => by
                      have := hres2.out x hx
                      simp at this
                    rw [hans.out] at hno
                    go_wp2_with fail
                    refine (hnum _).mono ?_
                    rintro e wq ⟨rfl, rfl⟩
                    go_wp2_with fail
                    refine bodyPost_ret (v := .tuple #[.agg #[.int .i64 0, .int .i64 0, .int .i64 0, .int .i64 0], .bool false]) (by simp [results, Tryd.results12, go_sem, r0, r1, r2, r3]) rfl ⟨by rw [hno.out]; rfl, ((((P.rs.B.setCell (p := ⟨w.heap.size, 0, none⟩) (Nat.le_refl _) _).setCell (p := ⟨w.heap.size, 1, none⟩) (Nat.le_refl _) _).setCell (p := ⟨w.heap.size, 2, none⟩) (Nat.le_refl _) _).setCell (p := ⟨w.heap.size, 3, none⟩) (Nat.le_refl _) _)⟩
                  · have PN := P.setB n
                    have hnx : Hid (∀ x, parseP s = some x → got f (k + 1) x ⟨y.op, y.a, n, y.n⟩) := fun x hx => gotB hc (hgot.out x hx) (by have := hres2.out x hx; simpa using this)
                    go_wp2_with fail
                    refine (hnum _).mono ?_
                    rintro e wq ⟨rfl, rfl⟩
                    go_wp2_with fail
                    go_roundg (f.length - (k + 1))
                    case measure => omega
                    case rel => exact ⟨k + 1, ⟨y.op, y.a, n, y.n⟩, by omega, by go_num, hyo, hnx, PN⟩
                · have hr2 : ((c0.toNat : Int) == 114) = false := by
                    have : ¬ ((c0.toNat : Int) = 114) := fun e => hr (UInt8.toNat_inj.1 (by show c0.toNat = 114; omega))
                    simpa using this
                  have hr3 : ((c0.toNat : Int) != 114) = true := by rw [bne, hr2]; rfl
                  have hno : Hid (parseR s = .tuple #[insV ⟨0, 0, 0, 0⟩, .bool false]) := none_of fun x hx => by
                    have h5 := (hres.out x hx).1
                    rw [h5] at hc0
                    exact hr (Option.some.inj hc0).symm
                  rw [hans.out] at hno
                  clear hres
                  go_wp2_with fail
                  refine bodyPost_ret (v := .tuple #[.agg #[.int .i64 0, .int .i64 0, .int .i64 0, .int .i64 0], .bool false]) (by simp [results, Tryd.results12, go_sem, r0, r1, r2, r3]) rfl ⟨by rw [hno.out]; rfl, ((((P.rs.B.setCell (p := ⟨w.heap.size, 0, none⟩) (Nat.le_refl _) _).setCell (p := ⟨w.heap.size, 1, none⟩) (Nat.le_refl _) _).setCell (p := ⟨w.heap.size, 2, none⟩) (Nat.le_refl _) _).setCell (p := ⟨w.heap.size, 3, none⟩) (Nat.le_refl _) _)⟩
              · have hv2 : (v.length : Int) < 1 := by omega
                have hno : Hid (parseR s = .tuple #[insV ⟨0, 0, 0, 0⟩, .bool false]) := none_of fun x hx => by
                  have h5 := (hres.out x hx).1
                  rw [h5] at hv1
                  exact hv1 (by simp)
                rw [hans.out] at hno
                clear hres
                go_wp2_with fail
                refine bodyPost_ret (v := .tuple #[.agg #[.int .i64 0, .int .i64 0, .int .i64 0, .int .i64 0], .bool false]) (by simp [results, Tryd.results12, go_sem, r0, r1, r2, r3]) rfl ⟨by rw [hno.out]; rfl, ((((P.rs.B.setCell (p := ⟨w.heap.size, 0, none⟩) (Nat.le_refl _) _).setCell (p := ⟨w.heap.size, 1, none⟩) (Nat.le_refl _) _).setCell (p := ⟨w.heap.size, 2, none⟩) (Nat.le_refl _) _).setCell (p := ⟨w.heap.size, 3, none⟩) (Nat.le_refl _) _)⟩
            · by_cases ho7 : op = 7
              · have ho7' : (op == 7) = true := by simp [ho7]
                have hres : Hid (∀ x, parseP s = some x → v = callN x.n ∧ 1 ≤ x.n ∧ x.n ≤ 9) := fun x hx => by
                  have h2 := hall.out x hx
                  have h3 := hval.out x hx
                  rw [fieldW, if_neg (by decide), if_neg (by decide), if_pos (by omega)] at h3
                  exact ⟨h3, ok_call (hsol.out x hx).1 (by omega)⟩
                have hcs := calls_any wr
                have hXr : wr.heap.size ≠ wc.heap.size := Nat.ne_of_gt (lt_of_block P.hX)
                clear ho7 hval
                go_wp2_with fail
                refine hcs.mono ?_
                rintro e w5 ⟨rfl, hC, b5⟩
                have P5 := P.later b5
                clear hcs b5 hnum x0 x1 x2 x3 zx r0 r1 r2 r3 zr kv
                go_wp2_with fail
                go_loopg [63] 10 (fun gm i wz => ∃ (m : Nat) (z : Int), gm + m = 10 ∧ i = .int .i64 m ∧ Hid (∀ x, parseP s = some x → x.n < m → z = x.n) ∧ CRow wz wr.heap.size (strC callsL) ∧ PX w w.heap.size g wc.heap.size ws ⟨y.op, y.a, y.b, z⟩ wz)
                case atStart => exact ⟨0, y.n, rfl, rfl, fun x hx h => by have := hres.out x hx; omega, hC, P5⟩
                case round =>
                  rename_i wz
                  obtain ⟨m, z, hgm, rfl, hz, hC6, P6⟩ := hrel
                  by_cases hm : m < 10
                  · obtain ⟨cn, hcn⟩ : ∃ cn, callsL[m]? = some cn := ⟨_, List.getElem?_eq_getElem hm⟩
                    have kc := hC6.str hcn
                    have m10 : (m : Int) < 10 := by omega
                    obtain ⟨x0, x1, x2, x3, zx⟩ := four_cells P6.hX
                    by_cases m0 : 0 < m
                    · have g1 : (0 : Int) < (m : Int) := by omega
                      by_cases hmv : cn = v
                      · have g2 : (cn == v) = true := by simp [hmv]
                        have PN := P6.setN (m : Int)
                        have hC7 := hC6.set hXr 3 (.int .i64 (m : Int))
                        have hnx : Hid (∀ x, parseP s = some x → x.n < ((m + 1 : Nat) : Int) → (m : Int) = x.n) := fun x hx _ => by
                          obtain ⟨h3, h4, h5⟩ := hres.out x hx
                          exact (call_inj hm h4 h5).1 (by rw [hcn, hmv, h3])
                        clear hmv
                        go_wp2_with fail
                        go_roundg (9 - m)
                        case measure => omega
                        case rel => exact ⟨m + 1, m, by omega, by go_num, hnx, hC7, PN⟩
                      · have g2 : (cn == v) = false := by simp [hmv]
                        have hnx : Hid (∀ x, parseP s = some x → x.n < ((m + 1 : Nat) : Int) → z = x.n) := fun x hx h => by
                          obtain ⟨h3, h4, h5⟩ := hres.out x hx
                          by_cases e : (m : Int) = x.n
                          · exfalso; apply hmv
                            have := (call_inj hm h4 h5).2 e
                            rw [hcn] at this
                            rw [h3]; exact Option.some.inj this
                          · exact hz.out x hx (by omega)
                        go_wp2_with fail
                        go_roundg (9 - m)
                        case measure => omega
                        case rel => exact ⟨m + 1, z, by omega, by go_num, hnx, hC6, P6⟩
                    · have g1 : ¬ ((0 : Int) < (m : Int)) := by omega
                      have hnx : Hid (∀ x, parseP s = some x → x.n < ((m + 1 : Nat) : Int) → z = x.n) := fun x hx h => by
                        have := hres.out x hx; omega
                      go_wp2_with fail
                      go_roundg (9 - m)
                      case measure => omega
                      case rel => exact ⟨m + 1, z, by omega, by go_num, hnx, hC6, P6⟩
                  · have m10 : ¬ ((m : Int) < 10) := by omega
                    have hnx : Hid (∀ x, parseP s = some x → got f (k + 1) x ⟨y.op, y.a, y.b, z⟩) := fun x hx => gotN hc (hgot.out x hx) (hz.out x hx (by have := hres.out x hx; omega))
                    go_wp2_with fail
                    go_roundg (f.length - (k + 1))
                    case measure => omega
                    case rel => exact ⟨k + 1, ⟨y.op, y.a, y.b, z⟩, by omega, by go_num, hyo, hnx, P6⟩
              · have ho7' : (op == 7) = false := by simp [ho7]
                have hres : Hid (∀ x, parseP s = some x → numR v = (x.n, true)) := fun x hx => by
                  have h2 := hall.out x hx
                  have h3 := hval.out x hx
                  rw [fieldW, if_neg (by decide), if_neg (by decide), if_neg (by omega)] at h3
                  obtain ⟨h4, h5⟩ := ok_n (hsol.out x hx).1 (by omega)
                  rw [h3]; exact numR_dig x.n h4 h5
                generalize numR v = r at *
                obtain ⟨n, ok⟩ := r
                cases ok
                · have hno : Hid (parseR s = .tuple #[insV ⟨0, 0, 0, 0⟩, .bool false]) := none_of fun x hx => by
                    have := hres.out x hx
                    simp at this
                  rw [hans.out] at hno
                  go_wp2_with fail
                  refine (hnum _).mono ?_
                  rintro e wq ⟨rfl, rfl⟩
                  go_wp2_with fail
                  refine bodyPost_ret (v := .tuple #[.agg #[.int .i64 0, .int .i64 0, .int .i64 0, .int .i64 0], .bool false]) (by simp [results, Tryd.results12, go_sem, r0, r1, r2, r3]) rfl ⟨by rw [hno.out]; rfl, ((((P.rs.B.setCell (p := ⟨w.heap.size, 0, none⟩) (Nat.le_refl _) _).setCell (p := ⟨w.heap.size, 1, none⟩) (Nat.le_refl _) _).setCell (p := ⟨w.heap.size, 2, none⟩) (Nat.le_refl _) _).setCell (p := ⟨w.heap.size, 3, none⟩) (Nat.le_refl _) _)⟩
                · have PN := P.setN n
                  have hnx : Hid (∀ x, parseP s = some x → got f (k + 1) x ⟨y.op, y.a, y.b, n⟩) := fun x hx => gotN hc (hgot.out x hx) (by have := hres.out x hx; simpa using this)
                  go_wp2_with fail
                  refine (hnum _).mono ?_
                  rintro e wq ⟨rfl, rfl⟩
                  go_wp2_with fail
                  go_roundg (f.length - (k + 1))
                  case measure => omega
                  case rel => exact ⟨k + 1, ⟨y.op, y.a, y.b, n⟩, by omega, by go_num, hyo, hnx, PN⟩
          · have hkl : k = f.length := by omega
            subst hkl
            have hk' : ¬ ((f.length : Int) < (f.length : Int)) := by omega
            obtain ⟨x0, x1, x2, x3, zx⟩ := four_cells P.hX
            have hnow : Hid (∀ x, parseP s = some x → y = x) := fun x hx => got_all (hsol.out x hx).1 (by rw [hall.out x hx, hfo'.out]; exact hgot.out x hx)
            cases hoy : okP y
            · have hpr := rprint_no y wr hoy
              unfold insV at hpr
              have hnx : Hid (∀ x, parseP s = some x → op + 1 ≤ x.op) := fun x hx => by
                have h2 := (hsol.out x hx).1
                rw [← hnow.out x hx, hoy] at h2
                cases h2
              go_wp2_with fail
              refine hpr.mono ?_
              rintro e w4 ⟨rfl, b4⟩
              have S4 := (P.later b4).rs
              go_wp2_with fail
              go_roundg (7 - op).toNat
              case measure => omega
              case rel => exact ⟨op + 1, by omega, by omega, by go_num, hnx, S4⟩
            · have hpr := rprint_ok y wr hoy
              unfold insV at hpr
              have hpi := (parse_iff s y).2
              generalize hty : prP y = t at *
              by_cases hts : t = s
              · have hts' : (t == s) = true := by simp [hts]
                have hyes : Hid (parseR s = .tuple #[insV y, .bool true]) := by
                  show _ = _
                  unfold parseR
                  rw [hpi ⟨hoy, hts⟩]
                rw [hans.out] at hyes
                clear hpi hty
                go_wp2_with fail
                refine hpr.mono ?_
                rintro e w4 ⟨rfl, b4⟩
                have P4 := P.later b4
                obtain ⟨y0, y1, y2, y3, zy⟩ := four_cells P4.hX
                obtain ⟨r0, r1, r2, r3, zr⟩ := four_cells P4.rs.hR
                clear hts
                go_wp2_with fail
                refine bodyPost_ret (v := .tuple #[.agg #[.int .i64 y.op, .int .i64 y.a, .int .i64 y.b, .int .i64 y.n], .bool true]) (by simp [results, Tryd.results12, go_sem, r0, r1, r2, r3]) rfl ⟨by rw [hyes.out]; rfl, ((((P4.rs.B.setCell (p := ⟨w.heap.size, 0, none⟩) (Nat.le_refl _) _).setCell (p := ⟨w.heap.size, 1, none⟩) (Nat.le_refl _) _).setCell (p := ⟨w.heap.size, 2, none⟩) (Nat.le_refl _) _).setCell (p := ⟨w.heap.size, 3, none⟩) (Nat.le_refl _) _)⟩
              · have hts' : (t == s) = false := by simp [hts]
                have hnx : Hid (∀ x, parseP s = some x → op + 1 ≤ x.op) := fun x hx => by
                  exfalso; apply hts
                  have h2 := hnow.out x hx
                  rw [← hty, h2]
                  exact ((parse_iff s x).1 hx).2
                clear hpi hty
                go_wp2_with fail
                refine hpr.mono ?_
                rintro e w4 ⟨rfl, b4⟩
                have S4 := (P.later b4).rs
                go_wp2_with fail
                go_roundg (7 - op).toNat
                case measure => omega
                case rel => exact ⟨op + 1, by omega, by omega, by go_num, hnx, S4⟩
      · have hcb : (!(w0 == nm) || !((ws.length : Int) == 1 + (f.length : Int))) = true := by
          by_cases h0 : w0 = nm
          · have : ¬ ((ws.length : Int) = 1 + (f.length : Int)) := fun e => hc ⟨h0, by omega⟩
            simp [h0, this]
          · simp [h0]
        rw [hcb]
        have hnx : Hid (∀ x, parseP s = some x → op + 1 ≤ x.op) := fun x hx => by
          have h3 := hop.out x hx
          obtain ⟨_, hw, _, _⟩ := hsol.out x hx
          by_cases e : x.op = op
          · exfalso; apply hc
            rw [wordsOf, e, hnm2.out, hfo'.out] at hw
            rw [hw] at hw0
            exact ⟨by simpa using hw0.symm, by rw [hw]; simp; omega⟩
          · omega
        go_wp2_with fail
        go_roundg (7 - op).toNat
        case measure => omega
        case rel => exact ⟨op + 1, by omega, by omega, by go_num, hnx, S3⟩
    · have hno : Hid (parseR s = .tuple #[insV ⟨0, 0, 0, 0⟩, .bool false]) := by
        show _ = _
        unfold parseR
        cases hp : parseP s with
        | none => rfl
        | some x => have := hop.out x hp; have := (hsol.out x hp).2.2.2; omega
      have h8 : ¬ (op ≤ 7) := h7
      rw [hans.out] at hno
      obtain ⟨r0, r1, r2, r3, zr⟩ := four_cells hS.hR
      go_wp2_with fail
      refine bodyPost_ret (v := .tuple #[.agg #[.int .i64 0, .int .i64 0, .int .i64 0, .int .i64 0], .bool false]) (by simp [results, Tryd.results12, go_sem, r0, r1, r2, r3]) rfl ⟨by rw [hno.out]; rfl, ((((hS.B.setCell (p := ⟨w.heap.size, 0, none⟩) (Nat.le_refl _) _).setCell (p := ⟨w.heap.size, 1, none⟩) (Nat.le_refl _) _).setCell (p := ⟨w.heap.size, 2, none⟩) (Nat.le_refl _) _).setCell (p := ⟨w.heap.size, 3, none⟩) (Nat.le_refl _) _)⟩
end Go.Proofs.YtpnegpcnmmaclaaDoor
