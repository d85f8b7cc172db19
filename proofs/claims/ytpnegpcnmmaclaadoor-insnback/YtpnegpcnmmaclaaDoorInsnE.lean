/-
  insn: guess, Parse.
-/
import Derived.Test.YtpnegpcnmmaclaaDoorInsnC
import Derived.Test.YtpnegpcnmmaclaaDoorInsnD
import Derived.Deep.CutBlock
import Derived.Deep.DeepCutAuto
namespace Go.Proofs.YtpnegpcnmmaclaaDoor
open Go.ChangeShapes Go.WideShapes Go.ChangeAt Go.RowKit

theorem opN_cases (l : List UInt8) : opN l = 0 ∨ opN l = 1 ∨ opN l = 2 ∨ opN l = 3 ∨ opN l = 4 ∨ opN l = 5 ∨ opN l = 6 ∨ opN l = 7 := by
  unfold opN; repeat (first | split | simp)

theorem opNamed_l (l : List UInt8) (w : World) (hV : Vs w) :
    Calls Tryd.prog 30 #[.string ⟨l.toArray⟩] w fun e w' => e = .returned (.int .i64 (opN l)) ∧ Below w.heap.size w w' := by
  have := opNamed_any ⟨l.toArray⟩ w hV
  simpa using this
theorem callNamed_l (l : List UInt8) (w : World) (hV : Vs w) :
    Calls Tryd.prog 32 #[.string ⟨l.toArray⟩] w fun e w' => e = .returned (.int .i64 (callOf l)) ∧ Below w.heap.size w w' := by
  refine (callNamed_any ⟨l.toArray⟩ w hV).mono ?_
  rintro e wx ⟨rfl, rfl⟩
  exact ⟨by simp, Below.refl _ _⟩
theorem register_l (l : List UInt8) (hs : l.length ≤ 1000000) (w : World) (hV : Vs w) :
    Calls Tryd.prog 31 #[.string ⟨l.toArray⟩] w fun e w' => e = .returned (.tuple #[.int .i64 (regOf l), .string ⟨(restOf l).toArray⟩]) ∧ Below w.heap.size w w' := by
  have := ireg_any ⟨l.toArray⟩ (by show l.toArray.size ≤ _; simpa using hs) w hV
  simpa using this
theorem number_l (l : List UInt8) (hs : l.length ≤ 1000000) (w : World) (hV : Vs w) :
    Calls Tryd.prog 33 #[.string ⟨l.toArray⟩] w fun e w' => e = .returned (.int .i64 (numb l)) ∧ Below w.heap.size w w' := by
  have := number_any ⟨l.toArray⟩ (by show l.toArray.size ≤ _; simpa using hs) w hV
  simpa using this
theorem restOf_len (l : List UInt8) : (restOf l).length ≤ l.length := (cutc_size 32 l).2

/-- What lies in the three blocks that guess has: its answer's (R), the instruction's (X), the row's (F). -/
structure GF (R X F : Nat) (o a b n : Int) (f : Array Value) (w : World) : Prop where
  hx : w.heap[X]? = some (.cells #[.int .i64 o, .int .i64 a, .int .i64 b, .int .i64 n] 32 (0, 0))
  hf : w.heap[F]? = some (.cells f 60 (0, 0))
  hr : w.heap[R]? = some (.cells #[.int .i64 0, .int .i64 0, .int .i64 0, .int .i64 0] 32 (0, 0))
  ne : X ≠ R ∧ X ≠ F ∧ R ≠ F
  lo : 6 ≤ X
  V : Vs w
theorem GF.later {R X F : Nat} {o a b n : Int} {f : Array Value} {w w' : World} (h : GF R X F o a b n f w) (b' : Below w.heap.size w w') : GF R X F o a b n f w' :=
  ⟨(b'.block X (lt_of_block h.hx)).trans h.hx, (b'.block F (lt_of_block h.hf)).trans h.hf, (b'.block R (lt_of_block h.hr)).trans h.hr, h.ne, h.lo, h.V.later b'⟩
theorem set_block {w : World} {X : Nat} {cs : Array Value} {t : TypeId} {fr : Nat × Nat} (h : w.heap[X]? = some (.cells cs t fr)) (i : Nat) (v : Value) : (w.setCell ⟨X, i, none⟩ v).heap[X]? = some (.cells (cs.setIfInBounds i v) t fr) := by
  simp [World.setCell, Array.getElem?_modify, h]
theorem GF.setA {R X F : Nat} {o a b n : Int} {f : Array Value} {w : World} (h : GF R X F o a b n f w) (v : Int) : GF R X F o v b n f (w.setCell ⟨X, 1, none⟩ (.int .i64 v)) :=
  ⟨(set_block h.hx 1 _).trans (by simp), (Below.heap_setCell _ _ _ _ (Ne.symm h.ne.2.1)).trans h.hf, (Below.heap_setCell _ _ _ _ (Ne.symm h.ne.1)).trans h.hr, h.ne, h.lo, h.V.set h.lo _⟩
theorem GF.setB {R X F : Nat} {o a b n : Int} {f : Array Value} {w : World} (h : GF R X F o a b n f w) (v : Int) : GF R X F o a v n f (w.setCell ⟨X, 2, none⟩ (.int .i64 v)) :=
  ⟨(set_block h.hx 2 _).trans (by simp), (Below.heap_setCell _ _ _ _ (Ne.symm h.ne.2.1)).trans h.hf, (Below.heap_setCell _ _ _ _ (Ne.symm h.ne.1)).trans h.hr, h.ne, h.lo, h.V.set h.lo _⟩
theorem GF.setN {R X F : Nat} {o a b n : Int} {f : Array Value} {w : World} (h : GF R X F o a b n f w) (v : Int) : GF R X F o a b v f (w.setCell ⟨X, 3, none⟩ (.int .i64 v)) :=
  ⟨(set_block h.hx 3 _).trans (by simp), (Below.heap_setCell _ _ _ _ (Ne.symm h.ne.2.1)).trans h.hf, (Below.heap_setCell _ _ _ _ (Ne.symm h.ne.1)).trans h.hr, h.ne, h.lo, h.V.set h.lo _⟩
theorem GF.cells {R X F : Nat} {o a b n : Int} {f0 f1 f2 f3 f4 : Value} {w : World} (h : GF R X F o a b n #[f0, f1, f2, f3, f4] w) :
    (w.cell? ⟨X, 0, none⟩ = some (.int .i64 o) ∧ w.cell? ⟨X, 1, none⟩ = some (.int .i64 a) ∧ w.cell? ⟨X, 2, none⟩ = some (.int .i64 b) ∧ w.cell? ⟨X, 3, none⟩ = some (.int .i64 n)) ∧
    (w.cell? ⟨F, 1, none⟩ = some f1 ∧ w.cell? ⟨F, 2, none⟩ = some f2 ∧ w.cell? ⟨F, 4, none⟩ = some f4) ∧
    (w.cell? ⟨R, 0, none⟩ = some (.int .i64 0) ∧ w.cell? ⟨R, 1, none⟩ = some (.int .i64 0) ∧ w.cell? ⟨R, 2, none⟩ = some (.int .i64 0) ∧ w.cell? ⟨R, 3, none⟩ = some (.int .i64 0)) ∧
    (∀ i, w.frozen? ⟨X, i, none⟩ = false) ∧ (∀ i, w.frozen? ⟨R, i, none⟩ = false) := by
  obtain ⟨hx, hf, hr, -, -, -⟩ := h
  simp [World.cell?, World.frozen?, hx, hf, hr]

set_option maxHeartbeats 4000000 in
theorem guess_any (s : ByteArray) (hs : s.size ≤ 1000000) (w : World) (hV : Vs w) :
    Calls Tryd.prog 20 #[.string s] w fun e w' => e = .returned (insV (guessP s.data.toList)) ∧ Below w.heap.size w w' := by
  obtain ⟨x, hx⟩ : ∃ x, Hid (guessP s.data.toList = x) := ⟨_, rfl⟩
  obtain ⟨nm, r0, fd, hc⟩ : ∃ nm r0 fd, cutc 32 s.data.toList = (nm, r0, fd) := ⟨_, _, _, rfl⟩
  have hr : r0.length ≤ 1000000 := by
    have hl : s.data.toList.length = s.size := by cases s; rfl
    have := (cutc_size 32 s.data.toList).2
    rw [hc] at this
    simp at this; omega
  have hr1 := restOf_len r0
  have hr2 := restOf_len (restOf r0)
  rw [hx.out]
  go_enter Tryd.func20, Tryd.ntmps20
  go_wp2_with fail
  refine (cut_one s 32 hs _).mono ?_
  rintro e w1 ⟨rfl, b1⟩
  rw [hc]
  go_wp2_with fail
  refine (opNamed_l nm _ ((hV.alloc _).later b1)).mono ?_
  rintro e w2 ⟨rfl, b2⟩
  have V2 := ((hV.alloc _).later b1).later b2
  have c2 : Below w.heap.size w w2 := past_alloc (Below.refl _ w) (Nat.le_refl _) (b1.trans (b2.mono b1.size))
  have hR : w2.heap[w.heap.size]? = some (.cells #[.int .i64 0, .int .i64 0, .int .i64 0, .int .i64 0] 32 (0, 0)) := by
    rw [b2.block _ (Nat.lt_of_lt_of_le (by simp) b1.size), b1.block _ (by simp)]
    exact heap_alloc_new w _
  have hz2 : w.heap.size < w2.heap.size := lt_of_block hR
  have G0 : ∀ (o : Int) (f : Array Value), GF w.heap.size w2.heap.size (w2.heap.size + 1) o 0 0 0 f ((w2.alloc (.cells #[.int .i64 o, .int .i64 0, .int .i64 0, .int .i64 0] 32)).alloc (.cells f 60)) := fun o f =>
    ⟨(Below.heap_alloc _ _ _ (by simp)).trans (heap_alloc_new w2 _), by have := heap_alloc_new (w2.alloc (.cells #[.int .i64 o, .int .i64 0, .int .i64 0, .int .i64 0] 32)) (.cells f 60); simpa using this,
      (Below.heap_alloc _ _ _ (by simp; omega)).trans ((Below.heap_alloc _ _ _ hz2).trans hR), by omega, V2.size, (V2.alloc _).alloc _⟩
  have c3 : ∀ (o o' : Obj), Below w.heap.size w ((w2.alloc o).alloc o') := fun o o' => (c2.alloc c2.size _).alloc (by simp; omega) _
  have hop : opN (cutc 32 s.data.toList).1 = opN nm := by rw [hc]
  have hre : restOf s.data.toList = r0 := by unfold restOf; rw [hc]
  rcases opN_cases nm with ho | ho | ho | ho | ho | ho | ho | ho
  · rw [ho]
    obtain ⟨k0, k1, k2, k3, k4⟩ := V2.row0
    have G := G0 0 #[.string ⟨#[]⟩, .bool false, .bool false, .int .i64 0, .int .i64 0]
    have C := c3 (.cells #[.int .i64 0, .int .i64 0, .int .i64 0, .int .i64 0] 32) (.cells #[.string ⟨#[]⟩, .bool false, .bool false, .int .i64 0, .int .i64 0] 60)
    clear G0 c3
    go_upto_region 10 with fail
    go_cut [43, 44, 45] (fun u v f wx => f = .bool false ∧ GF w.heap.size w2.heap.size (w2.heap.size + 1) 0 0 0 0 #[.string ⟨#[]⟩, .bool false, .bool false, .int .i64 0, .int .i64 0] wx ∧ Below w.heap.size w wx)
    case first =>
      go_wp2_with fail
      go_meet
      exact ⟨rfl, G, C⟩
    case rest =>
    obtain ⟨rfl, G, C⟩ := hcut
    obtain ⟨⟨x0, x1, x2, x3⟩, ⟨g1, g2, g4⟩, ⟨r0', r1', r2', r3'⟩, zx, zr⟩ := G.cells
    have n1 := G.ne.1
    go_wp2_with fail
    refine bodyPost_ret (v := .agg #[.int .i64 0, .int .i64 0, .int .i64 0, .int .i64 0]) (by simp [results, Tryd.results20, go_sem, r0', r1', r2', r3']) rfl ⟨?_, ((((C.setCell (p := ⟨w.heap.size, 0, none⟩) (Nat.le_refl _) _).setCell (p := ⟨w.heap.size, 1, none⟩) (Nat.le_refl _) _).setCell (p := ⟨w.heap.size, 2, none⟩) (Nat.le_refl _) _).setCell (p := ⟨w.heap.size, 3, none⟩) (Nat.le_refl _) _)⟩
    rw [← hx.out]; simp [guessP, hop, ho, shape, insV]
  · rw [ho]
    obtain ⟨k0, k1, k2, k3, k4⟩ := V2.row1
    have G := G0 1 #[.string ⟨#[115, 101, 116]⟩, .bool true, .bool false, .int .i64 0, .int .i64 65535]
    have C := c3 (.cells #[.int .i64 1, .int .i64 0, .int .i64 0, .int .i64 0] 32) (.cells #[.string ⟨#[115, 101, 116]⟩, .bool true, .bool false, .int .i64 0, .int .i64 65535] 60)
    clear G0 c3
    go_wp2_with fail
    clear k0 k1 k2 k3 k4
    refine (register_l (r0) (by omega) _ G.V).mono ?_
    rintro e w3 ⟨rfl, b3⟩
    replace G := G.later b3
    replace C := C.trans (b3.mono C.size)
    obtain ⟨⟨x0, x1, x2, x3⟩, ⟨g1, g2, g4⟩, ⟨r0', r1', r2', r3'⟩, zx, zr⟩ := G.cells
    have n1 := G.ne.1
    have n2 := G.ne.2.1
    have n3 := G.ne.2.2
    go_wp2_with fail
    replace G := G.setA (regOf (r0))
    replace C := C.setCell (p := ⟨w2.heap.size, 1, none⟩) c2.size (.int .i64 (regOf (r0)))
    clear x0 x1 x2 x3 g1 g2 g4 r0' r1' r2' r3' zx zr n1 n2 n3
    refine (number_l (restOf r0) (by omega) _ G.V).mono ?_
    rintro e w4 ⟨rfl, b4⟩
    replace G := G.later b4
    replace C := C.trans (b4.mono C.size)
    obtain ⟨⟨x0, x1, x2, x3⟩, ⟨g1, g2, g4⟩, ⟨r0', r1', r2', r3'⟩, zx, zr⟩ := G.cells
    have n1 := G.ne.1
    have n2 := G.ne.2.1
    have n3 := G.ne.2.2
    go_wp2_with fail
    refine bodyPost_ret (v := .agg #[.int .i64 1, .int .i64 (regOf r0), .int .i64 0, .int .i64 (numb (restOf r0))]) (by simp [results, Tryd.results20, go_sem, r0', r1', r2', r3']) rfl ⟨?_, (((((C.setCell (p := ⟨w2.heap.size, 3, none⟩) c2.size _).setCell (p := ⟨w.heap.size, 0, none⟩) (Nat.le_refl _) _).setCell (p := ⟨w.heap.size, 1, none⟩) (Nat.le_refl _) _).setCell (p := ⟨w.heap.size, 2, none⟩) (Nat.le_refl _) _).setCell (p := ⟨w.heap.size, 3, none⟩) (Nat.le_refl _) _)⟩
    rw [← hx.out]; simp [guessP, hop, ho, hre, shape, insV]
  · rw [ho]
    obtain ⟨k0, k1, k2, k3, k4⟩ := V2.row2
    have G := G0 2 #[.string ⟨#[97, 100, 100]⟩, .bool true, .bool true, .int .i64 0, .int .i64 0]
    have C := c3 (.cells #[.int .i64 2, .int .i64 0, .int .i64 0, .int .i64 0] 32) (.cells #[.string ⟨#[97, 100, 100]⟩, .bool true, .bool true, .int .i64 0, .int .i64 0] 60)
    clear G0 c3
    go_wp2_with fail
    clear k0 k1 k2 k3 k4
    refine (register_l (r0) (by omega) _ G.V).mono ?_
    rintro e w3 ⟨rfl, b3⟩
    replace G := G.later b3
    replace C := C.trans (b3.mono C.size)
    obtain ⟨⟨x0, x1, x2, x3⟩, ⟨g1, g2, g4⟩, ⟨r0', r1', r2', r3'⟩, zx, zr⟩ := G.cells
    have n1 := G.ne.1
    have n2 := G.ne.2.1
    have n3 := G.ne.2.2
    go_wp2_with fail
    replace G := G.setA (regOf (r0))
    replace C := C.setCell (p := ⟨w2.heap.size, 1, none⟩) c2.size (.int .i64 (regOf (r0)))
    clear x0 x1 x2 x3 g1 g2 g4 r0' r1' r2' r3' zx zr n1 n2 n3
    refine (register_l (restOf r0) (by omega) _ G.V).mono ?_
    rintro e w4 ⟨rfl, b4⟩
    replace G := G.later b4
    replace C := C.trans (b4.mono C.size)
    obtain ⟨⟨x0, x1, x2, x3⟩, ⟨g1, g2, g4⟩, ⟨r0', r1', r2', r3'⟩, zx, zr⟩ := G.cells
    have n1 := G.ne.1
    have n2 := G.ne.2.1
    have n3 := G.ne.2.2
    go_wp2_with fail
    refine bodyPost_ret (v := .agg #[.int .i64 2, .int .i64 (regOf r0), .int .i64 (regOf (restOf r0)), .int .i64 0]) (by simp [results, Tryd.results20, go_sem, r0', r1', r2', r3']) rfl ⟨?_, (((((C.setCell (p := ⟨w2.heap.size, 2, none⟩) c2.size _).setCell (p := ⟨w.heap.size, 0, none⟩) (Nat.le_refl _) _).setCell (p := ⟨w.heap.size, 1, none⟩) (Nat.le_refl _) _).setCell (p := ⟨w.heap.size, 2, none⟩) (Nat.le_refl _) _).setCell (p := ⟨w.heap.size, 3, none⟩) (Nat.le_refl _) _)⟩
    rw [← hx.out]; simp [guessP, hop, ho, hre, shape, insV]
  · rw [ho]
    obtain ⟨k0, k1, k2, k3, k4⟩ := V2.row3
    have G := G0 3 #[.string ⟨#[108, 111, 97, 100]⟩, .bool true, .bool true, .int .i64 0, .int .i64 65535]
    have C := c3 (.cells #[.int .i64 3, .int .i64 0, .int .i64 0, .int .i64 0] 32) (.cells #[.string ⟨#[108, 111, 97, 100]⟩, .bool true, .bool true, .int .i64 0, .int .i64 65535] 60)
    clear G0 c3
    go_wp2_with fail
    clear k0 k1 k2 k3 k4
    refine (register_l (r0) (by omega) _ G.V).mono ?_
    rintro e w3 ⟨rfl, b3⟩
    replace G := G.later b3
    replace C := C.trans (b3.mono C.size)
    obtain ⟨⟨x0, x1, x2, x3⟩, ⟨g1, g2, g4⟩, ⟨r0', r1', r2', r3'⟩, zx, zr⟩ := G.cells
    have n1 := G.ne.1
    have n2 := G.ne.2.1
    have n3 := G.ne.2.2
    go_wp2_with fail
    replace G := G.setA (regOf (r0))
    replace C := C.setCell (p := ⟨w2.heap.size, 1, none⟩) c2.size (.int .i64 (regOf (r0)))
    clear x0 x1 x2 x3 g1 g2 g4 r0' r1' r2' r3' zx zr n1 n2 n3
    refine (register_l (restOf r0) (by omega) _ G.V).mono ?_
    rintro e w4 ⟨rfl, b4⟩
    replace G := G.later b4
    replace C := C.trans (b4.mono C.size)
    obtain ⟨⟨x0, x1, x2, x3⟩, ⟨g1, g2, g4⟩, ⟨r0', r1', r2', r3'⟩, zx, zr⟩ := G.cells
    have n1 := G.ne.1
    have n2 := G.ne.2.1
    have n3 := G.ne.2.2
    go_wp2_with fail
    replace G := G.setB (regOf (restOf r0))
    replace C := C.setCell (p := ⟨w2.heap.size, 2, none⟩) c2.size (.int .i64 (regOf (restOf r0)))
    clear x0 x1 x2 x3 g1 g2 g4 r0' r1' r2' r3' zx zr n1 n2 n3
    refine (number_l (restOf (restOf r0)) (by omega) _ G.V).mono ?_
    rintro e w5 ⟨rfl, b5⟩
    replace G := G.later b5
    replace C := C.trans (b5.mono C.size)
    obtain ⟨⟨x0, x1, x2, x3⟩, ⟨g1, g2, g4⟩, ⟨r0', r1', r2', r3'⟩, zx, zr⟩ := G.cells
    have n1 := G.ne.1
    have n2 := G.ne.2.1
    have n3 := G.ne.2.2
    go_wp2_with fail
    refine bodyPost_ret (v := .agg #[.int .i64 3, .int .i64 (regOf r0), .int .i64 (regOf (restOf r0)), .int .i64 (numb (restOf (restOf r0)))]) (by simp [results, Tryd.results20, go_sem, r0', r1', r2', r3']) rfl ⟨?_, (((((C.setCell (p := ⟨w2.heap.size, 3, none⟩) c2.size _).setCell (p := ⟨w.heap.size, 0, none⟩) (Nat.le_refl _) _).setCell (p := ⟨w.heap.size, 1, none⟩) (Nat.le_refl _) _).setCell (p := ⟨w.heap.size, 2, none⟩) (Nat.le_refl _) _).setCell (p := ⟨w.heap.size, 3, none⟩) (Nat.le_refl _) _)⟩
    rw [← hx.out]; simp [guessP, hop, ho, hre, shape, insV]
  · rw [ho]
    obtain ⟨k0, k1, k2, k3, k4⟩ := V2.row4
    have G := G0 4 #[.string ⟨#[115, 116, 111, 114, 101]⟩, .bool true, .bool true, .int .i64 0, .int .i64 65535]
    have C := c3 (.cells #[.int .i64 4, .int .i64 0, .int .i64 0, .int .i64 0] 32) (.cells #[.string ⟨#[115, 116, 111, 114, 101]⟩, .bool true, .bool true, .int .i64 0, .int .i64 65535] 60)
    clear G0 c3
    go_wp2_with fail
    clear k0 k1 k2 k3 k4
    refine (register_l (r0) (by omega) _ G.V).mono ?_
    rintro e w3 ⟨rfl, b3⟩
    replace G := G.later b3
    replace C := C.trans (b3.mono C.size)
    obtain ⟨⟨x0, x1, x2, x3⟩, ⟨g1, g2, g4⟩, ⟨r0', r1', r2', r3'⟩, zx, zr⟩ := G.cells
    have n1 := G.ne.1
    have n2 := G.ne.2.1
    have n3 := G.ne.2.2
    go_wp2_with fail
    replace G := G.setA (regOf (r0))
    replace C := C.setCell (p := ⟨w2.heap.size, 1, none⟩) c2.size (.int .i64 (regOf (r0)))
    clear x0 x1 x2 x3 g1 g2 g4 r0' r1' r2' r3' zx zr n1 n2 n3
    refine (register_l (restOf r0) (by omega) _ G.V).mono ?_
    rintro e w4 ⟨rfl, b4⟩
    replace G := G.later b4
    replace C := C.trans (b4.mono C.size)
    obtain ⟨⟨x0, x1, x2, x3⟩, ⟨g1, g2, g4⟩, ⟨r0', r1', r2', r3'⟩, zx, zr⟩ := G.cells
    have n1 := G.ne.1
    have n2 := G.ne.2.1
    have n3 := G.ne.2.2
    go_wp2_with fail
    replace G := G.setB (regOf (restOf r0))
    replace C := C.setCell (p := ⟨w2.heap.size, 2, none⟩) c2.size (.int .i64 (regOf (restOf r0)))
    clear x0 x1 x2 x3 g1 g2 g4 r0' r1' r2' r3' zx zr n1 n2 n3
    refine (number_l (restOf (restOf r0)) (by omega) _ G.V).mono ?_
    rintro e w5 ⟨rfl, b5⟩
    replace G := G.later b5
    replace C := C.trans (b5.mono C.size)
    obtain ⟨⟨x0, x1, x2, x3⟩, ⟨g1, g2, g4⟩, ⟨r0', r1', r2', r3'⟩, zx, zr⟩ := G.cells
    have n1 := G.ne.1
    have n2 := G.ne.2.1
    have n3 := G.ne.2.2
    go_wp2_with fail
    refine bodyPost_ret (v := .agg #[.int .i64 4, .int .i64 (regOf r0), .int .i64 (regOf (restOf r0)), .int .i64 (numb (restOf (restOf r0)))]) (by simp [results, Tryd.results20, go_sem, r0', r1', r2', r3']) rfl ⟨?_, (((((C.setCell (p := ⟨w2.heap.size, 3, none⟩) c2.size _).setCell (p := ⟨w.heap.size, 0, none⟩) (Nat.le_refl _) _).setCell (p := ⟨w.heap.size, 1, none⟩) (Nat.le_refl _) _).setCell (p := ⟨w.heap.size, 2, none⟩) (Nat.le_refl _) _).setCell (p := ⟨w.heap.size, 3, none⟩) (Nat.le_refl _) _)⟩
    rw [← hx.out]; simp [guessP, hop, ho, hre, shape, insV]
  · rw [ho]
    obtain ⟨k0, k1, k2, k3, k4⟩ := V2.row5
    have G := G0 5 #[.string ⟨#[99, 108, 101, 97, 114]⟩, .bool false, .bool true, .int .i64 0, .int .i64 65535]
    have C := c3 (.cells #[.int .i64 5, .int .i64 0, .int .i64 0, .int .i64 0] 32) (.cells #[.string ⟨#[99, 108, 101, 97, 114]⟩, .bool false, .bool true, .int .i64 0, .int .i64 65535] 60)
    clear G0 c3
    go_wp2_with fail
    clear k0 k1 k2 k3 k4
    refine (register_l (r0) (by omega) _ G.V).mono ?_
    rintro e w3 ⟨rfl, b3⟩
    replace G := G.later b3
    replace C := C.trans (b3.mono C.size)
    obtain ⟨⟨x0, x1, x2, x3⟩, ⟨g1, g2, g4⟩, ⟨r0', r1', r2', r3'⟩, zx, zr⟩ := G.cells
    have n1 := G.ne.1
    have n2 := G.ne.2.1
    have n3 := G.ne.2.2
    go_wp2_with fail
    replace G := G.setB (regOf (r0))
    replace C := C.setCell (p := ⟨w2.heap.size, 2, none⟩) c2.size (.int .i64 (regOf (r0)))
    clear x0 x1 x2 x3 g1 g2 g4 r0' r1' r2' r3' zx zr n1 n2 n3
    refine (number_l (restOf r0) (by omega) _ G.V).mono ?_
    rintro e w4 ⟨rfl, b4⟩
    replace G := G.later b4
    replace C := C.trans (b4.mono C.size)
    obtain ⟨⟨x0, x1, x2, x3⟩, ⟨g1, g2, g4⟩, ⟨r0', r1', r2', r3'⟩, zx, zr⟩ := G.cells
    have n1 := G.ne.1
    have n2 := G.ne.2.1
    have n3 := G.ne.2.2
    go_wp2_with fail
    refine bodyPost_ret (v := .agg #[.int .i64 5, .int .i64 0, .int .i64 (regOf r0), .int .i64 (numb (restOf r0))]) (by simp [results, Tryd.results20, go_sem, r0', r1', r2', r3']) rfl ⟨?_, (((((C.setCell (p := ⟨w2.heap.size, 3, none⟩) c2.size _).setCell (p := ⟨w.heap.size, 0, none⟩) (Nat.le_refl _) _).setCell (p := ⟨w.heap.size, 1, none⟩) (Nat.le_refl _) _).setCell (p := ⟨w.heap.size, 2, none⟩) (Nat.le_refl _) _).setCell (p := ⟨w.heap.size, 3, none⟩) (Nat.le_refl _) _)⟩
    rw [← hx.out]; simp [guessP, hop, ho, hre, shape, insV]
  · rw [ho]
    obtain ⟨k0, k1, k2, k3, k4⟩ := V2.row6
    have G := G0 6 #[.string ⟨#[106, 117, 109, 112]⟩, .bool true, .bool false, .int .i64 0, .int .i64 23]
    have C := c3 (.cells #[.int .i64 6, .int .i64 0, .int .i64 0, .int .i64 0] 32) (.cells #[.string ⟨#[106, 117, 109, 112]⟩, .bool true, .bool false, .int .i64 0, .int .i64 23] 60)
    clear G0 c3
    go_wp2_with fail
    clear k0 k1 k2 k3 k4
    refine (register_l (r0) (by omega) _ G.V).mono ?_
    rintro e w3 ⟨rfl, b3⟩
    replace G := G.later b3
    replace C := C.trans (b3.mono C.size)
    obtain ⟨⟨x0, x1, x2, x3⟩, ⟨g1, g2, g4⟩, ⟨r0', r1', r2', r3'⟩, zx, zr⟩ := G.cells
    have n1 := G.ne.1
    have n2 := G.ne.2.1
    have n3 := G.ne.2.2
    go_wp2_with fail
    replace G := G.setA (regOf (r0))
    replace C := C.setCell (p := ⟨w2.heap.size, 1, none⟩) c2.size (.int .i64 (regOf (r0)))
    clear x0 x1 x2 x3 g1 g2 g4 r0' r1' r2' r3' zx zr n1 n2 n3
    refine (number_l (restOf r0) (by omega) _ G.V).mono ?_
    rintro e w4 ⟨rfl, b4⟩
    replace G := G.later b4
    replace C := C.trans (b4.mono C.size)
    obtain ⟨⟨x0, x1, x2, x3⟩, ⟨g1, g2, g4⟩, ⟨r0', r1', r2', r3'⟩, zx, zr⟩ := G.cells
    have n1 := G.ne.1
    have n2 := G.ne.2.1
    have n3 := G.ne.2.2
    go_wp2_with fail
    refine bodyPost_ret (v := .agg #[.int .i64 6, .int .i64 (regOf r0), .int .i64 0, .int .i64 (numb (restOf r0))]) (by simp [results, Tryd.results20, go_sem, r0', r1', r2', r3']) rfl ⟨?_, (((((C.setCell (p := ⟨w2.heap.size, 3, none⟩) c2.size _).setCell (p := ⟨w.heap.size, 0, none⟩) (Nat.le_refl _) _).setCell (p := ⟨w.heap.size, 1, none⟩) (Nat.le_refl _) _).setCell (p := ⟨w.heap.size, 2, none⟩) (Nat.le_refl _) _).setCell (p := ⟨w.heap.size, 3, none⟩) (Nat.le_refl _) _)⟩
    rw [← hx.out]; simp [guessP, hop, ho, hre, shape, insV]
  · rw [ho]
    obtain ⟨k0, k1, k2, k3, k4⟩ := V2.row7
    have G := G0 7 #[.string ⟨#[99, 97, 108, 108]⟩, .bool false, .bool false, .int .i64 1, .int .i64 9]
    have C := c3 (.cells #[.int .i64 7, .int .i64 0, .int .i64 0, .int .i64 0] 32) (.cells #[.string ⟨#[99, 97, 108, 108]⟩, .bool false, .bool false, .int .i64 1, .int .i64 9] 60)
    clear G0 c3
    go_wp2_with fail
    clear k0 k1 k2 k3 k4
    refine (callNamed_l (r0) _ G.V).mono ?_
    rintro e w3 ⟨rfl, b3⟩
    replace G := G.later b3
    replace C := C.trans (b3.mono C.size)
    obtain ⟨⟨x0, x1, x2, x3⟩, ⟨g1, g2, g4⟩, ⟨r0', r1', r2', r3'⟩, zx, zr⟩ := G.cells
    have n1 := G.ne.1
    have n2 := G.ne.2.1
    have n3 := G.ne.2.2
    go_wp2_with fail
    refine bodyPost_ret (v := .agg #[.int .i64 7, .int .i64 0, .int .i64 0, .int .i64 (callOf r0)]) (by simp [results, Tryd.results20, go_sem, r0', r1', r2', r3']) rfl ⟨?_, (((((C.setCell (p := ⟨w2.heap.size, 3, none⟩) c2.size _).setCell (p := ⟨w.heap.size, 0, none⟩) (Nat.le_refl _) _).setCell (p := ⟨w.heap.size, 1, none⟩) (Nat.le_refl _) _).setCell (p := ⟨w.heap.size, 2, none⟩) (Nat.le_refl _) _).setCell (p := ⟨w.heap.size, 3, none⟩) (Nat.le_refl _) _)⟩
    rw [← hx.out]; simp [guessP, hop, ho, hre, shape, insV]
end Go.Proofs.YtpnegpcnmmaclaaDoor
