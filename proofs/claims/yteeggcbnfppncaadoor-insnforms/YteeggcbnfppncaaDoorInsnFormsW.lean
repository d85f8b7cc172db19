/-
  The law InsnForms, walked.
-/
import Derived.Test.YteeggcbnfppncaaDoorInsnR
namespace Go.Proofs.YteeggcbnfppncaaDoor
open Go.ChangeShapes Go.WideShapes Go.ChangeAt Go.RowKit

/-- The forms by hand. -/
def forms : List (List UInt8 × Ins) := [([115, 101, 116, 32, 114, 55, 32, 54, 53, 53, 51, 53], ⟨1, 7, 0, 65535⟩), ([97, 100, 100, 32, 114, 48, 32, 114, 49], ⟨2, 0, 1, 0⟩), ([108, 111, 97, 100, 32, 114, 49, 32, 114, 48, 32, 48], ⟨3, 1, 0, 0⟩), ([115, 116, 111, 114, 101, 32, 114, 50, 32, 114, 51, 32, 49, 48], ⟨4, 2, 3, 10⟩), ([99, 108, 101, 97, 114, 32, 114, 54, 32, 55], ⟨5, 0, 6, 7⟩), ([106, 117, 109, 112, 32, 114, 49, 32, 50, 51], ⟨6, 1, 0, 23⟩), ([99, 97, 108, 108, 32, 109, 97, 112], ⟨7, 0, 0, 1⟩), ([99, 97, 108, 108, 32, 117, 110, 109, 97, 112], ⟨7, 0, 0, 2⟩), ([99, 97, 108, 108, 32, 112, 114, 111, 116, 101, 99, 116], ⟨7, 0, 0, 3⟩), ([99, 97, 108, 108, 32, 111, 117, 116], ⟨7, 0, 0, 4⟩), ([99, 97, 108, 108, 32, 102, 111, 114, 107], ⟨7, 0, 0, 5⟩), ([99, 97, 108, 108, 32, 101, 120, 105, 116], ⟨7, 0, 0, 6⟩), ([99, 97, 108, 108, 32, 121, 105, 101, 108, 100], ⟨7, 0, 0, 7⟩), ([99, 97, 108, 108, 32, 115, 101, 110, 100], ⟨7, 0, 0, 8⟩), ([99, 97, 108, 108, 32, 114, 101, 99, 118], ⟨7, 0, 0, 9⟩)]
def formV (r : List UInt8 × Ins) : List Value := [.string ⟨r.1.toArray⟩, .int .i64 r.2.op, .int .i64 r.2.a, .int .i64 r.2.b, .int .i64 r.2.n]
theorem forms_ok : ∀ r ∈ forms, okP r.2 = true ∧ prP r.2 = r.1 ∧ parseP r.1 = some r.2 ∧ r.1.length ≤ 1000000 := by decide +kernel
/-- The texts that are none. -/
def bads : List (List UInt8) := [[], [115, 101, 116], [115, 101, 116, 32, 114, 49], [115, 101, 116, 32, 114, 49, 32], [115, 101, 116, 32, 114, 49, 32, 49, 32, 49], [115, 101, 116, 32, 114, 48, 49, 32, 49], [115, 101, 116, 32, 82, 49, 32, 49], [115, 101, 116, 32, 49, 32, 49], [115, 101, 116, 32, 114, 49, 32, 114, 49], [115, 101, 116, 32, 114, 49, 32, 54, 53, 53, 51, 54], [115, 101, 116, 32, 114, 49, 32, 45, 49], [83, 101, 116, 32, 114, 49, 32, 49], [32, 115, 101, 116, 32, 114, 49, 32, 49], [115, 101, 116, 32, 114, 49, 32, 32, 49], [115, 101, 116, 32, 114, 56, 32, 49], [97, 100, 100, 32, 114, 49, 32, 49], [97, 100, 100, 32, 114, 49, 32, 114, 56], [108, 111, 97, 100, 32, 114, 49, 32, 53], [99, 108, 101, 97, 114, 32, 53], [106, 117, 109, 112, 32, 114, 49, 32, 50, 52], [99, 97, 108, 108], [99, 97, 108, 108, 32, 49], [99, 97, 108, 108, 32, 109, 97, 112, 115], [99, 97, 108, 108, 32, 109, 97, 112, 32, 49], [110, 111, 112], [115, 101, 116, 32, 114, 49, 32, 49, 10]]
theorem bads_no : ∀ r ∈ bads, parseP r = none ∧ r.length ≤ 1000000 := by decide +kernel

set_option maxHeartbeats 1000000 in
theorem insnForms_walk (a0 : Int) (_w0 : (Lit.int .i64 a0).wf = true) (w : World) (hV : Vs w) :
    Calls Tryd.prog 3 #[.int .i64 a0] w fun e w' => e = .returned (.bool true) ∧ Below w.heap.size w w' := by
  go_enter Tryd.func3, Tryd.ntmps3
  go_upto_block 0 with fail
  go_cut [4, 5, 6] (fun _ _ _ wx => Vs wx ∧ Below w.heap.size w wx)
  case first =>
    go_wp2_with fail
    go_loopg [44] 15 (fun g i wr => ∃ k : Nat, g + k = 15 ∧ i = .int .i64 k ∧ CRow wr w.heap.size (forms.map formV) ∧ Vs wr ∧ Below w.heap.size w wr)
    case atStart => exact ⟨0, by omega, rfl, CRow.lit w _ _ _ rfl, hV.alloc _, (Below.refl _ w).alloc (Nat.le_refl _) _⟩
    case round =>
      obtain ⟨k, hg, rfl, hI, hVr, hB⟩ := hrel
      by_cases hk : k < 15
      · have hk' : (k : Int) < 15 := by omega
        have hx : forms[k]? = some (forms[k]'(by simpa [forms] using hk)) := List.getElem?_eq_getElem _
        generalize forms[k]'(by simpa [forms] using hk) = r at hx
        obtain ⟨hok, hpr, hpa, hle⟩ := forms_ok r (List.mem_of_getElem? hx)
        have hr : (forms.map formV)[k]? = some (formV r) := by rw [List.getElem?_map, hx]; rfl
        have h5 : ∀ q ∈ forms.map formV, q.length = 5 := fun q hq => by obtain ⟨y, _, rfl⟩ := List.mem_map.1 hq; rfl
        have c0 := hI.at h5 hr (j := 0) rfl
        have c1 := hI.at h5 hr (j := 1) rfl
        have c2 := hI.at h5 hr (j := 2) rfl
        have c3 := hI.at h5 hr (j := 3) rfl
        have c4 := hI.at h5 hr (j := 4) rfl
        rw [Nat.add_zero] at c0
        obtain ⟨tx, x⟩ := r
        dsimp only at hok hpr hpa hle c0 c1 c2 c3 c4
        subst hpr
        clear hr h5 hx
        have hlt := hI.lt
        go_wp2_with fail
        refine (print_ok x _ (hVr.alloc _) hok).mono ?_
        rintro e w2 ⟨rfl, b2⟩
        have V2 := (hVr.alloc _).later b2
        obtain ⟨x0, x1, x2, x3, x4, hl⟩ := five_cells b2
        clear c0 c1 c2 c3 c4
        go_wp2_with fail
        refine (parse_l (prP x) hle _ V2).mono ?_
        rintro e w3 ⟨rfl, b3⟩
        rw [parseV_some hpa]
        unfold insV
        obtain ⟨x0, x1, x2, x3, x4, hl⟩ := five_cells (b2.trans (b3.mono b2.size))
        have V3 := V2.later b3
        have hq : ∀ o, (w3.alloc o).cell? ⟨wr.heap.size, 0, none⟩ = some (.string ⟨(prP x).toArray⟩) := fun o => (Below.cell ((Below.refl _ w3).alloc (Nat.le_refl _) o) hl).trans x0
        have hq1 : ∀ o, (w3.alloc o).cell? ⟨wr.heap.size, 1, none⟩ = some (.int .i64 x.op) := fun o => (Below.cell ((Below.refl _ w3).alloc (Nat.le_refl _) o) hl).trans x1
        have hq2 : ∀ o, (w3.alloc o).cell? ⟨wr.heap.size, 2, none⟩ = some (.int .i64 x.a) := fun o => (Below.cell ((Below.refl _ w3).alloc (Nat.le_refl _) o) hl).trans x2
        have hq3 : ∀ o, (w3.alloc o).cell? ⟨wr.heap.size, 3, none⟩ = some (.int .i64 x.b) := fun o => (Below.cell ((Below.refl _ w3).alloc (Nat.le_refl _) o) hl).trans x3
        have hq4 : ∀ o, (w3.alloc o).cell? ⟨wr.heap.size, 4, none⟩ = some (.int .i64 x.n) := fun o => (Below.cell ((Below.refl _ w3).alloc (Nat.le_refl _) o) hl).trans x4
        go_wp2_with fail
        go_roundg (15 - (k + 1))
        case measure => omega
        case rel =>
          have hB2 := past_alloc hB hB.size b2
          have hB3 := hB2.trans (b3.mono hB2.size)
          exact ⟨k + 1, by omega, by go_num, (((hI.later ((Below.refl _ wr).alloc (Nat.le_refl _) _)).later b2).later b3).later ((Below.refl _ w3).alloc (Nat.le_refl _) _), V3.alloc _, hB3.alloc hB3.size _⟩
      · have hk' : ¬ ((k : Int) < 15) := by omega
        go_wp2_with fail
        go_meet
        exact ⟨hVr, hB⟩
  case rest =>
    obtain ⟨V1, B1⟩ := hcut
    have m0 := Int.emod_nonneg a0 (b := 26) (by omega)
    have m1 := Int.emod_lt_of_pos a0 (b := 26) (by omega)
    obtain ⟨j, hj⟩ : ∃ j : Nat, a0 % 26 = (j : Int) := ⟨(a0 % 26).toNat, by omega⟩
    rw [hj] at m0 m1
    have hj26 : j < 26 := by omega
    have hx : bads[j]? = some (bads[j]'(by simpa [bads] using hj26)) := List.getElem?_eq_getElem _
    generalize bads[j]'(by simpa [bads] using hj26) = s at hx
    obtain ⟨hno, hle⟩ := bads_no s (List.mem_of_getElem? hx)
    go_wp2_with fail
    refine (within_below a0 26 _ (by omega) (by omega)).mono ?_
    rintro e w2 ⟨rfl, b2⟩
    rw [hj]
    have hC : CRow w2 wc.heap.size (bads.map fun s => [.string ⟨s.toArray⟩]) := (CRow.lit wc _ _ _ rfl).later b2
    have c0 := hC.at (n := 1) (fun q hq => by obtain ⟨y, _, rfl⟩ := List.mem_map.1 hq; rfl) (i := j) (j := 0) (r := [.string ⟨s.toArray⟩]) (by rw [List.getElem?_map, hx]; rfl) rfl
    simp only [Nat.mul_one, Nat.add_zero] at c0
    have V2 := (V1.alloc _).later b2
    clear hC hj hx
    go_wp2_with fail
    refine (parse_l s hle _ V2).mono ?_
    rintro e w3 ⟨rfl, b3⟩
    rw [parseV_none hno]
    unfold insV
    have V3 := V2.later b3
    go_wp2_with fail
    refine (wakes7 _ (V3.alloc _)).mono ?_
    rintro e w4 ⟨rfl, b4⟩
    go_wp2_with fail
    go_ret
    have B2 := past_alloc B1 B1.size b2
    have B3 := B2.trans (b3.mono B2.size)
    exact ⟨rfl, past_alloc B3 B3.size b4⟩
end Go.Proofs.YteeggcbnfppncaaDoor
