/-
  The document's own answers on instructions: fields, in, CheckInsn, PrintInsn.
-/
import Derived.Test.YtpnegpcnmmaclaaDoorInsnT
import Derived.Deep.CutBlock
namespace Go.Proofs.YtpnegpcnmmaclaaDoor
open Go.ChangeShapes Go.WideShapes Go.ChangeAt Go.RowKit

/-- Which fields an op has, as letters. -/
def fieldL (op : Int) : List UInt8 :=
  if op = 1 then [65, 78] else if op = 2 then [65, 66] else if op = 3 then [65, 66, 78] else if op = 4 then [65, 66, 78] else if op = 5 then [66, 78] else if op = 6 then [65, 78] else if op = 7 then [78] else [63]

theorem fields_any (op : Int) (w : World) :
    Calls Tryd.prog 22 #[.int .i64 op] w fun e w' => e = .returned (.string ⟨(fieldL op).toArray⟩) ∧ Below w.heap.size w w' := by
  by_cases h : 0 ≤ op ∧ op ≤ 7
  · rcases (by omega : op = 0 ∨ op = 1 ∨ op = 2 ∨ op = 3 ∨ op = 4 ∨ op = 5 ∨ op = 6 ∨ op = 7) with rfl | rfl | rfl | rfl | rfl | rfl | rfl | rfl
    all_goals
      go_enter Tryd.func22, Tryd.ntmps22
      go_wp2
      go_ret
      exact ⟨by kernel_rfl, (Below.refl _ w).alloc (Nat.le_refl _) _⟩
  · have e : fieldL op = [63] := by
      unfold fieldL
      rw [if_neg (by omega), if_neg (by omega), if_neg (by omega), if_neg (by omega), if_neg (by omega), if_neg (by omega), if_neg (by omega)]
    rw [e]
    by_cases h0 : op < 0
    · go_enter Tryd.func22, Tryd.ntmps22
      go_wp2
      go_ret
      exact ⟨rfl, Below.refl _ w⟩
    · have h7 : 7 < op := by omega
      go_enter Tryd.func22, Tryd.ntmps22
      go_wp2
      go_ret
      exact ⟨rfl, Below.refl _ w⟩

theorem size_mk (l : List UInt8) : (⟨l.toArray⟩ : ByteArray).size = l.length := List.size_toArray
theorem byte_eq (l : List UInt8) (k : Nat) (_h : k < (⟨l.toArray⟩ : ByteArray).size) (h' : k < l.length) (c : UInt8) : (((⟨l.toArray⟩ : ByteArray)[k].toNat : Int) == (c.toNat : Int)) = (l[k] == c) := by
  have e : (⟨l.toArray⟩ : ByteArray)[k] = l[k] := by simp [ByteArray.getElem_eq_getElem_data]
  rw [e, Bool.eq_iff_iff, beq_iff_eq, beq_iff_eq]
  constructor
  · intro h; exact UInt8.toNat_inj.1 (by omega)
  · intro h; rw [h]

theorem in_any (l : List UInt8) (c : UInt8) (w : World) (hl : l.length ≤ 1000) :
    Calls Tryd.prog 35 #[.string ⟨l.toArray⟩, .int .u8 c.toNat] w fun e w' => e = .returned (.bool (l.contains c)) ∧ w = w' := by
  have hz := size_mk l
  go_enter Tryd.func35, Tryd.ntmps35
  go_wp2
  go_loopg [5] l.length (fun g i wr => ∃ k : Nat, g + k = l.length ∧ i = .int .i64 k ∧ Hid (∀ j (h : j < l.length), j < k → l[j] ≠ c) ∧ w = wr)
  case atStart => exact ⟨0, by omega, rfl, fun j _ h => by omega, rfl⟩
  case round =>
    obtain ⟨k, hg, rfl, hn, rfl⟩ := hrel
    by_cases hk : k < l.length
    · have hk' : (k : Int) < (l.length : Int) := by omega
      have hb := byte_eq l k (by omega) hk c
      go_wp2
      · go_ret
        refine ⟨ret_bool ?_, rfl⟩
        have h : (l[k] == c) = true := by assumption
        have : l[k] = c := by simpa using h
        have hm : c ∈ l := this ▸ List.getElem_mem _
        simp [hm]
      · go_roundg (l.length - (k + 1))
        case measure => omega
        case rel =>
          refine ⟨k + 1, by omega, by go_num, fun j hj hjk => ?_, rfl⟩
          by_cases e : j < k
          · exact hn.out j hj e
          · obtain rfl : j = k := by omega
            have h : (l[j] == c) = false := by assumption
            simpa using h
    · have hk' : ¬ ((k : Int) < (l.length : Int)) := by omega
      go_wp2
      go_ret
      refine ⟨ret_bool ?_, rfl⟩
      rw [eq_comm, Bool.eq_false_iff]
      intro h
      have h' : c ∈ l := by simpa using h
      obtain ⟨j, hj, e⟩ := List.getElem_of_mem h'
      exact hn.out j hj (by omega) e

/-- The two lists of names. -/
def opsL : List (List UInt8) := [[], [115, 101, 116], [97, 100, 100], [108, 111, 97, 100], [115, 116, 111, 114, 101], [99, 108, 101, 97, 114], [106, 117, 109, 112], [99, 97, 108, 108]]
def callsL : List (List UInt8) := [[], [109, 97, 112], [117, 110, 109, 97, 112], [112, 114, 111, 116, 101, 99, 116], [111, 117, 116], [102, 111, 114, 107], [101, 120, 105, 116], [121, 105, 101, 108, 100], [115, 101, 110, 100], [114, 101, 99, 118]]
def strC (l : List (List UInt8)) : List (List Value) := l.map fun s => [.string ⟨s.toArray⟩]
theorem ops_any (w : World) : Calls Tryd.prog 23 #[] w fun e w' => e = .returned (.slice (some ⟨w.heap.size, 0, none⟩) 8 8) ∧ CRow w' w.heap.size (strC opsL) ∧ Below w.heap.size w w' := by
  go_enter Tryd.func23, Tryd.ntmps23
  go_wp2
  go_ret
  exact ⟨rfl, CRow.lit w _ _ _ rfl, (Below.refl _ w).alloc (Nat.le_refl _) _⟩
theorem calls_any (w : World) : Calls Tryd.prog 24 #[] w fun e w' => e = .returned (.slice (some ⟨w.heap.size, 0, none⟩) 10 10) ∧ CRow w' w.heap.size (strC callsL) ∧ Below w.heap.size w w' := by
  go_enter Tryd.func24, Tryd.ntmps24
  go_wp2
  go_ret
  exact ⟨rfl, CRow.lit w _ _ _ rfl, (Below.refl _ w).alloc (Nat.le_refl _) _⟩
theorem CRow.str {w : World} {g : Nat} {l : List (List UInt8)} (h : CRow w g (strC l)) {i : Nat} {s : List UInt8} (hs : l[i]? = some s) : w.cell? ⟨g, i, none⟩ = some (.string ⟨s.toArray⟩) := by
  have := h.at (n := 1) (fun q hq => by obtain ⟨y, _, rfl⟩ := List.mem_map.1 hq; rfl) (i := i) (j := 0) (r := [.string ⟨s.toArray⟩]) (by unfold strC; rw [List.getElem?_map, hs]; rfl) rfl
  simpa using this
end Go.Proofs.YtpnegpcnmmaclaaDoor
