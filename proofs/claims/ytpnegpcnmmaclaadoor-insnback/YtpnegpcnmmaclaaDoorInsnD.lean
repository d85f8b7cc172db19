/-
  insn: opNamed, callNamed.
-/
import Derived.Test.YtpnegpcnmmaclaaDoorInsnB
import Derived.Deep.LoopGhost
namespace Go.Proofs.YtpnegpcnmmaclaaDoor
open Go.ChangeShapes Go.WideShapes Go.ChangeAt Go.RowKit

/-- The name in a place, as bytes. -/
def callB (k : Nat) : ByteArray := ⟨(callN k).toArray⟩
def opB (k : Nat) : ByteArray := ⟨(shape k).name.toArray⟩
theorem callB_index : ∀ k : Nat, k < 10 → ∀ w : World, (Instr.index 62 (.agg callCells) (.int .i64 k)).run Tryd.prog w = .ok (.string (callB k)) w
  | 0, _, _ | 1, _, _ | 2, _, _ | 3, _, _ | 4, _, _ | 5, _, _ | 6, _, _ | 7, _, _ | 8, _, _ | 9, _, _ => by kernel_rfl
  | n + 10, h, _ => by omega
theorem callOf_B : ∀ k : Nat, k < 10 → callOf (callN k) = k
  | 0, _ | 1, _ | 2, _ | 3, _ | 4, _ | 5, _ | 6, _ | 7, _ | 8, _ | 9, _ => by decide
  | n + 10, h => by omega
theorem opN_B : ∀ k : Nat, k < 8 → opN (shape k).name = k
  | 0, _ | 1, _ | 2, _ | 3, _ | 4, _ | 5, _ | 6, _ | 7, _ => by decide
  | n + 8, h => by omega
theorem callOf_none (l : List UInt8) (h : ∀ k : Nat, k < 10 → callN k ≠ l) : callOf l = 0 := by
  have h1 : callN 1 ≠ l := h 1 (by omega)
  have h2 : callN 2 ≠ l := h 2 (by omega)
  have h3 : callN 3 ≠ l := h 3 (by omega)
  have h4 : callN 4 ≠ l := h 4 (by omega)
  have h5 : callN 5 ≠ l := h 5 (by omega)
  have h6 : callN 6 ≠ l := h 6 (by omega)
  have h7 : callN 7 ≠ l := h 7 (by omega)
  have h8 : callN 8 ≠ l := h 8 (by omega)
  have h9 : callN 9 ≠ l := h 9 (by omega)
  unfold callOf
  rw [if_neg (Ne.symm h1), if_neg (Ne.symm h2), if_neg (Ne.symm h3), if_neg (Ne.symm h4), if_neg (Ne.symm h5), if_neg (Ne.symm h6), if_neg (Ne.symm h7), if_neg (Ne.symm h8), if_neg (Ne.symm h9)]
  simp
theorem opN_none (l : List UInt8) (h : ∀ k : Nat, k < 8 → (shape k).name ≠ l) : opN l = 0 := by
  have h1 : (shape 1).name ≠ l := h 1 (by omega)
  have h2 : (shape 2).name ≠ l := h 2 (by omega)
  have h3 : (shape 3).name ≠ l := h 3 (by omega)
  have h4 : (shape 4).name ≠ l := h 4 (by omega)
  have h5 : (shape 5).name ≠ l := h 5 (by omega)
  have h6 : (shape 6).name ≠ l := h 6 (by omega)
  have h7 : (shape 7).name ≠ l := h 7 (by omega)
  unfold opN
  rw [if_neg (Ne.symm h1), if_neg (Ne.symm h2), if_neg (Ne.symm h3), if_neg (Ne.symm h4), if_neg (Ne.symm h5), if_neg (Ne.symm h6), if_neg (Ne.symm h7)]
  simp

set_option maxHeartbeats 1000000 in
theorem callNamed_any (s : ByteArray) (w : World) (hV : Vs w) :
    Calls Tryd.prog 32 #[.string s] w fun e w' => e = .returned (.int .i64 (callOf s.data.toList)) ∧ w = w' := by
  obtain ⟨t1, f1, h1⟩ := hV.cl
  go_enter Tryd.func32, Tryd.ntmps32
  go_wp2_with (refine wpList_load_row rfl 62 _ rfl 1 rfl t1 _ f1 _ h1 Tryd.underlying62 rfl (by kernel_rfl) ?_)
  clear h1
  go_loopg [6] 10 (fun g i wr => ∃ k : Nat, g + k = 10 ∧ i = .int .i64 k ∧ Hid (∀ j, j < k → callN j ≠ s.data.toList) ∧ w = wr)
  case atStart => exact ⟨0, by omega, rfl, fun j h => by omega, rfl⟩
  case round =>
    obtain ⟨k, hg, rfl, hn, rfl⟩ := hrel
    by_cases hk : k < 10
    · have hk' : (k : Int) < 10 := by omega
      have hi := callB_index k hk
      cases hb : ((callB k).toList == s.toList)
      · go_wp2
        go_roundg (10 - (k + 1))
        case measure => omega
        case rel =>
          refine ⟨k + 1, by omega, by go_num, fun j hj => ?_, rfl⟩
          by_cases e : j < k
          · exact hn.out j e
          · obtain rfl : j = k := by omega
            intro he
            have : (callB j).toList = s.toList := by rw [ByteArray.toList_eq, ByteArray.toList_eq, ← he]; rfl
            rw [this] at hb; simp at hb
      · go_wp2
        go_ret
        refine ⟨?_, rfl⟩
        have : (callB k).toList = s.toList := by simpa using hb
        rw [ByteArray.toList_eq, ByteArray.toList_eq] at this
        rw [← this]
        show _ = Ending.returned (Value.int .i64 (callOf (callN k)))
        rw [callOf_B k hk]; rfl
    · have hk' : ¬ ((k : Int) < 10) := by omega
      go_wp2
      go_ret
      refine ⟨?_, rfl⟩
      rw [callOf_none _ (fun j hj => hn.out j (by omega))]; rfl

/-- A row of ops as a value. -/
def shapeV (k : Nat) : Value := .agg #[.string (opB k), .bool (shape k).a, .bool (shape k).b, .int .i64 (shape k).least, .int .i64 (shape k).most]
theorem opB_index : ∀ k : Nat, k < 8 → ∀ w : World, (Instr.index 61 (.agg shapeCells) (.int .i64 k)).run Tryd.prog w = .ok (.agg #[.string (opB k), .bool (shape k).a, .bool (shape k).b, .int .i64 (shape k).least, .int .i64 (shape k).most]) w
  | 0, _, _ | 1, _, _ | 2, _, _ | 3, _, _ | 4, _, _ | 5, _, _ | 6, _, _ | 7, _, _ => by kernel_rfl
  | n + 8, h, _ => by omega

set_option maxHeartbeats 1000000 in
theorem opNamed_any (s : ByteArray) (w : World) (hV : Vs w) :
    Calls Tryd.prog 30 #[.string s] w fun e w' => e = .returned (.int .i64 (opN s.data.toList)) ∧ Below w.heap.size w w' := by
  obtain ⟨t0, f0, h0⟩ := hV.sh
  go_enter Tryd.func30, Tryd.ntmps30
  go_wp2_with (refine wpList_load_row rfl 61 _ rfl 0 rfl t0 _ f0 _ h0 Tryd.underlying61 rfl (by kernel_rfl) ?_)
  clear h0
  go_loopg [6] 8 (fun g i wr => ∃ k : Nat, g + k = 8 ∧ i = .int .i64 k ∧ Hid (∀ j : Nat, j < k → (shape j).name ≠ s.data.toList) ∧ Below w.heap.size w wr)
  case atStart => exact ⟨0, by omega, rfl, fun j h => by omega, Below.refl _ _⟩
  case round =>
    obtain ⟨k, hg, rfl, hn, hB⟩ := hrel
    have hBs := hB.size
    by_cases hk : k < 8
    · have hk' : (k : Int) < 8 := by omega
      have hi := opB_index k hk
      generalize (shape k).a = fa at hi
      generalize (shape k).b = fb at hi
      generalize (shape k).least = fl at hi
      generalize (shape k).most = fm at hi
      cases hb : ((opB k).toList == s.toList)
      · go_wp2
        go_roundg (8 - (k + 1))
        case measure => omega
        case rel =>
          refine ⟨k + 1, by omega, by go_num, fun j hj => ?_, hB.alloc hBs _⟩
          by_cases e : j < k
          · exact hn.out j e
          · obtain rfl : j = k := by omega
            intro he
            have : (opB j).toList = s.toList := by rw [ByteArray.toList_eq, ByteArray.toList_eq, ← he]; rfl
            rw [this] at hb; simp at hb
      · go_wp2
        go_ret
        refine ⟨?_, hB.alloc hBs _⟩
        have : (opB k).toList = s.toList := by simpa using hb
        rw [ByteArray.toList_eq, ByteArray.toList_eq] at this
        rw [← this]
        show _ = Ending.returned (Value.int .i64 (opN (shape k).name))
        rw [opN_B k hk]; rfl
    · have hk' : ¬ ((k : Int) < 8) := by omega
      go_wp2
      go_ret
      refine ⟨?_, hB⟩
      rw [opN_none _ (fun j hj => hn.out j (by omega))]; rfl
end Go.Proofs.YtpnegpcnmmaclaaDoor
