/-
  Plain: the words of an instruction's text.
-/
import Derived.Test.YtpnegpcnmmaclaaDoorRInsB
namespace Go.Proofs.YtpnegpcnmmaclaaDoor
open Go.ChangeShapes Go.WideShapes Go.ChangeAt Go.RowKit

theorem wf_word : ∀ (a : List UInt8) (d : List (List UInt8)) (cu : List UInt8), (∀ c ∈ a, c ≠ 32) → a.foldl wstep (d, cu) = (d, cu ++ a)
  | [], d, cu, _ => by simp
  | c :: a, d, cu, h => by
    have hc := h c (List.mem_cons_self ..)
    simp only [List.foldl_cons]
    rw [show wstep (d, cu) c = (d, cu ++ [c]) by simp [wstep, hc], wf_word a d (cu ++ [c]) (fun y hy => h y (List.mem_cons_of_mem _ hy))]
    simp
theorem wf_sp (a r : List UInt8) (d : List (List UInt8)) (h : ∀ c ∈ a, c ≠ 32) : (a ++ 32 :: r).foldl wstep (d, []) = r.foldl wstep (d ++ [a], []) := by
  rw [List.foldl_append, wf_word a d [] h, List.foldl_cons]
  simp [wstep]
theorem wf_last (a : List UInt8) (d : List (List UInt8)) (h : ∀ c ∈ a, c ≠ 32) : a.foldl wstep (d, []) = (d, a) := by
  rw [wf_word a d [] h]; simp
/-- The word of a field. -/
def fieldW (x : Ins) (c : UInt8) : List UInt8 := if c = 65 then 114 :: dig x.a else if c = 66 then 114 :: dig x.b else if x.op = 7 then callN x.n else dig x.n
def wordsOf (x : Ins) : List (List UInt8) := (shape x.op).name :: (fieldL x.op).map (fieldW x)
theorem dig_sp (n : Int) : ∀ c ∈ dig n, c ≠ 32 := dig_no n 32 (by decide)
theorem words_pr (x : Ins) (hk : okP x = true) : wordsP (prP x) = wordsOf x := by
  obtain ⟨op, a, b, n⟩ := x
  have h17 : 1 ≤ op ∧ op ≤ 7 := by simp [okP] at hk; omega
  unfold wordsP wfold
  rcases seven h17.1 h17.2 with rfl | rfl | rfl | rfl | rfl | rfl | rfl
  · have e : prP ⟨1, a, b, n⟩ = [115, 101, 116] ++ 32 :: ((114 :: dig a) ++ 32 :: dig n) := by simp [prP, shape, regP, numP]
    rw [e, wf_sp _ _ _ (by decide), wf_sp _ _ _ (reg_no a), wf_last _ _ (dig_sp n)]; rfl
  · have e : prP ⟨2, a, b, n⟩ = [97, 100, 100] ++ 32 :: ((114 :: dig a) ++ 32 :: (114 :: dig b)) := by simp [prP, shape, regP, numP]
    rw [e, wf_sp _ _ _ (by decide), wf_sp _ _ _ (reg_no a), wf_last _ _ (reg_no b)]; rfl
  · have e : prP ⟨3, a, b, n⟩ = [108, 111, 97, 100] ++ 32 :: ((114 :: dig a) ++ 32 :: ((114 :: dig b) ++ 32 :: dig n)) := by simp [prP, shape, regP, numP]
    rw [e, wf_sp _ _ _ (by decide), wf_sp _ _ _ (reg_no a), wf_sp _ _ _ (reg_no b), wf_last _ _ (dig_sp n)]; rfl
  · have e : prP ⟨4, a, b, n⟩ = [115, 116, 111, 114, 101] ++ 32 :: ((114 :: dig a) ++ 32 :: ((114 :: dig b) ++ 32 :: dig n)) := by simp [prP, shape, regP, numP]
    rw [e, wf_sp _ _ _ (by decide), wf_sp _ _ _ (reg_no a), wf_sp _ _ _ (reg_no b), wf_last _ _ (dig_sp n)]; rfl
  · have e : prP ⟨5, a, b, n⟩ = [99, 108, 101, 97, 114] ++ 32 :: ((114 :: dig b) ++ 32 :: dig n) := by simp [prP, shape, regP, numP]
    rw [e, wf_sp _ _ _ (by decide), wf_sp _ _ _ (reg_no b), wf_last _ _ (dig_sp n)]; rfl
  · have e : prP ⟨6, a, b, n⟩ = [106, 117, 109, 112] ++ 32 :: ((114 :: dig a) ++ 32 :: dig n) := by simp [prP, shape, regP, numP]
    rw [e, wf_sp _ _ _ (by decide), wf_sp _ _ _ (reg_no a), wf_last _ _ (dig_sp n)]; rfl
  · have hb : a = 0 ∧ b = 0 ∧ 1 ≤ n ∧ n ≤ 9 := by simp [okP, shape, fitP] at hk; omega
    obtain ⟨rfl, rfl, h1, h9⟩ := hb
    rcases (by omega : n = 1 ∨ n = 2 ∨ n = 3 ∨ n = 4 ∨ n = 5 ∨ n = 6 ∨ n = 7 ∨ n = 8 ∨ n = 9) with rfl | rfl | rfl | rfl | rfl | rfl | rfl | rfl | rfl <;> decide

end Go.Proofs.YtpnegpcnmmaclaaDoor
