/-
  Plain facts on codes.
-/
import Derived.Test.YtpnegpcnmmaclaaDoorInsnKb
import Derived.Test.YtpnegpcnmmaclaaDoorInsnN
import Derived.Deep.Upon
namespace Go.Proofs.YtpnegpcnmmaclaaDoor
open Go.ChangeShapes Go.WideShapes Go.ChangeAt Go.RowKit

/-- A code's text. -/
def codeT (l : List Ins) : List UInt8 := l.flatMap fun x => prP x ++ [10]
theorem pr_no10 (x : Ins) (hk : okP x = true) : ∀ c ∈ prP x, c ≠ 10 := fun c hc e => by
  obtain ⟨k, hk', hk2⟩ := List.getElem_of_mem hc
  have := (tidy_at true _ (tidy_pr x hk) k c (by rw [List.getElem?_eq_getElem hk', hk2])).1
  subst e; revert this; decide
theorem codeT_cons (x : Ins) (l : List Ins) (r : List UInt8) : codeT (x :: l) ++ r = prP x ++ 10 :: (codeT l ++ r) := by simp [codeT]
theorem codeF_run : ∀ (l : List Ins) (_ : ∀ x ∈ l, okP x = true) (j line : Nat) (r : List UInt8) (acc : List Ins), codeF (l.length + j) line (codeT l ++ r) acc = codeF j (line + l.length) r (acc ++ l)
  | [], _, j, line, r, acc => by simp [codeT]
  | x :: l, h, j, line, r, acc => by
    have hx := h x (List.mem_cons_self ..)
    have hc := cutc_word 10 (prP x) (codeT l ++ r) (pr_no10 x hx)
    rw [codeT_cons, show (x :: l).length + j = (l.length + j) + 1 by simp; omega, codeF]
    rw [if_neg (by intro h; have := h.1; simp at this), hc]
    simp only [if_true, parse_pr x hx]
    rw [codeF_run l (fun y hy => h y (List.mem_cons_of_mem _ hy)) j (line + 1) r (acc ++ [x])]
    simp only [List.length_cons, List.append_assoc, List.cons_append, List.nil_append]
    rw [show line + 1 + l.length = line + (l.length + 1) by omega]
theorem codeF_end (j line : Nat) (acc : List Ins) (h : 1 < line) : codeF j line [] acc = (acc, 0) := by
  cases j with
  | zero => simp [codeF]; omega
  | succ j => simp [codeF]; omega
theorem codeP_ok (l : List Ins) (h : ∀ x ∈ l, okP x = true) (h0 : l ≠ []) (h24 : l.length ≤ 24) : codeP (codeT l) = (l, 0) := by
  have := codeF_run l h (24 - l.length) 1 [] []
  have hp := List.length_pos_iff.2 h0
  rw [show l.length + (24 - l.length) = 24 by omega, List.append_nil, codeF_end _ _ _ (by omega)] at this
  exact this
theorem codeF_bad (j line : Nat) (r s rest : List UInt8) (acc : List Ins) (h0 : r ≠ []) (hc : cutc 10 r = (s, rest, true)) (hp : parseP s = none) : codeF j line r acc = ([], line) := by
  cases j with
  | zero => simp [codeF, h0]
  | succ j => rw [codeF, if_neg (by simp [h0]), hc]; simp [hp]
theorem codeP_more (l : List Ins) (h : ∀ x ∈ l, okP x = true) (h24 : l.length ≤ 24) : codeP (codeT l ++ [119, 104, 97, 116, 10]) = ([], l.length + 1) := by
  have := codeF_run l h (24 - l.length) 1 [119, 104, 97, 116, 10] []
  rw [show l.length + (24 - l.length) = 24 by omega] at this
  rw [codeP, this, Nat.add_comm 1]
  exact codeF_bad _ _ _ [119, 104, 97, 116] [] _ (by decide) (by decide) (by decide +kernel)
theorem codeF_cut (j line : Nat) (r : List UInt8) (acc : List Ins) (h0 : r ≠ []) (hc : (cutc 10 r).2.2 = false) : codeF j line r acc = ([], line) := by
  cases j with
  | zero => simp [codeF, h0]
  | succ j => rw [codeF, if_neg (by simp [h0]), hc]; simp
theorem codeT_snoc (l : List Ins) (x : Ins) : codeT (l ++ [x]) = codeT l ++ (prP x ++ [10]) := by simp [codeT]
theorem codeP_less (l : List Ins) (h : ∀ x ∈ l, okP x = true) (h0 : l ≠ []) (h24 : l.length ≤ 24) : codeP ((codeT l).take ((codeT l).length - 1)) = ([], l.length) := by
  obtain ⟨m, x, rfl⟩ : ∃ m x, l = m ++ [x] := ⟨l.dropLast, l.getLast h0, (List.dropLast_concat_getLast h0).symm⟩
  have hx := h x (by simp)
  have e : (codeT (m ++ [x])).take ((codeT (m ++ [x])).length - 1) = codeT m ++ prP x := by
    rw [codeT_snoc, ← List.append_assoc, ← List.dropLast_eq_take, List.dropLast_concat]
  have hl : (m ++ [x]).length = m.length + 1 := by simp
  have hne : prP x ≠ [] := fun e => by have := tidy_pr x hx; rw [e] at this; cases this
  have := codeF_run m (fun y hy => h y (by simp [hy])) (24 - m.length) 1 (prP x) []
  rw [show m.length + (24 - m.length) = 24 by omega] at this
  rw [e, codeP, this, hl, Nat.add_comm 1]
  exact codeF_cut _ _ _ _ hne (by rw [cutc_none 10 _ (pr_no10 x hx)])
theorem codeP_front (r : List UInt8) : codeP ([115, 101, 116, 32, 114, 48, 32, 49, 10, 97, 100, 100, 32, 114, 49, 10] ++ r) = ([], 2) := by
  have h1 := cutc_word 10 [115, 101, 116, 32, 114, 48, 32, 49] ([97, 100, 100, 32, 114, 49, 10] ++ r) (by decide)
  have h2 := cutc_word 10 [97, 100, 100, 32, 114, 49] r (by decide)
  have p1 : parseP [115, 101, 116, 32, 114, 48, 32, 49] = some ⟨1, 0, 0, 1⟩ := by decide +kernel
  have p2 : parseP [97, 100, 100, 32, 114, 49] = none := by decide +kernel
  have e : [115, 101, 116, 32, 114, 48, 32, 49, 10, 97, 100, 100, 32, 114, 49, 10] ++ r = [115, 101, 116, 32, 114, 48, 32, 49] ++ 10 :: ([97, 100, 100, 32, 114, 49, 10] ++ r) := by simp
  have e2 : [97, 100, 100, 32, 114, 49, 10] ++ r = [97, 100, 100, 32, 114, 49] ++ 10 :: r := by simp
  rw [codeP, e, show (24 : Nat) = 23 + 1 from rfl, codeF, if_neg (by simp), h1]
  simp only [if_true, p1]
  rw [e2]
  exact codeF_bad _ _ _ _ _ _ (by simp) h2 p2
theorem codeP_nil : codeP [] = ([], 1) := by decide +kernel

end Go.Proofs.YtpnegpcnmmaclaaDoor
