/-
  Plain facts on texts of instructions: words with one blank between, and no other signs.
-/
import Derived.Test.YtpnegpcnmmaclaaDoorInsnM
namespace Go.Proofs.YtpnegpcnmmaclaaDoor

/-- Words with one blank between; 'b': a blank, or nothing, stands ahead. -/
def tidy : Bool → List UInt8 → Bool
  | b, [] => !b
  | b, c :: r => if c = 32 then !b && tidy true r else decide (33 ≤ c.toNat) && decide (c.toNat ≤ 122) && tidy false r
/-- A sign of a word. -/
def sign (c : UInt8) : Bool := decide (33 ≤ c.toNat) && decide (c.toNat ≤ 122)
theorem sign_ne {c : UInt8} (h : sign c = true) : c ≠ 32 := fun e => by subst e; revert h; decide
theorem tidy_in : ∀ (l r : List UInt8), (∀ c ∈ l, sign c = true) → tidy false (l ++ r) = tidy false r
  | [], r, _ => rfl
  | c :: l, r, h => by
    have hc := h c (List.mem_cons_self ..)
    have e := hc
    simp only [sign, Bool.and_eq_true, decide_eq_true_eq] at e
    simp only [List.cons_append, tidy, if_neg (sign_ne hc), e, decide_true, Bool.true_and, Bool.and_true]
    exact tidy_in l r fun y hy => h y (List.mem_cons_of_mem _ hy)
theorem tidy_word (l r : List UInt8) (h : ∀ c ∈ l, sign c = true) (hne : l ≠ []) : tidy true (l ++ r) = tidy false r := by
  match l, hne with
  | c :: l, _ =>
    have hc := h c (List.mem_cons_self ..)
    have e := hc
    simp only [sign, Bool.and_eq_true, decide_eq_true_eq] at e
    simp only [List.cons_append, tidy, if_neg (sign_ne hc), e, decide_true, Bool.true_and, Bool.and_true]
    exact tidy_in l r fun y hy => h y (List.mem_cons_of_mem _ hy)
theorem dig_sign (n : Int) : ∀ c ∈ dig n, sign c = true := fun c hc => by
  have := dig_dig n c hc
  simp only [isDig, sign, Bool.and_eq_true, decide_eq_true_eq] at this ⊢
  omega
theorem tidy_dig (n : Int) (r : List UInt8) : tidy true (dig n ++ r) = tidy false r := tidy_word _ r (dig_sign n) (digF_ne 20 _)
theorem tidy_reg (n : Int) (r : List UInt8) : tidy true (114 :: (dig n ++ r)) = tidy false r := by
  have := tidy_in (dig n) r (dig_sign n)
  simpa [tidy] using this
theorem tidy_sp (r : List UInt8) : tidy false (32 :: r) = tidy true r := by simp [tidy]
theorem tidy_pr (x : Ins) (hk : okP x = true) : tidy true (prP x) = true := by
  obtain ⟨op, a, b, n⟩ := x
  have h17 : 1 ≤ op ∧ op ≤ 7 := by simp [okP] at hk; omega
  have td := fun m => tidy_dig m []
  have tr := fun m => tidy_reg m []
  simp only [List.append_nil] at td tr
  have z : tidy false [] = true := rfl
  rcases (by omega : op = 1 ∨ op = 2 ∨ op = 3 ∨ op = 4 ∨ op = 5 ∨ op = 6 ∨ op = 7) with rfl | rfl | rfl | rfl | rfl | rfl | rfl
  · have e : prP ⟨1, a, b, n⟩ = [115, 101, 116] ++ (32 :: (114 :: (dig a ++ 32 :: dig n))) := by simp [prP, shape, regP, numP]
    rw [e, tidy_word _ _ (by decide) (by decide), tidy_sp, tidy_reg, tidy_sp, td, z]
  · have e : prP ⟨2, a, b, n⟩ = [97, 100, 100] ++ (32 :: (114 :: (dig a ++ 32 :: (114 :: dig b)))) := by simp [prP, shape, regP, numP]
    rw [e, tidy_word _ _ (by decide) (by decide), tidy_sp, tidy_reg, tidy_sp, tr, z]
  · have e : prP ⟨3, a, b, n⟩ = [108, 111, 97, 100] ++ (32 :: (114 :: (dig a ++ 32 :: (114 :: (dig b ++ 32 :: dig n))))) := by simp [prP, shape, regP, numP]
    rw [e, tidy_word _ _ (by decide) (by decide), tidy_sp, tidy_reg, tidy_sp, tidy_reg, tidy_sp, td, z]
  · have e : prP ⟨4, a, b, n⟩ = [115, 116, 111, 114, 101] ++ (32 :: (114 :: (dig a ++ 32 :: (114 :: (dig b ++ 32 :: dig n))))) := by simp [prP, shape, regP, numP]
    rw [e, tidy_word _ _ (by decide) (by decide), tidy_sp, tidy_reg, tidy_sp, tidy_reg, tidy_sp, td, z]
  · have e : prP ⟨5, a, b, n⟩ = [99, 108, 101, 97, 114] ++ (32 :: (114 :: (dig b ++ 32 :: dig n))) := by simp [prP, shape, regP, numP]
    rw [e, tidy_word _ _ (by decide) (by decide), tidy_sp, tidy_reg, tidy_sp, td, z]
  · have e : prP ⟨6, a, b, n⟩ = [106, 117, 109, 112] ++ (32 :: (114 :: (dig a ++ 32 :: dig n))) := by simp [prP, shape, regP, numP]
    rw [e, tidy_word _ _ (by decide) (by decide), tidy_sp, tidy_reg, tidy_sp, td, z]
  · have hb : a = 0 ∧ b = 0 ∧ 1 ≤ n ∧ n ≤ 9 := by simp [okP, shape, fitP] at hk; omega
    obtain ⟨rfl, rfl, h1, h9⟩ := hb
    rcases (by omega : n = 1 ∨ n = 2 ∨ n = 3 ∨ n = 4 ∨ n = 5 ∨ n = 6 ∨ n = 7 ∨ n = 8 ∨ n = 9) with rfl | rfl | rfl | rfl | rfl | rfl | rfl | rfl | rfl <;> decide

/-- What that says place by place. -/
theorem tidy_at : ∀ (b : Bool) (l : List UInt8), tidy b l = true → ∀ (k : Nat) (c : UInt8), l[k]? = some c → 32 ≤ c.toNat ∧ c.toNat ≤ 122 ∧ (c = 32 → (k = 0 → b = false) ∧ k + 1 < l.length ∧ ∀ p, k = p + 1 → l[p]? ≠ some 32)
  | b, [], _, k, c, h => by simp at h
  | b, d :: r, ht, 0, c, h => by
    simp only [List.getElem?_cons_zero, Option.some.injEq] at h
    subst h
    unfold tidy at ht
    split at ht
    · rename_i hd
      simp only [Bool.and_eq_true, Bool.not_eq_true'] at ht
      refine ⟨by subst hd; decide, by subst hd; decide, fun _ => ⟨fun _ => ht.1, ?_, fun p hp => by omega⟩⟩
      match r, ht.2 with
      | [], h => simp [tidy] at h
      | _ :: _, _ => simp
    · rename_i hd
      simp only [Bool.and_eq_true, decide_eq_true_eq] at ht
      exact ⟨by omega, by omega, fun e => absurd e hd⟩
  | b, d :: r, ht, k + 1, c, h => by
    simp only [List.getElem?_cons_succ] at h
    unfold tidy at ht
    have key : ∃ b', tidy b' r = true ∧ (b' = false → d ≠ 32) := by
      split at ht
      · simp only [Bool.and_eq_true] at ht
        exact ⟨true, ht.2, fun h => by cases h⟩
      · rename_i hd
        simp only [Bool.and_eq_true] at ht
        exact ⟨false, ht.2, fun _ => hd⟩
    obtain ⟨b', h1, h2⟩ := key
    obtain ⟨e1, e2, e3⟩ := tidy_at b' r h1 k c h
    refine ⟨e1, e2, fun hc => ⟨fun h => by omega, by have := (e3 hc).2.1; simp; omega, fun p hp => ?_⟩⟩
    obtain rfl : p = k := by omega
    cases p with
    | zero => simp only [List.getElem?_cons_zero, ne_eq, Option.some.injEq]; exact h2 ((e3 hc).1 rfl)
    | succ q => simp only [List.getElem?_cons_succ]; exact (e3 hc).2.2 q rfl
end Go.Proofs.YtpnegpcnmmaclaaDoor
