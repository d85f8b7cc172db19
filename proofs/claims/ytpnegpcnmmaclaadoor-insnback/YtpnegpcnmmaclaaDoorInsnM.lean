/-
  Plain facts on texts of instructions: a text is guessed as it was; so parseP answers just the instruction whose text it is.
-/
import Derived.Test.YtpnegpcnmmaclaaDoorInsnS
namespace Go.Proofs.YtpnegpcnmmaclaaDoor

/-- A digit. -/
def isDig (c : UInt8) : Bool := decide (48 ≤ c.toNat) && decide (c.toNat ≤ 57)
theorem ofNat_toNat (k : Nat) (h : k < 10) : (UInt8.ofNat (48 + k)).toNat = 48 + k := by
  rw [UInt8.toNat_ofNat']; omega
theorem digF_dig : ∀ (f n : Nat), ∀ c ∈ digF f n, isDig c = true
  | 0, n, c, h => by
    simp only [digF, List.mem_singleton] at h; subst h
    simp [isDig]; omega
  | f + 1, n, c, h => by
    unfold digF at h
    split at h
    · simp only [List.mem_singleton] at h; subst h
      rename_i hn
      simp [isDig]; omega
    · rcases List.mem_append.1 h with h | h
      · exact digF_dig f _ c h
      · simp only [List.mem_singleton] at h; subst h
        simp [isDig]; omega
theorem dig_dig (n : Int) : ∀ c ∈ dig n, isDig c = true := digF_dig 20 n.toNat
theorem digF_ne (f n : Nat) : digF f n ≠ [] := by
  cases f with
  | zero => simp [digF]
  | succ f => unfold digF; split <;> simp

/-- Digits are read back. -/
theorem parse_snoc : ∀ (l : List UInt8) (acc u : Nat) (d : Nat), d < 10 → Lib.parseUint10 acc l = .ok u → u < 1000000 → Lib.parseUint10 acc (l ++ [UInt8.ofNat (48 + d)]) = .ok (u * 10 + d)
  | [], acc, u, d, hd, h, hu => by
    simp only [Lib.parseUint10] at h
    injection h with h
    subst h
    have := ofNat_toNat d hd
    simp only [List.nil_append, Lib.parseUint10, this]
    rw [if_pos (by omega), if_neg (by omega), if_neg (by omega)]
    congr 1; omega
  | c :: r, acc, u, d, hd, h, hu => by
    simp only [List.cons_append, Lib.parseUint10] at h ⊢
    split at h
    · rename_i hc
      rw [if_pos hc]
      split at h
      · cases h
      · rename_i h1
        rw [if_neg h1]
        split at h
        · cases h
        · rename_i h2
          rw [if_neg h2]
          exact parse_snoc r _ u d hd h hu
    · cases h
theorem parse_digF : ∀ (f n : Nat), n < 10 ^ (f + 1) → n < 1000000 → Lib.parseUint10 0 (digF f n) = .ok n
  | 0, n, h, hn => by
    have h' : n < 10 := by simpa using h
    have := parse_snoc [] 0 0 n h' rfl (by omega)
    rw [digF, Nat.mod_eq_of_lt h']; simpa using this
  | f + 1, n, h, hn => by
    unfold digF
    split
    · rename_i h'
      have := parse_snoc [] 0 0 n h' rfl (by omega)
      simpa using this
    · have ih := parse_digF f (n / 10) (by rw [Nat.pow_succ] at h; omega) (by omega)
      have := parse_snoc _ 0 _ (n % 10) (Nat.mod_lt _ (by decide)) ih (by omega)
      rw [this]; congr 1; omega

theorem atoi_plain (c : UInt8) (r : List UInt8) (u : Nat) (hc : 48 ≤ c.toNat ∧ c.toNat ≤ 57) (hp : Lib.parseUint10 0 (c :: r) = .ok u) (hu : u < 1000000) : Lib.atoiAll (c :: r) = .ok (u : Int) := by
  have e1 : ¬ (c.toNat = 43 ∨ c.toNat = 45) := by omega
  have hm : Lib.parseMag (if c.toNat = 43 ∨ c.toNat = 45 then r else c :: r) = .ok u := by
    rw [if_neg e1]; unfold Lib.parseMag; rw [if_neg (by simp)]; exact hp
  unfold Lib.atoiAll
  simp only [hm]
  rw [if_neg (by omega), if_neg (by omega), if_neg (by omega)]
theorem numb_dig (n : Int) (h0 : 0 ≤ n) (h1 : n ≤ 65535) : numb (dig n) = n := by
  have hp : Lib.parseUint10 0 (dig n) = .ok n.toNat := parse_digF 20 n.toNat (Nat.lt_of_le_of_lt (by omega : n.toNat ≤ 65535) (by decide)) (by omega)
  have hd := dig_dig n
  have hne : dig n ≠ [] := digF_ne 20 _
  unfold numb
  generalize dig n = l at hp hd hne
  match l, hne with
  | c :: r, _ =>
    have hc := hd c (List.mem_cons_self ..)
    simp only [isDig, Bool.and_eq_true, decide_eq_true_eq] at hc
    rw [atoi_plain c r _ hc hp (by omega)]
    show (n.toNat : Int) = n
    omega

/-- Cut behind a word without the sign. -/
theorem cutc_word (c : UInt8) : ∀ (a r : List UInt8), (∀ x ∈ a, x ≠ c) → cutc c (a ++ c :: r) = (a, r, true)
  | [], r, _ => by simp [cutc]
  | x :: a, r, h => by
    have hx := h x (List.mem_cons_self ..)
    have ih := cutc_word c a r (fun y hy => h y (List.mem_cons_of_mem _ hy))
    simp only [List.cons_append, cutc]
    rw [if_neg hx, ih]
theorem cutc_none (c : UInt8) : ∀ (a : List UInt8), (∀ x ∈ a, x ≠ c) → cutc c a = (a, [], false)
  | [], _ => by simp [cutc]
  | x :: a, h => by
    have hx := h x (List.mem_cons_self ..)
    have ih := cutc_none c a (fun y hy => h y (List.mem_cons_of_mem _ hy))
    simp only [cutc]
    rw [if_neg hx, ih]
theorem dig_no (n : Int) (c : UInt8) (hc : isDig c = false) : ∀ x ∈ dig n, x ≠ c := fun x hx e => by
  have := dig_dig n x hx; rw [e, hc] at this; cases this
theorem reg_no (n : Int) : ∀ x ∈ (114 :: dig n), x ≠ 32 := fun x hx => by
  rcases List.mem_cons.1 hx with rfl | h
  · decide
  · exact dig_no n 32 (by decide) x h
theorem reg_word (n : Int) (r : List UInt8) : cutc 32 (114 :: (dig n ++ 32 :: r)) = (114 :: dig n, r, true) := cutc_word 32 (114 :: dig n) r (reg_no n)
theorem reg_last (n : Int) : cutc 32 (114 :: dig n) = (114 :: dig n, [], false) := cutc_none 32 _ (reg_no n)
theorem name_word : ∀ op : Int, 1 ≤ op → op ≤ 7 → ∀ x ∈ (shape op).name, x ≠ 32 := fun op h1 h7 => by
  rcases (by omega : op = 1 ∨ op = 2 ∨ op = 3 ∨ op = 4 ∨ op = 5 ∨ op = 6 ∨ op = 7) with rfl | rfl | rfl | rfl | rfl | rfl | rfl <;> decide

theorem guess_pr (x : Ins) (hk : okP x = true) : guessP (prP x) = x := by
  obtain ⟨op, a, b, n⟩ := x
  have h17 : 1 ≤ op ∧ op ≤ 7 := by simp [okP] at hk; omega
  rcases (by omega : op = 1 ∨ op = 2 ∨ op = 3 ∨ op = 4 ∨ op = 5 ∨ op = 6 ∨ op = 7) with rfl | rfl | rfl | rfl | rfl | rfl | rfl
  · have hb : 0 ≤ a ∧ a ≤ 65535 ∧ b = 0 ∧ 0 ≤ n ∧ n ≤ 65535 := by simp [okP, shape, fitP] at hk; omega
    have e : prP ⟨1, a, b, n⟩ = [115, 101, 116] ++ 32 :: (114 :: (dig a ++ 32 :: dig n)) := by simp [prP, shape, regP, numP]
    have hn : opN [115, 101, 116] = 1 := by decide
    rw [e, guessP]
    simp only [restOf, cutc_word 32 [115, 101, 116] _ (by decide), hn]
    simp [shape, regOf, reg_word, trimR, numb_dig a hb.1 hb.2.1, numb_dig n hb.2.2.2.1 hb.2.2.2.2, hb.2.2.1]
  · have hb : (0 ≤ a ∧ a ≤ 65535) ∧ (0 ≤ b ∧ b ≤ 65535) ∧ (n = 0) := by simp [okP, shape, fitP] at hk; omega
    have e : prP ⟨2, a, b, n⟩ = [97, 100, 100] ++ 32 :: (114 :: (dig a ++ 32 :: (114 :: dig b))) := by simp [prP, shape, regP, numP]
    have hn : opN [97, 100, 100] = 2 := by decide
    rw [e, guessP]
    simp only [restOf, cutc_word 32 [97, 100, 100] _ (by decide), hn]
    simp [shape, regOf, reg_word, reg_last, trimR, numb_dig a (by omega) (by omega), numb_dig b (by omega) (by omega)]
    try omega
  · have hb : (0 ≤ a ∧ a ≤ 65535) ∧ (0 ≤ b ∧ b ≤ 65535) ∧ (0 ≤ n ∧ n ≤ 65535) := by simp [okP, shape, fitP] at hk; omega
    have e : prP ⟨3, a, b, n⟩ = [108, 111, 97, 100] ++ 32 :: (114 :: (dig a ++ 32 :: (114 :: (dig b ++ 32 :: dig n)))) := by simp [prP, shape, regP, numP]
    have hn : opN [108, 111, 97, 100] = 3 := by decide
    rw [e, guessP]
    simp only [restOf, cutc_word 32 [108, 111, 97, 100] _ (by decide), hn]
    simp [shape, regOf, reg_word, trimR, numb_dig a (by omega) (by omega), numb_dig b (by omega) (by omega), numb_dig n (by omega) (by omega)]
  · have hb : (0 ≤ a ∧ a ≤ 65535) ∧ (0 ≤ b ∧ b ≤ 65535) ∧ (0 ≤ n ∧ n ≤ 65535) := by simp [okP, shape, fitP] at hk; omega
    have e : prP ⟨4, a, b, n⟩ = [115, 116, 111, 114, 101] ++ 32 :: (114 :: (dig a ++ 32 :: (114 :: (dig b ++ 32 :: dig n)))) := by simp [prP, shape, regP, numP]
    have hn : opN [115, 116, 111, 114, 101] = 4 := by decide
    rw [e, guessP]
    simp only [restOf, cutc_word 32 [115, 116, 111, 114, 101] _ (by decide), hn]
    simp [shape, regOf, reg_word, trimR, numb_dig a (by omega) (by omega), numb_dig b (by omega) (by omega), numb_dig n (by omega) (by omega)]
  · have hb : (a = 0) ∧ (0 ≤ b ∧ b ≤ 65535) ∧ (0 ≤ n ∧ n ≤ 65535) := by simp [okP, shape, fitP] at hk; omega
    have e : prP ⟨5, a, b, n⟩ = [99, 108, 101, 97, 114] ++ 32 :: (114 :: (dig b ++ 32 :: dig n)) := by simp [prP, shape, regP, numP]
    have hn : opN [99, 108, 101, 97, 114] = 5 := by decide
    rw [e, guessP]
    simp only [restOf, cutc_word 32 [99, 108, 101, 97, 114] _ (by decide), hn]
    simp [shape, regOf, reg_word, trimR, numb_dig b (by omega) (by omega), numb_dig n (by omega) (by omega)]
    try omega
  · have hb : (0 ≤ a ∧ a ≤ 65535) ∧ (b = 0) ∧ (0 ≤ n ∧ n ≤ 65535) := by simp [okP, shape, fitP] at hk; omega
    have e : prP ⟨6, a, b, n⟩ = [106, 117, 109, 112] ++ 32 :: (114 :: (dig a ++ 32 :: dig n)) := by simp [prP, shape, regP, numP]
    have hn : opN [106, 117, 109, 112] = 6 := by decide
    rw [e, guessP]
    simp only [restOf, cutc_word 32 [106, 117, 109, 112] _ (by decide), hn]
    simp [shape, regOf, reg_word, trimR, numb_dig a (by omega) (by omega), numb_dig n (by omega) (by omega)]
    try omega
  · have hb : a = 0 ∧ b = 0 ∧ 1 ≤ n ∧ n ≤ 9 := by simp [okP, shape, fitP] at hk; omega
    obtain ⟨rfl, rfl, h1, h9⟩ := hb
    rcases (by omega : n = 1 ∨ n = 2 ∨ n = 3 ∨ n = 4 ∨ n = 5 ∨ n = 6 ∨ n = 7 ∨ n = 8 ∨ n = 9) with rfl | rfl | rfl | rfl | rfl | rfl | rfl | rfl | rfl <;> decide

/-- WHAT A TEXT IS: the instruction whose text it is, if there is one. -/
theorem parse_iff (s : List UInt8) (x : Ins) : parseP s = some x ↔ okP x = true ∧ prP x = s := by
  constructor
  · intro h
    unfold parseP at h
    split at h
    · rename_i hc
      injection h with h
      subst h
      simpa using hc
    · cases h
  · rintro ⟨hk, rfl⟩
    unfold parseP
    rw [guess_pr x hk, hk]; simp
theorem parse_pr (x : Ins) (hk : okP x = true) : parseP (prP x) = some x := (parse_iff _ _).2 ⟨hk, rfl⟩
theorem pr_inj (x y : Ins) (hx : okP x = true) (hy : okP y = true) (h : prP x = prP y) : x = y := by
  have h1 := parse_pr x hx
  rw [h, parse_pr y hy] at h1
  exact (Option.some.inj h1).symm
end Go.Proofs.YtpnegpcnmmaclaaDoor
