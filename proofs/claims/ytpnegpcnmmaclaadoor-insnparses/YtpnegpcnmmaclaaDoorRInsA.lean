/-
  The document's own answers on texts: Number.
-/
import Derived.Test.YtpnegpcnmmaclaaDoorInsnO
import Derived.Test.YtpnegpcnmmaclaaDoorInsnUn
import Derived.Deep.CutBlock
import Derived.Deep.DeepCutAuto
namespace Go.Proofs.YtpnegpcnmmaclaaDoor
open Go.ChangeShapes Go.WideShapes Go.ChangeAt Go.RowKit

/-- The number that digits say. -/
def valD (l : List UInt8) : Nat := l.foldl (fun a c => a * 10 + (c.toNat - 48)) 0
theorem valD_snoc (l : List UInt8) (c : UInt8) : valD (l ++ [c]) = valD l * 10 + (c.toNat - 48) := by simp [valD]
theorem valD_digF : ∀ (f n : Nat), n < 10 ^ (f + 1) → valD (digF f n) = n
  | 0, n, h => by
    have h' : n < 10 := by simpa using h
    have := ofNat_toNat n h'
    simp only [digF, Nat.mod_eq_of_lt h', valD, List.foldl_cons, List.foldl_nil, this]; omega
  | f + 1, n, h => by
    unfold digF
    split
    · rename_i h'
      have := ofNat_toNat n h'
      simp only [valD, List.foldl_cons, List.foldl_nil, this]; omega
    · have ih := valD_digF f (n / 10) (by rw [Nat.pow_succ] at h; omega)
      have := ofNat_toNat (n % 10) (Nat.mod_lt _ (by decide))
      rw [valD_snoc, ih, this]; omega
theorem valD_dig (n : Int) (h0 : 0 ≤ n) (h1 : n ≤ 65535) : (valD (dig n) : Int) = n := by
  have := valD_digF 20 n.toNat (Nat.lt_of_le_of_lt (by omega : n.toNat ≤ 65535) (by decide))
  unfold dig; rw [this]; omega
theorem digF_few : ∀ (f j n : Nat), j ≤ f → n < 10 ^ (j + 1) → (digF f n).length ≤ j + 1
  | 0, j, n, _, _ => by simp [digF]
  | f + 1, j, n, hj, h => by
    unfold digF
    split
    · simp
    · cases j with
      | zero => simp at h; omega
      | succ j =>
        have := digF_few f j (n / 10) (by omega) (by rw [Nat.pow_succ] at h; omega)
        simp; omega
theorem dig_few (n : Int) (h1 : n ≤ 65535) : (dig n).length ≤ 5 := digF_few 20 4 n.toNat (by omega) (Nat.lt_of_le_of_lt (by omega : n.toNat ≤ 65535) (by decide))
/-- No digit 0 ahead. -/
theorem digF_head : ∀ (f n : Nat), n < 10 ^ (f + 1) → (digF f n).head? = some 48 → (digF f n).length = 1
  | 0, n, _, _ => by simp [digF]
  | f + 1, n, h, hh => by
    unfold digF at hh ⊢
    split at hh
    · simp [*]
    · rename_i hn
      rw [if_neg hn]
      exfalso
      have hne := digF_ne f (n / 10)
      have hh : (digF f (n / 10)).head? = some 48 := by
        match hd : digF f (n / 10), hne with
        | c :: r, _ => rw [hd] at hh; simpa using hh
      have hl := digF_head f (n / 10) (by rw [Nat.pow_succ] at h; omega) hh
      have hv := valD_digF f (n / 10) (by rw [Nat.pow_succ] at h; omega)
      match hd : digF f (n / 10), hh, hl with
      | [c], hh, _ =>
        simp at hh; subst hh
        rw [hd] at hv
        simp [valD] at hv
        omega
/-- What Number answers. -/
def numR (v : List UInt8) : Int × Bool :=
  if v.length < 1 ∨ v.length > 9 ∨ (v.head? = some 48 ∧ v.length > 1) ∨ ¬ (∀ c ∈ v, isDig c = true) then (0, false) else (valD v, true)
theorem numR_dig (n : Int) (h0 : 0 ≤ n) (h1 : n ≤ 65535) : numR (dig n) = (n, true) := by
  have hl := dig_few n h1
  have hp := List.length_pos_iff.2 (digF_ne 20 n.toNat)
  have hh := digF_head 20 n.toNat (Nat.lt_of_le_of_lt (by omega : n.toNat ≤ 65535) (by decide))
  unfold numR
  rw [if_neg, valD_dig n h0 h1]
  intro h
  rcases h with h | h | ⟨h, h'⟩ | h
  · unfold dig at h; omega
  · omega
  · unfold dig at h h'; have := hh h; omega
  · exact h (dig_dig n)

theorem valD_lt : ∀ (k : Nat) (l : List UInt8), (∀ c ∈ l, isDig c = true) → l.length = k → valD l < 10 ^ k
  | 0, l, _, h => by rw [List.length_eq_zero_iff.1 h]; simp [valD]
  | k + 1, l, hd, h => by
    have h0 : l ≠ [] := fun e => by rw [e] at h; simp at h
    have e := List.dropLast_concat_getLast h0
    have hc := hd (l.getLast h0) (List.getLast_mem h0)
    simp only [isDig, Bool.and_eq_true, decide_eq_true_eq] at hc
    have ih := valD_lt k l.dropLast (fun c hc => hd c (List.dropLast_subset _ hc)) (by simp; omega)
    rw [← e, valD_snoc, Nat.pow_succ]; omega
theorem take_snoc8 {l : List UInt8} {k : Nat} {c : UInt8} (h : l[k]? = some c) : l.take (k + 1) = l.take k ++ [c] := by
  rw [List.take_add_one, h]; rfl

set_option maxHeartbeats 1000000 in
theorem number_r (v : List UInt8) (hv : v.length ≤ 1000000) (w : World) :
    Calls Tryd.prog 25 #[.string ⟨v.toArray⟩] w fun e w' => e = .returned (.tuple #[.int .i64 (numR v).1, .bool (numR v).2]) ∧ w = w' := by
  have hz := size_mk v
  obtain ⟨r, hr⟩ : ∃ r, Hid (numR v = r) := ⟨_, rfl⟩
  rw [hr.out]
  by_cases h1 : v.length < 1
  · have e : r = (0, false) := by rw [← hr.out]; unfold numR; rw [if_pos (Or.inl h1)]
    subst e
    have h1' : (v.length : Int) < 1 := by omega
    go_enter Tryd.func25, Tryd.ntmps25
    go_wp2
    go_ret2
    exact ⟨rfl, rfl⟩
  · by_cases h9 : v.length > 9
    · have e : r = (0, false) := by rw [← hr.out]; unfold numR; rw [if_pos (Or.inr (Or.inl h9))]
      subst e
      have h1' : ¬ ((v.length : Int) < 1) := by omega
      have h9' : 9 < (v.length : Int) := by omega
      go_enter Tryd.func25, Tryd.ntmps25
      go_wp2
      go_ret2
      exact ⟨rfl, rfl⟩
    · obtain ⟨c0, hc0⟩ : ∃ c, v[0]? = some c := ⟨_, List.getElem?_eq_getElem (by omega)⟩
      have e0 := byte_at v 0 c0 hc0
      have h1' : ¬ ((v.length : Int) < 1) := by omega
      have h9' : ¬ (9 < (v.length : Int)) := by omega
      have hp : 0 < v.length := by omega
      have hhd : v.head? = some c0 := by rw [List.head?_eq_getElem?]; exact hc0
      by_cases hlead : c0 = 48 ∧ v.length > 1
      · have e : r = (0, false) := by rw [← hr.out]; unfold numR; rw [if_pos (Or.inr (Or.inr (Or.inl ⟨by rw [hhd, hlead.1], hlead.2⟩)))]
        subst e
        have b1 : ((c0.toNat : Int) == 48) = true := by rw [hlead.1]; rfl
        have b2 : 1 < (v.length : Int) := by omega
        go_enter Tryd.func25, Tryd.ntmps25
        go_wp2
        go_ret2
        exact ⟨rfl, rfl⟩
      · have hb : ((c0.toNat : Int) == 48) = false ∨ (((c0.toNat : Int) == 48) = true ∧ ¬ (1 < (v.length : Int))) := by
          cases h : ((c0.toNat : Int) == 48)
          · exact Or.inl rfl
          · refine Or.inr ⟨rfl, fun h' => hlead ⟨?_, by omega⟩⟩
            have : (c0.toNat : Int) = 48 := by simpa using h
            exact UInt8.toNat_inj.1 (by show c0.toNat = 48; omega)
        have hb' := hb
        go_enter Tryd.func25, Tryd.ntmps25
        go_upto_region 1 with fail
        go_cut [23] (fun v' wx => v' = .bool false ∧ Hid (w = wx))
        case first =>
          clear hb'
          rcases hb with h | ⟨h, h'⟩
          · go_wp2_with fail
            go_meet
            exact ⟨rfl, rfl⟩
          · go_wp2_with fail
            go_meet
            exact ⟨rfl, rfl⟩
        case rest =>
        obtain ⟨rfl, hw⟩ := hcut
        have hw' := hw.out
        subst hw'
        clear hb hb' e0
        go_wp2_with fail
        have hlead' : Hid (¬ (v.head? = some 48 ∧ v.length > 1)) := fun h => hlead ⟨by rw [hhd] at h; simpa using h.1, h.2⟩
        clear hlead hhd hc0 hw
        go_loopg [4, 5] v.length (fun g nv iv wr => ∃ k : Nat, g + k = v.length ∧ iv = .int .i64 k ∧ nv = .int .i64 (valD (v.take k)) ∧ Hid (∀ c ∈ v.take k, isDig c = true) ∧ w = wr)
        case atStart => exact ⟨0, by omega, rfl, by simp [valD], fun c hc => by simp at hc, rfl⟩
        case round =>
          obtain ⟨k, hg, rfl, rfl, hd, rfl⟩ := hrel
          by_cases hk : k < v.length
          · obtain ⟨c, hc⟩ : ∃ c, v[k]? = some c := ⟨_, List.getElem?_eq_getElem hk⟩
            have ek := byte_at v k c hc
            have hk' : (k : Int) < (v.length : Int) := by omega
            have hlt : valD (v.take k) < 1000000000 := by
              have := valD_lt k (v.take k) hd.out (by simp; omega)
              exact Nat.lt_of_lt_of_le this (Nat.le_trans (Nat.pow_le_pow_right (by decide) (by omega : k ≤ 9)) (by decide))
            have hsn : Hid (valD (v.take (k + 1)) = valD (v.take k) * 10 + (c.toNat - 48)) := by show _ = _; rw [take_snoc8 hc, valD_snoc]
            have hmem := List.mem_of_getElem? hc
            have hdn : Hid (isDig c = true → ∀ d ∈ v.take (k + 1), isDig d = true) := fun hcd d hdm => by
              rw [take_snoc8 hc] at hdm
              rcases List.mem_append.1 hdm with h | h
              · exact hd.out d h
              · simp at h; subst h; exact hcd
            generalize valD (v.take k) = nk at *
            clear hc
            by_cases hdig : isDig c = true
            · have h2 := hdig
              simp only [isDig, Bool.and_eq_true, decide_eq_true_eq] at h2
              have l0 : ¬ ((c.toNat : Int) < 48) := by omega
              have l1 : ¬ (57 < (c.toNat : Int)) := by omega
              have h20 := h2.1
              have h21 := h2.2
              clear h2
              go_wp2
              go_roundg (v.length - (k + 1))
              case measure => omega
              case rel => exact ⟨k + 1, by omega, by go_num, by rw [hsn.out]; refine congrArg (Value.int .i64) ?_; omega, hdn.out hdig, rfl⟩
            · have e : r = (0, false) := by rw [← hr.out]; unfold numR; rw [if_pos (Or.inr (Or.inr (Or.inr (fun h => hdig (h c hmem)))))]
              subst e
              have h2 : (c.toNat : Int) < 48 ∨ (¬ ((c.toNat : Int) < 48) ∧ 57 < (c.toNat : Int)) := by
                simp only [isDig, Bool.and_eq_true, decide_eq_true_eq] at hdig
                omega
              rcases h2 with h2 | ⟨h2, h3⟩
              all_goals
                go_wp2
                go_ret2
                exact ⟨rfl, rfl⟩
          · have hkl : k = v.length := by omega
            have hk' : ¬ ((k : Int) < (v.length : Int)) := by omega
            have e : r = ((valD (v.take k) : Int), true) := by
              rw [← hr.out, hkl, List.take_length]; unfold numR
              rw [if_neg]
              intro h
              rcases h with h | h | h | h
              · omega
              · omega
              · exact hlead'.out h
              · rw [hkl, List.take_length] at hd; exact h hd.out
            subst e
            go_wp2
            go_ret2
            exact ⟨rfl, rfl⟩
end Go.Proofs.YtpnegpcnmmaclaaDoor
