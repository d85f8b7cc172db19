/-
  What insn asks of the library: Itoa; Atoi, and number; Cut at one byte; TrimPrefix.
-/
import Derived.Test.YtpnegpcnmmaclaaDoorInsnL
import Derived.Test.YtpnegpcnmmaclaaDoorKeep
import Derived.Sort.Grow
namespace Go.Proofs.YtpnegpcnmmaclaaDoor
open Go.ChangeShapes Go.WideShapes Go.ChangeAt Go.RowKit

theorem below_grow (w : World) (k : Nat) (os : Array Obj) : Below w.heap.size w (Sort.grow (w.drewN k) os) :=
  ⟨rfl, rfl, rfl, by simp [Sort.grow, World.drewN], fun i hi => by
    show (w.heap ++ os)[i]? = _
    rw [Array.getElem?_append_left hi]⟩
theorem below_drewN (w : World) (k : Nat) : Below w.heap.size w (w.drewN k) := ⟨rfl, rfl, rfl, Nat.le_refl _, fun _ _ => rfl⟩

theorem itoa_any (n : Int) (h0 : 0 ≤ n) (h1 : n ≤ 65535) (w : World) (hV : Vs w) :
    Calls Tryd.prog 28 #[.int .i64 n] w fun e w' => e = .returned (.string ⟨(dig n).toArray⟩) ∧ Below w.heap.size w w' := by
  refine (Tryd.strconv_Itoa n (by omega) (by omega) w hV.tab).mono ?_
  rintro e wx ⟨rfl, k, os, rfl⟩
  exact ⟨by rw [dig_itoa n h0 (by omega)], below_grow w k os⟩

theorem below_bytes (w : World) (e : TypeId) (t : ByteArray) : Below w.heap.size w (Lib.bytesWorld w e t) :=
  ⟨rfl, rfl, rfl, by rw [Lib.bytesWorld_size]; omega, fun k hk => Lib.bytesWorld_at_old w e t k hk⟩

theorem number_any (s : ByteArray) (hs : s.size ≤ 1000000) (w : World) (hV : Vs w) :
    Calls Tryd.prog 33 #[.string s] w fun e w' => e = .returned (.int .i64 (numb s.data.toList)) ∧ Below w.heap.size w w' := by
  obtain ⟨te, pe, hes⟩ := hV.es
  obtain ⟨te', pe', her⟩ := hV.er
  cases h : Lib.atoiAll s.data.toList with
  | ok v =>
    have e : numb s.data.toList = v := by unfold numb; rw [h]
    rw [e]
    go_enter Tryd.func33, Tryd.ntmps33
    go_wp2_with (go_at_call 41; refine (Tryd.strconv_Atoi_ok s (by omega) v h _).mono ?_; rintro e wx ⟨rfl, hw⟩)
    go_ret
    refine ⟨rfl, ?_⟩
    rcases hw with rfl | ⟨t, rfl⟩
    · exact Below.refl _ _
    · exact below_bytes _ _ _
  | «syntax» =>
    have e : numb s.data.toList = -1 := by unfold numb; rw [h]
    rw [e]
    go_enter Tryd.func33, Tryd.ntmps33
    go_wp2_with (go_at_call 41; refine (Tryd.strconv_Atoi_syntax s (by omega) h _ _ hes (Or.inr ⟨_, _, rfl⟩)).mono ?_; rintro e wx ⟨N, rfl, _, _, hw⟩)
    go_ret
    exact ⟨rfl, hw⟩
  | range =>
    have e : numb s.data.toList = -1 := by unfold numb; rw [h]
    rw [e]
    go_enter Tryd.func33, Tryd.ntmps33
    go_wp2_with (go_at_call 41; refine (Tryd.strconv_Atoi_range s (by omega) h _ _ her (Or.inr ⟨_, _, rfl⟩)).mono ?_; rintro e wx ⟨N, rfl, _, _, hw⟩)
    go_ret
    exact ⟨rfl, hw⟩

/-! ### Cut at one byte -/
theorem indexByte_cut (c : UInt8) : ∀ l : List UInt8, (Lib.indexByte l c = -1 ∧ cutc c l = (l, [], false)) ∨ (∃ i : Nat, Lib.indexByte l c = i ∧ i < l.length ∧ cutc c l = (l.take i, l.drop (i + 1), true))
  | [] => Or.inl ⟨rfl, rfl⟩
  | b :: l => by
    by_cases hb : b = c
    · right
      refine ⟨0, ?_, by simp, ?_⟩
      · simp [Lib.indexByte, hb]
      · simp [cutc, hb]
    · have hbc : (b == c) = false := by simpa using hb
      rcases indexByte_cut c l with ⟨h1, h2⟩ | ⟨i, h1, h2, h3⟩
      · left
        refine ⟨?_, ?_⟩
        · unfold Lib.indexByte; rw [hbc, h1]; rfl
        · unfold cutc; rw [if_neg hb, h2]
      · right
        refine ⟨i + 1, ?_, by simp; omega, ?_⟩
        · unfold Lib.indexByte; rw [hbc, h1]
          have : ((i : Int) == -1) = false := by rw [beq_eq_false_iff_ne]; omega
          simp [this]
        · unfold cutc; rw [if_neg hb, h3]; simp

theorem cutc_size (c : UInt8) (l : List UInt8) : (cutc c l).1.length ≤ l.length ∧ (cutc c l).2.1.length ≤ l.length := by
  rcases indexByte_cut c l with ⟨_, h⟩ | ⟨i, _, h', h⟩
  · rw [h]; simp
  · rw [h]; simp; omega

theorem mk_toList (s : ByteArray) : (⟨s.data.toList.toArray⟩ : ByteArray) = s := by cases s; simp
theorem ext_toList {a b : ByteArray} (h : a.data.toList = b.data.toList) : a = b := by
  cases a; cases b; simp_all

theorem extract_take (s : ByteArray) (i : Nat) : s.extract 0 i = ⟨(s.data.toList.take i).toArray⟩ := by
  apply ext_toList; rw [Lib.extract_data]; simp
theorem extract_drop (s : ByteArray) (i : Nat) : s.extract i s.size = ⟨(s.data.toList.drop i).toArray⟩ := by
  apply ext_toList; rw [Lib.extract_to_end]

theorem lcut_one (s : ByteArray) (c : UInt8) (hs : s.size ≤ 1000000) (w : World) :
    Calls Tryd.prog 29 #[.string s, .string ⟨#[c]⟩] w fun e w' => e = .returned (.tuple #[.string ⟨(cutc c s.data.toList).1.toArray⟩, .string ⟨(cutc c s.data.toList).2.1.toArray⟩, .bool (cutc c s.data.toList).2.2]) ∧ Below w.heap.size w w' := by
  have hl : s.data.toList.length = s.size := by cases s; rfl
  rcases indexByte_cut c s.data.toList with ⟨h1, h2⟩ | ⟨i, h1, h3, h2⟩
  · rw [h2]
    go_enter Tryd.func29, Tryd.ntmps29
    go_wp2_with (go_at_call 39; refine (Tryd.stringslite_Index_one s c _).mono ?_; rintro e wx ⟨rfl, rfl⟩; rw [h1])
    go_ret3
    refine ⟨?_, Below.refl _ _⟩
    rw [mk_toList]
    rfl
  · rw [h2]
    have hi : i < s.size := by omega
    have hi0 : ¬ ((i : Int) < 0) := by omega
    have hi1 : (i : Int) + 1 ≤ (s.size : Int) := by omega
    go_enter Tryd.func29, Tryd.ntmps29
    go_wp2_with (go_at_call 39; refine (Tryd.stringslite_Index_one s c _).mono ?_; rintro e wx ⟨rfl, rfl⟩; rw [h1])
    go_region
    all_goals go_wp2
    all_goals go_ret3
    all_goals (refine ⟨?_, (Below.refl _ _).drew⟩; rw [← extract_take s i, ← extract_drop s (i + 1)]; rfl)

theorem cut_one (s : ByteArray) (c : UInt8) (hs : s.size ≤ 1000000) (w : World) :
    Calls Tryd.prog 19 #[.string s, .string ⟨#[c]⟩] w fun e w' => e = .returned (.tuple #[.string ⟨(cutc c s.data.toList).1.toArray⟩, .string ⟨(cutc c s.data.toList).2.1.toArray⟩, .bool (cutc c s.data.toList).2.2]) ∧ Below w.heap.size w w' := by
  go_enter Tryd.func19, Tryd.ntmps19
  go_wp2_with (go_at_call 29; refine (lcut_one s c hs _).mono ?_; rintro e wx ⟨rfl, hw⟩)
  go_ret3
  exact ⟨rfl, hw⟩

theorem trim_r (l : List UInt8) : Lib.trimPrefix l [114] = trimR l := by
  unfold Lib.trimPrefix Lib.hasPrefix trimR
  match l with
  | [] => simp
  | b :: r =>
    by_cases h : b = 114
    · subst h; simp
    · have : (114 == b) = false := by rw [beq_eq_false_iff_ne]; exact fun e => h e.symm
      simp only [List.isPrefixOf, this, Bool.false_and, Bool.false_eq_true, if_false]
      split
      · rename_i e; simp only [List.cons.injEq] at e; exact absurd e.1 h
      · rfl
theorem trimR_size (l : List UInt8) : (trimR l).length ≤ l.length := by
  unfold trimR; split <;> simp

theorem ireg_any (s : ByteArray) (hs : s.size ≤ 1000000) (w : World) (hV : Vs w) :
    Calls Tryd.prog 31 #[.string s] w fun e w' => e = .returned (.tuple #[.int .i64 (regOf s.data.toList), .string ⟨(restOf s.data.toList).toArray⟩]) ∧ Below w.heap.size w w' := by
  have hl : s.data.toList.length = s.size := by cases s; rfl
  have h1 := cutc_size 32 s.data.toList
  have h2 := trimR_size (cutc 32 s.data.toList).1
  go_enter Tryd.func31, Tryd.ntmps31
  go_wp2_with fail
  refine (cut_one s 32 hs _).mono ?_
  rintro e w1 ⟨rfl, b1⟩
  go_wp2_with fail
  refine (Tryd.strings_TrimPrefix _ _ _).mono ?_
  rintro e w2 ⟨rfl, rfl⟩
  go_wp2_with fail
  refine (number_any _ ?_ _ (hV.later b1)).mono ?_
  · rw [trim_r]; show (trimR _).toArray.size ≤ _; simp; omega
  rintro e w3 ⟨rfl, b3⟩
  go_wp2_with fail
  all_goals go_ret2
  refine ⟨?_, b1.trans (b3.mono b1.size)⟩
  simp [trim_r, regOf, restOf]
end Go.Proofs.YtpnegpcnmmaclaaDoor
