/-
  The law InsnParses, walked.
-/
import Derived.Test.YtpnegpcnmmaclaaDoorRInsE
namespace Go.Proofs.YtpnegpcnmmaclaaDoor
open Go.ChangeShapes Go.WideShapes Go.ChangeAt Go.RowKit

/-- The texts that are picked from. -/
def texts7 : List (List UInt8) := [[115, 101, 116, 32, 114, 49, 32, 53, 10], [97, 100, 100, 32, 114, 48, 32, 114, 55, 10], [108, 111, 97, 100, 32, 114, 49, 32, 114, 50, 32, 57, 10], [115, 116, 111, 114, 101, 32, 114, 51, 32, 114, 52, 32, 54, 53, 53, 51, 53, 10], [99, 108, 101, 97, 114, 32, 114, 53, 32, 48, 10], [106, 117, 109, 112, 32, 114, 49, 32, 50, 51, 10], [99, 97, 108, 108, 32, 109, 97, 112, 10], [99, 97, 108, 108, 32, 114, 101, 99, 118, 10], [99, 97, 108, 108, 32, 101, 120, 105, 116, 10], [115, 101, 116, 32, 114, 56, 32, 49, 10], [115, 101, 116, 32, 114, 49, 32, 48, 53, 10], [115, 101, 116, 32, 114, 49, 32, 54, 53, 53, 51, 54, 10], [106, 117, 109, 112, 32, 114, 49, 32, 50, 52, 10], [97, 100, 100, 32, 114, 49, 10], [99, 97, 108, 108, 10], [99, 97, 108, 108, 32, 77, 97, 112, 10], [32, 115, 101, 116, 32, 114, 49, 32, 49, 10], [115, 101, 116, 32, 32, 114, 49, 32, 49, 10], [10], [115, 101, 116, 32, 114, 49, 32, 49], [114, 49], [99, 108, 101, 97, 114, 32, 114, 53, 10]]
def cells7 : Array Value := #[.string ⟨#[115, 101, 116, 32, 114, 49, 32, 53, 10]⟩, .string ⟨#[97, 100, 100, 32, 114, 48, 32, 114, 55, 10]⟩, .string ⟨#[108, 111, 97, 100, 32, 114, 49, 32, 114, 50, 32, 57, 10]⟩, .string ⟨#[115, 116, 111, 114, 101, 32, 114, 51, 32, 114, 52, 32, 54, 53, 53, 51, 53, 10]⟩, .string ⟨#[99, 108, 101, 97, 114, 32, 114, 53, 32, 48, 10]⟩, .string ⟨#[106, 117, 109, 112, 32, 114, 49, 32, 50, 51, 10]⟩, .string ⟨#[99, 97, 108, 108, 32, 109, 97, 112, 10]⟩, .string ⟨#[99, 97, 108, 108, 32, 114, 101, 99, 118, 10]⟩, .string ⟨#[99, 97, 108, 108, 32, 101, 120, 105, 116, 10]⟩, .string ⟨#[115, 101, 116, 32, 114, 56, 32, 49, 10]⟩, .string ⟨#[115, 101, 116, 32, 114, 49, 32, 48, 53, 10]⟩, .string ⟨#[115, 101, 116, 32, 114, 49, 32, 54, 53, 53, 51, 54, 10]⟩, .string ⟨#[106, 117, 109, 112, 32, 114, 49, 32, 50, 52, 10]⟩, .string ⟨#[97, 100, 100, 32, 114, 49, 10]⟩, .string ⟨#[99, 97, 108, 108, 10]⟩, .string ⟨#[99, 97, 108, 108, 32, 77, 97, 112, 10]⟩, .string ⟨#[32, 115, 101, 116, 32, 114, 49, 32, 49, 10]⟩, .string ⟨#[115, 101, 116, 32, 32, 114, 49, 32, 49, 10]⟩, .string ⟨#[10]⟩, .string ⟨#[115, 101, 116, 32, 114, 49, 32, 49]⟩, .string ⟨#[114, 49]⟩, .string ⟨#[99, 108, 101, 97, 114, 32, 114, 53, 10]⟩]
theorem cells7_at {j : Nat} (h : j < 22) : ∃ u : List UInt8, cells7[j]? = some (.string ⟨u.toArray⟩) ∧ u.length ≤ 30 := by
  have e : cells7 = (texts7.map fun u => Value.string ⟨u.toArray⟩).toArray := rfl
  have hl : texts7.length = 22 := rfl
  have hall : ∀ u ∈ texts7, u.length ≤ 30 := by decide
  refine ⟨texts7[j]'(by omega), ?_, hall _ (List.getElem_mem _)⟩
  rw [e]
  simp [hl, h]

set_option maxRecDepth 20000 in
set_option maxHeartbeats 2000000 in
theorem text7_any (s : ByteArray) (a1 : Option Addr) (len1 cap1 : Nat) (z1 : List Int) (raw : Bool) (w : World) (w1 : Row .i64 w a1 len1 cap1 z1) :
    Calls Tryd.prog 6 #[.string s, .slice a1 len1 cap1, .bool raw] w fun e w' => (∃ t : List UInt8, e = .returned (.string ⟨t.toArray⟩) ∧ t.length ≤ 1000) ∧ Below w.heap.size w w' := by
  obtain ⟨mm1, q1⟩ := w1.plain
  clear w1
  cases raw with
  | true =>
    go_enter Tryd.func6, Tryd.ntmps6
    go_wp2_with (go_at_call 10; refine (ktext_any s 60 _).mono ?_; rintro e wq ⟨⟨t, rfl, ht⟩, rfl⟩)
    go_ret
    exact ⟨⟨t, rfl, by omega⟩, Below.refl _ _⟩
  | false =>
    go_enter Tryd.func6, Tryd.ntmps6
    go_upto_block 1 with fail
    have hL := heap_alloc_new w (.cells #[.string ⟨#[115, 101, 116, 32, 114, 49, 32, 53, 10]⟩, .string ⟨#[97, 100, 100, 32, 114, 48, 32, 114, 55, 10]⟩, .string ⟨#[108, 111, 97, 100, 32, 114, 49, 32, 114, 50, 32, 57, 10]⟩, .string ⟨#[115, 116, 111, 114, 101, 32, 114, 51, 32, 114, 52, 32, 54, 53, 53, 51, 53, 10]⟩, .string ⟨#[99, 108, 101, 97, 114, 32, 114, 53, 32, 48, 10]⟩, .string ⟨#[106, 117, 109, 112, 32, 114, 49, 32, 50, 51, 10]⟩, .string ⟨#[99, 97, 108, 108, 32, 109, 97, 112, 10]⟩, .string ⟨#[99, 97, 108, 108, 32, 114, 101, 99, 118, 10]⟩, .string ⟨#[99, 97, 108, 108, 32, 101, 120, 105, 116, 10]⟩, .string ⟨#[115, 101, 116, 32, 114, 56, 32, 49, 10]⟩, .string ⟨#[115, 101, 116, 32, 114, 49, 32, 48, 53, 10]⟩, .string ⟨#[115, 101, 116, 32, 114, 49, 32, 54, 53, 53, 51, 54, 10]⟩, .string ⟨#[106, 117, 109, 112, 32, 114, 49, 32, 50, 52, 10]⟩, .string ⟨#[97, 100, 100, 32, 114, 49, 10]⟩, .string ⟨#[99, 97, 108, 108, 10]⟩, .string ⟨#[99, 97, 108, 108, 32, 77, 97, 112, 10]⟩, .string ⟨#[32, 115, 101, 116, 32, 114, 49, 32, 49, 10]⟩, .string ⟨#[115, 101, 116, 32, 32, 114, 49, 32, 49, 10]⟩, .string ⟨#[10]⟩, .string ⟨#[115, 101, 116, 32, 114, 49, 32, 49]⟩, .string ⟨#[114, 49]⟩, .string ⟨#[99, 108, 101, 97, 114, 32, 114, 53, 10]⟩] 9)
    have hb := (Below.refl w.heap.size w).alloc (Nat.le_refl _) (.cells #[.string ⟨#[115, 101, 116, 32, 114, 49, 32, 53, 10]⟩, .string ⟨#[97, 100, 100, 32, 114, 48, 32, 114, 55, 10]⟩, .string ⟨#[108, 111, 97, 100, 32, 114, 49, 32, 114, 50, 32, 57, 10]⟩, .string ⟨#[115, 116, 111, 114, 101, 32, 114, 51, 32, 114, 52, 32, 54, 53, 53, 51, 53, 10]⟩, .string ⟨#[99, 108, 101, 97, 114, 32, 114, 53, 32, 48, 10]⟩, .string ⟨#[106, 117, 109, 112, 32, 114, 49, 32, 50, 51, 10]⟩, .string ⟨#[99, 97, 108, 108, 32, 109, 97, 112, 10]⟩, .string ⟨#[99, 97, 108, 108, 32, 114, 101, 99, 118, 10]⟩, .string ⟨#[99, 97, 108, 108, 32, 101, 120, 105, 116, 10]⟩, .string ⟨#[115, 101, 116, 32, 114, 56, 32, 49, 10]⟩, .string ⟨#[115, 101, 116, 32, 114, 49, 32, 48, 53, 10]⟩, .string ⟨#[115, 101, 116, 32, 114, 49, 32, 54, 53, 53, 51, 54, 10]⟩, .string ⟨#[106, 117, 109, 112, 32, 114, 49, 32, 50, 52, 10]⟩, .string ⟨#[97, 100, 100, 32, 114, 49, 10]⟩, .string ⟨#[99, 97, 108, 108, 10]⟩, .string ⟨#[99, 97, 108, 108, 32, 77, 97, 112, 10]⟩, .string ⟨#[32, 115, 101, 116, 32, 114, 49, 32, 49, 10]⟩, .string ⟨#[115, 101, 116, 32, 32, 114, 49, 32, 49, 10]⟩, .string ⟨#[10]⟩, .string ⟨#[115, 101, 116, 32, 114, 49, 32, 49]⟩, .string ⟨#[114, 49]⟩, .string ⟨#[99, 108, 101, 97, 114, 32, 114, 53, 10]⟩] 9)
    generalize w.alloc (.cells #[.string ⟨#[115, 101, 116, 32, 114, 49, 32, 53, 10]⟩, .string ⟨#[97, 100, 100, 32, 114, 48, 32, 114, 55, 10]⟩, .string ⟨#[108, 111, 97, 100, 32, 114, 49, 32, 114, 50, 32, 57, 10]⟩, .string ⟨#[115, 116, 111, 114, 101, 32, 114, 51, 32, 114, 52, 32, 54, 53, 53, 51, 53, 10]⟩, .string ⟨#[99, 108, 101, 97, 114, 32, 114, 53, 32, 48, 10]⟩, .string ⟨#[106, 117, 109, 112, 32, 114, 49, 32, 50, 51, 10]⟩, .string ⟨#[99, 97, 108, 108, 32, 109, 97, 112, 10]⟩, .string ⟨#[99, 97, 108, 108, 32, 114, 101, 99, 118, 10]⟩, .string ⟨#[99, 97, 108, 108, 32, 101, 120, 105, 116, 10]⟩, .string ⟨#[115, 101, 116, 32, 114, 56, 32, 49, 10]⟩, .string ⟨#[115, 101, 116, 32, 114, 49, 32, 48, 53, 10]⟩, .string ⟨#[115, 101, 116, 32, 114, 49, 32, 54, 53, 53, 51, 54, 10]⟩, .string ⟨#[106, 117, 109, 112, 32, 114, 49, 32, 50, 52, 10]⟩, .string ⟨#[97, 100, 100, 32, 114, 49, 10]⟩, .string ⟨#[99, 97, 108, 108, 10]⟩, .string ⟨#[99, 97, 108, 108, 32, 77, 97, 112, 10]⟩, .string ⟨#[32, 115, 101, 116, 32, 114, 49, 32, 49, 10]⟩, .string ⟨#[115, 101, 116, 32, 32, 114, 49, 32, 49, 10]⟩, .string ⟨#[10]⟩, .string ⟨#[115, 101, 116, 32, 114, 49, 32, 49]⟩, .string ⟨#[114, 49]⟩, .string ⟨#[99, 108, 101, 97, 114, 32, 114, 53, 10]⟩] 9) = W at *
    have hL' : W.heap[w.heap.size]? = some (.cells cells7 9 (0, 0)) := hL
    have hC : Hid (∀ j, W.cell? ⟨w.heap.size, j, none⟩ = cells7[j]?) := fun j => by simp [World.cell?, hL']
    clear hL hL'
    obtain ⟨K, hK⟩ : ∃ K : Nat, K = min len1 12 := ⟨_, rfl⟩
    go_wp2_with fail
    go_loopg [8, 9] K (fun g tv i wr => ∃ (k : Nat) (t : List UInt8), g + k = K ∧ i = .int .i64 k ∧ tv = .string ⟨t.toArray⟩ ∧ t.length ≤ 30 * k ∧ wr = W)
    case atStart => exact ⟨0, [], by omega, rfl, rfl, by simp, rfl⟩
    case round =>
      obtain ⟨k, t, hg, rfl, rfl, ht, rfl⟩ := hrel
      by_cases hk : k < K
      · have k1 : (k : Int) < (len1 : Int) := by omega
        have k2 : (k : Int) < 12 := by omega
        rcases q1 with q1 | ⟨b2, o2, rfl, hb2, hc2⟩
        · omega
        have cc := Plain.cell hc2 hb2 hb k (by omega)
        generalize z1.getD k 0 = y at *
        have Y0 := Int.emod_nonneg y (b := 22) (by omega)
        have Y1 := Int.emod_lt_of_pos y (b := 22) (by omega)
        obtain ⟨u, hu, hul⟩ := cells7_at (j := (y % 22).toNat) (by omega)
        have cL := (hC.out (y % 22).toNat).trans hu
        have hWn := fun wx => within_any y 22 wx (by omega) (by omega)
        generalize y % 22 = Y at *
        clear hc2 hu
        have hsz := size_mk t
        have hsu := size_mk u
        go_wp2_with (go_at_call 16; refine (hWn _).mono ?_; rintro e wq ⟨rfl, rfl⟩)
        go_roundg (K - (k + 1))
        case measure => omega
        case rel => exact ⟨k + 1, t ++ u, by omega, by go_num, congrArg Value.string (ext_toList (by simp)), by simp; omega, rfl⟩
      · have hx : ¬ ((k : Int) < (len1 : Int)) ∨ ((k : Int) < (len1 : Int)) ∧ ¬ ((k : Int) < 12) := by omega
        rcases hx with k1 | ⟨k1, k2⟩
        all_goals
          go_wp2_with fail
          go_ret
          exact ⟨⟨t, rfl, by omega⟩, hb⟩

theorem codeF_len : ∀ (f n : Nat) (t : List UInt8) (acc : List Ins), (codeF f n t acc).1.length ≤ acc.length + f
  | 0, n, t, acc => by rw [codeF]; split <;> simp
  | f + 1, n, t, acc => by
    rw [codeF]
    split
    · simp
    · split
      · cases parseP (cutc 10 t).1 with
        | none => simp
        | some x =>
          have := codeF_len f (n + 1) (cutc 10 t).2.1 (acc ++ [x])
          simp at this ⊢; omega
      · simp

set_option maxRecDepth 20000 in
set_option maxHeartbeats 4000000 in
theorem insnParses_walk (s : ByteArray) (a1 : Option Addr) (len1 cap1 : Nat) (z1 : List Int) (raw : Bool) (w : World) (w1 : Row .i64 w a1 len1 cap1 z1) (hV : Vs w) :
    Calls Tryd.prog 3 #[.string s, .slice a1 len1 cap1, .bool raw] w fun e w' => e = .returned (.bool true) ∧ Below w.heap.size w w' := by
  have hT := text7_any s a1 len1 cap1 z1 raw w w1
  clear w1
  go_enter Tryd.func3, Tryd.ntmps3
  go_wp2_with fail
  refine hT.mono ?_
  rintro e w1 ⟨⟨t, rfl, ht⟩, b1⟩
  clear hT
  obtain ⟨r, hr⟩ : ∃ r, Hid (codeP t = r) := ⟨_, rfl⟩
  have hlen : r.1.length ≤ 1000 := by
    rw [← hr.out]
    have := codeF_len 24 1 t []
    unfold codeP; simp at this; omega
  have hC := code_l t (by omega) w1 (hV.later b1)
  rw [hr.out] at hC
  have hRc := fun wx => rcode_any t (by omega) wx
  rw [hr.out] at hRc
  clear hr
  obtain ⟨l, ln⟩ := r
  dsimp only at hlen
  go_wp2_with fail
  refine hC.mono ?_
  rintro e w2 ⟨a2, c2, rfl, ho2, b2⟩
  clear hC
  have hI2 := IsL.own ho2
  have B2 := b1.trans (b2.mono b1.size)
  clear ho2
  dsimp only at hI2 ⊢
  obtain ⟨E, hE⟩ : ∃ E : Int, Hid ((if ln = 0 then (0 : Int) else 2) = E) := ⟨_, rfl⟩
  rw [hE.out]
  go_wp2_with fail
  refine (hRc _).mono ?_
  rintro e w3 ⟨a3, c3, rfl, hI3, b3⟩
  clear hRc
  have hI2 := hI2.later b3
  have B3 := B2.trans (b3.mono B2.size)
  dsimp only at hI3 ⊢
  go_upto_region 4 with fail
  go_cut [58] (fun v wx => v = .bool false ∧ Below w.heap.size w wx)
  case first =>
    have hSm := same_eq (c := c2) (d := c3) hI2 hI3 hlen
    by_cases h0 : ln = 0
    · subst h0
      obtain rfl : 0 = E := hE.out
      go_wp2_with (go_at_call 9; refine hSm.mono ?_; rintro e w4 ⟨rfl, b4⟩)
      go_meet
      exact ⟨rfl, B3.trans (b4.mono B3.size)⟩
    · have h1 : ((ln : Int) == 0) = false := by simp; omega
      obtain rfl : 2 = E := by rw [← hE.out, if_neg h0]
      go_wp2_with (go_at_call 9; refine hSm.mono ?_; rintro e w4 ⟨rfl, b4⟩)
      go_meet
      exact ⟨rfl, B3.trans (b4.mono B3.size)⟩
  case rest =>
    obtain ⟨rfl, B4⟩ := hcut
    clear hI2 hI3 B3 B2 b1 b2 b3 hE
    go_upto_region 7 with fail
    go_cut [70] (fun v wx => ∃ b : Bool, v = .bool b ∧ Hid (b = true → 1 ≤ t.length) ∧ wx = wc)
    case first =>
      rcases List.eq_nil_or_concat t with h | ⟨t', c, h⟩
      · subst h
        go_wp2_with fail
        go_meet
        exact ⟨false, rfl, (fun h => by cases h), rfl⟩
      · have hlen' : t.length = t'.length + 1 := by rw [h]; simp
        have hck : t[t'.length]? = some c := by rw [h]; simp
        have ek := byte_at t t'.length c hck
        have hsz := size_mk t
        generalize t'.length = m at *
        have hm : ((t.length : Int)) = (m : Int) + 1 := by omega
        have hm0 : (0 : Int) < (t.length : Int) := by omega
        have hwm : IntKind.i64.wrap ((m : Int) + 1 - 1) = m := by rw [IntKind.wrap_i64]; omega
        have hwm' : IntKind.i64.wrap ((t.length : Int) - 1) = m := by rw [IntKind.wrap_i64]; omega
        clear h
        go_wp2_with fail
        go_meet
        exact ⟨_, rfl, fun _ => by omega, rfl⟩
    case rest =>
    obtain ⟨b, rfl, hb1, rfl⟩ := hcut
    go_upto_if 70 with fail
    go_cut [13, 70] (fun v _ wx => ∃ u : List UInt8, v = .string ⟨u.toArray⟩ ∧ u.length ≤ 1000 ∧ wx = wc)
    case first =>
      cases b with
      | false =>
        go_wp2_with fail
        go_meet
        exact ⟨t, rfl, ht, rfl⟩
      | true =>
        have h1 := hb1.out rfl
        obtain ⟨m, hm⟩ : ∃ m : Nat, t.length = m + 1 := ⟨t.length - 1, by omega⟩
        have hsz := size_mk t
        have hS := slice_to t m (by omega)
        have hwm : IntKind.i64.wrap ((m : Int) + 1 - 1) = m := by rw [IntKind.wrap_i64]; omega
        have hwm' : IntKind.i64.wrap ((t.length : Int) - 1) = m := by rw [IntKind.wrap_i64]; omega
        go_wp2_with fail
        go_meet
        exact ⟨t.take m, rfl, by simp; omega, rfl⟩
    case rest =>
      obtain ⟨u, rfl, hu, rfl⟩ := hcut
      go_upto_block 2 with (go_at_call 10; refine (ktext_any s 20 _).mono ?_; rintro e wq ⟨⟨v, rfl, hv⟩, rfl⟩)
      have hG := CRow.lit wc #[.string ⟨t.toArray⟩, .string ⟨u.toArray⟩, .string ⟨v.toArray⟩] 9 (strC [t, u, v]) (by simp [strC])
      have bA := B4.alloc B4.size (.cells #[.string ⟨t.toArray⟩, .string ⟨u.toArray⟩, .string ⟨v.toArray⟩] 9)
      generalize wc.alloc (.cells #[.string ⟨t.toArray⟩, .string ⟨u.toArray⟩, .string ⟨v.toArray⟩] 9) = W at *
      generalize wc.heap.size = G at *
      have hall : Hid (∀ y ∈ [t, u, v], y.length ≤ 1000) := by
        intro y hy
        simp at hy
        rcases hy with rfl | rfl | rfl <;> omega
      generalize hL : [t, u, v] = L at *
      have hL3 : L.length = 3 := by rw [← hL]; rfl
      clear hL
      go_wp2_with fail
      go_loopg [82] 3 (fun g i wr => ∃ k : Nat, g + k = 3 ∧ i = .int .i64 k ∧ CRow wr G (strC L) ∧ Below w.heap.size w wr)
      case atStart => exact ⟨0, by omega, rfl, hG, bA⟩
      case round =>
        obtain ⟨k, hg, rfl, hG, hB⟩ := hrel
        by_cases hk : k < 3
        · have k1 : (k : Int) < 3 := by omega
          obtain ⟨y, hy⟩ : ∃ y, L[k]? = some y := ⟨_, List.getElem?_eq_getElem (by omega)⟩
          have hyl := hall.out y (List.mem_of_getElem? hy)
          have cy := hG.str hy
          have hP := parse_l y (by omega) wr (hV.later hB)
          have hRp := fun wx => rparse_any y (by omega) wx
          cases hp : parseP y with
          | none =>
            have e1 : parseV y = .tuple #[insV ⟨0, 0, 0, 0⟩, .int .i64 2] := by unfold parseV; rw [hp]
            have e2 : parseR y = .tuple #[insV ⟨0, 0, 0, 0⟩, .bool false] := by unfold parseR; rw [hp]
            rw [e1] at hP
            simp only [e2] at hRp
            clear hp e1 e2
            unfold insV at hP hRp
            go_upto_region 13 with (go_at_call 11; refine hP.mono ?_; rintro e w5 ⟨rfl, b5⟩)
            have hx := heap_alloc_new w5 (.cells #[.int .i64 0, .int .i64 0, .int .i64 0, .int .i64 0] 32)
            have hB5 := hB.trans ((b5.alloc b5.size (.cells #[.int .i64 0, .int .i64 0, .int .i64 0, .int .i64 0] 32)).mono hB.size)
            have hG5 := hG.later (b5.alloc b5.size (.cells #[.int .i64 0, .int .i64 0, .int .i64 0, .int .i64 0] 32))
            generalize w5.alloc (.cells #[.int .i64 0, .int .i64 0, .int .i64 0, .int .i64 0] 32) = W5 at *
            generalize w5.heap.size = X at *
            clear hG hB b5 cy hP
            go_upto_region 14 with (go_at_call 12; with_reducible refine (hRp _).mono ?_; rintro e w6 ⟨rfl, b6⟩)
            have hz := heap_alloc_new w6 (.cells #[.int .i64 0, .int .i64 0, .int .i64 0, .int .i64 0] 32)
            have b6a := b6.alloc b6.size (.cells #[.int .i64 0, .int .i64 0, .int .i64 0, .int .i64 0] 32)
            have hx6 := (b6a.block X (lt_of_block hx)).trans hx
            have hB6 := hB5.trans (b6a.mono hB5.size)
            have hG6 := hG5.later b6a
            generalize w6.alloc (.cells #[.int .i64 0, .int .i64 0, .int .i64 0, .int .i64 0] 32) = W6 at *
            generalize w6.heap.size = Z at *
            obtain ⟨x0, x1, x2, x3, _⟩ := four_cells hx6
            obtain ⟨z0', z1', z2', z3', _⟩ := four_cells hz
            go_wp2_with fail
            go_roundg (3 - (k + 1))
            case measure => omega
            case rel => exact ⟨k + 1, by omega, by go_num, hG6, hB6⟩
          | some x =>
            have e1 : parseV y = .tuple #[insV x, .int .i64 0] := by unfold parseV; rw [hp]
            have e2 : parseR y = .tuple #[insV x, .bool true] := by unfold parseR; rw [hp]
            rw [e1] at hP
            simp only [e2] at hRp
            clear hp e1 e2
            unfold insV at hP hRp
            go_upto_region 13 with (go_at_call 11; refine hP.mono ?_; rintro e w5 ⟨rfl, b5⟩)
            have hx := heap_alloc_new w5 (.cells #[.int .i64 x.op, .int .i64 x.a, .int .i64 x.b, .int .i64 x.n] 32)
            have hB5 := hB.trans ((b5.alloc b5.size (.cells #[.int .i64 x.op, .int .i64 x.a, .int .i64 x.b, .int .i64 x.n] 32)).mono hB.size)
            have hG5 := hG.later (b5.alloc b5.size (.cells #[.int .i64 x.op, .int .i64 x.a, .int .i64 x.b, .int .i64 x.n] 32))
            generalize w5.alloc (.cells #[.int .i64 x.op, .int .i64 x.a, .int .i64 x.b, .int .i64 x.n] 32) = W5 at *
            generalize w5.heap.size = X at *
            clear hG hB b5 cy hP
            go_upto_region 14 with (go_at_call 12; with_reducible refine (hRp _).mono ?_; rintro e w6 ⟨rfl, b6⟩)
            have hz := heap_alloc_new w6 (.cells #[.int .i64 x.op, .int .i64 x.a, .int .i64 x.b, .int .i64 x.n] 32)
            have b6a := b6.alloc b6.size (.cells #[.int .i64 x.op, .int .i64 x.a, .int .i64 x.b, .int .i64 x.n] 32)
            have hx6 := (b6a.block X (lt_of_block hx)).trans hx
            have hB6 := hB5.trans (b6a.mono hB5.size)
            have hG6 := hG5.later b6a
            generalize w6.alloc (.cells #[.int .i64 x.op, .int .i64 x.a, .int .i64 x.b, .int .i64 x.n] 32) = W6 at *
            generalize w6.heap.size = Z at *
            obtain ⟨x0, x1, x2, x3, _⟩ := four_cells hx6
            obtain ⟨z0', z1', z2', z3', _⟩ := four_cells hz
            go_wp2_with fail
            go_roundg (3 - (k + 1))
            case measure => omega
            case rel => exact ⟨k + 1, by omega, by go_num, hG6, hB6⟩
        · have k1 : ¬ ((k : Int) < 3) := by omega
          go_wp2_with (go_at_call 13; refine (wakes7 _ (hV.later hB)).mono ?_; rintro e w5 ⟨rfl, b5⟩)
          go_ret
          exact ⟨rfl, hB.trans (b5.mono hB.size)⟩
end Go.Proofs.YtpnegpcnmmaclaaDoor
