/-
  The law's Runs and Same: the program's areas held against the document's.
-/
import Derived.Test.YtcjfdgkhlidakaaRAreaC
namespace Go.Proofs.Ytcjfdgkhlidakaa
open Go.ChangeShapes Go.WideShapes Go.ChangeAt Go.RowKit

set_option maxHeartbeats 1000000 in
theorem runs_any {w : World} {a a' : Option Addr} {l : List Rn} (h : RunsL w a l) (h' : RunsL w a' l) (n : Nat) (hn : l.length = n) (few : n ≤ 1000000) (k k' : Nat) :
    Calls Try.prog 29 #[.slice a n k, .slice a' n k'] w fun e w' => e = .returned (.bool true) ∧ Touch Nil w w' := by
  go_enter Try.func29, Try.ntmps29
  go_wp2_with fail
  go_loopg [5, 13] n (fun g u v wr => ∃ j : Nat, g + j = n ∧ v = .int .i64 j ∧ Aside (Touch Nil w wr))
  case atStart => exact ⟨0, by omega, rfl, Touch.refl _ w⟩
  case round =>
    obtain ⟨j, hgj, rfl, tk⟩ := hrel
    by_cases hlt : j < n
    · have j1 : (j : Int) < n := by omega
      obtain ⟨x, hx⟩ : ∃ x, l[j]? = some x := ⟨l[j]'(by omega), List.getElem?_eq_getElem _⟩
      rcases h.touch tk.out with h | ⟨b, o, rfl, hb, hc⟩
      · rw [h] at hn; simp at hn; omega
      rcases h'.touch tk.out with h' | ⟨b', o', rfl, hb', hc'⟩
      · rw [h'] at hn; simp at hn; omega
      obtain ⟨q1, q2, q3⟩ := hc j x hx
      obtain ⟨r1, r2, r3⟩ := hc' j x hx
      obtain ⟨xf, xn, xr⟩ := x
      dsimp only at q1 q2 q3 r1 r2 r3
      clear hc hc' h h' hx
      go_upto_region 6 with fail
      go_quiet (fail)
      go_wp2_with fail
      go_roundg (n - (j + 1))
      case measure => omega
      case rel => exact ⟨j + 1, by omega, by go_num, tk.out.drews _⟩
    · have hjn : j = n := by omega
      subst hjn
      go_wp2_with fail
      go_ret
      exact ⟨rfl, tk.out⟩
theorem rpages_k {w : World} {b : Nat} {R : Nat → Int} (h : RAt w b R) {n : Nat} (hn : (pgsA R 256).length = n) :
    Calls Try.prog 28 #[.pointer (some ⟨b, 0, none⟩)] w fun e w' => ∃ a cap, e = .returned (.slice a n cap) ∧ IntsL w' a (pgsA R 256) ∧ Touch Nil w w' ∧ n ≤ cap ∧ cap ≤ 9223372036854775807 := by
  refine (rpages_any h).mono ?_
  rintro e w' ⟨⟨v, rfl, hv⟩, t⟩
  rw [hn] at hv
  obtain ⟨a, cap, rfl, _⟩ := owns_form hv
  obtain ⟨h1, h2⟩ := owns_len1 hv
  exact ⟨a, cap, rfl, owns_ints hv hn, t, h1, h2⟩
theorem rlist_k {w : World} {b : Nat} {R : Nat → Int} (h : RAt w b R) {n : Nat} (hn : (runsK R 256).length = n) :
    Calls Try.prog 31 #[.pointer (some ⟨b, 0, none⟩)] w fun e w' => ∃ a cap, e = .returned (.slice a n cap) ∧ RunsL w' a (runsK R 256) ∧ Touch Nil w w' ∧ n ≤ cap ∧ cap ≤ 9223372036854775807 := by
  refine (rlist_any h).mono ?_
  rintro e w' ⟨⟨v, rfl, hv⟩, t⟩
  rw [hn] at hv
  obtain ⟨a, cap, rfl, _⟩ := owns_form hv
  obtain ⟨h1, h2⟩ := owns_len hv
  exact ⟨a, cap, rfl, owns_runs hv hn, t, h1, h2⟩
set_option maxHeartbeats 1000000 in
theorem asame_any {w : World} {b c : Nat} {R : Nat → Int} (hA : AAt w b R) (hR : RAt w c R) :
    Calls Try.prog 14 #[.pointer (some ⟨b, 0, none⟩), .pointer (some ⟨c, 0, none⟩)] w fun e w' => e = .returned (.bool true) ∧ Touch Nil w w' := by
  obtain ⟨n, hn⟩ : ∃ n, (pgsA R 256).length = n := ⟨_, rfl⟩
  obtain ⟨m, hm⟩ : ∃ m, (runsK R 256).length = m := ⟨_, rfl⟩
  have hl := pgsA_len R 256
  have hk := (smallK R 256 (Nat.le_refl _)).1
  rw [hn] at hl
  rw [hm] at hk
  have h1 := pages_k hA hn
  go_enter Try.func14, Try.ntmps14
  go_wp2_with fail
  with_reducible refine h1.mono ?_
  rintro e w1 ⟨a1, c1, rfl, i1, t1, _, _⟩
  have h2 := rpages_k (hR.touch t1 (by simp [Nil])) hn
  clear h1
  go_wp2_with fail
  with_reducible refine h2.mono ?_
  rintro e w2 ⟨a2, c2, rfl, i2, t2, _, _⟩
  have h3 := isame_any (i1.touch t2) i2 n hn (by omega) c1 c2
  clear h2
  go_wp2_with fail
  with_reducible refine h3.mono ?_
  rintro e w3 ⟨rfl, t3⟩
  have T3 := (t1.trans t2).trans t3
  have h4 := list_k (hA.touch T3 (by simp [Nil])) rfl hm
  have hR3 := hR.touch T3 (by simp [Nil])
  clear h3 i1 i2 t1 t2 t3 hA hR
  go_wp2_with fail
  with_reducible refine h4.mono ?_
  rintro e w4 ⟨a4, c4, rfl, i4, t4, _, _⟩
  have h5 := rlist_k (hR3.touch t4 (by simp [Nil])) hm
  clear h4
  go_wp2_with fail
  with_reducible refine h5.mono ?_
  rintro e w5 ⟨a5, c5, rfl, i5, t5, _, _⟩
  have h6 := runs_any (i4.touch t5) i5 m hm (by omega) c4 c5
  have T5 := (T3.trans t4).trans t5
  clear h5 i4 i5 t4 t5 T3 hR3
  go_wp2_with fail
  with_reducible refine h6.mono ?_
  rintro e w6 ⟨rfl, t6⟩
  go_wp2_with fail
  go_ret
  exact ⟨rfl, T5.trans t6⟩
end Go.Proofs.Ytcjfdgkhlidakaa
