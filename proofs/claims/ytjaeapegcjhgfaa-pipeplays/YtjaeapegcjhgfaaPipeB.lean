/-
  Package pipe: Words: each word goes round once.
-/
import Derived.Test.YtjaeapegcjhgfaaPipeA
import Derived.Test.YtjaeapegcjhgfaaAppG
import Derived.Test.YtjaeapegcjhgfaaRows3
import Derived.Lib.SlFresh
import Derived.Deep.LoopGhost
import Derived.Deep.DeepCutAuto
import Derived.Deep.CutBlock
namespace Go.Proofs.Ytjaeapegcjhgfaa
open Go.ChangeShapes Go.WideShapes Go.ChangeAt Go.RowKit

def ulist (l : List Int) : List Value := l.map (fun x => Value.int .u64 x)
theorem ulist_len (l : List Int) : (ulist l).length = l.length := by simp [ulist]
theorem ulist_get (l : List Int) {i : Nat} (h : i < l.length) : (ulist l)[i]? = some (.int .u64 (l.getD i 0)) := by
  simp [ulist, List.getD, h]
theorem app_word {wr : World} {base n : Nat} {v : Value} {xs : List Value} (h0 : wr.ownsRow base 22 1 v n xs) (hbase : base ≤ wr.heap.size) (few : n ≤ 1000) (x : Int) :
    ∃ g c wN, (Builtin.append_ #[27, 27] 27 #[v, .slice (some ⟨wr.heap.size, 0, none⟩) 1 1]).run Try.prog (wr.alloc (.cells #[.int .u64 x] 22)) = .ok (.slice (some ⟨g, 0, none⟩) (n + 1) c) wN ∧
      wN.ownsRow base 22 1 (.slice (some ⟨g, 0, none⟩) (n + 1) c) (n + 1) (xs ++ [.int .u64 x]) ∧ Below base wr wN :=
  app_gen (z := .int .u64 0) (bytes := 8) (by kernel_rfl) Try.underlying27 rfl (by decide) (by decide) h0 hbase few #[.int .u64 x] rfl (fun u hu => by simp at hu; subst hu; rfl)
set_option maxHeartbeats 1000000 in
theorem pwords_any {w : World} {b c : Nat} {l : List Int} (h : PAt w b c l) : Calls Try.prog 9 #[.pointer (some ⟨b, 0, none⟩)] w fun e w' => (∃ v, e = .returned v ∧ w'.ownsRow w.heap.size 22 1 v l.length (ulist l)) ∧ PAt w' b c l ∧ Touch (· = c) w w' := by
  have hl := plen_any h
  have hc := h.lt
  have hb := h.row.lt
  have few := h.few
  obtain ⟨n, hn⟩ : ∃ n, l.length = n := ⟨_, rfl⟩
  rw [hn] at hl few ⊢
  go_enter Try.func9, Try.ntmps9
  go_wp2_with fail
  with_reducible refine hl.mono ?_
  rintro e wq ⟨rfl, rfl⟩
  clear hl
  go_wp2_with fail
  go_loopg [3, 8] n (fun g v i wr => ∃ k : Nat, g + k = n ∧ i = .int .i64 k ∧ Aside (wr.ownsRow w.heap.size 22 1 v k (ulist (l.take k))) ∧ Aside (PAt wr b c (l.drop k ++ l.take k)) ∧ Aside (Touch (· = c) w wr))
  case atStart => exact ⟨0, by omega, rfl, World.ownsRow_nil _ _ _ _, (by simpa using h : PAt w b c (l.drop 0 ++ l.take 0)), Touch.refl _ w⟩
  case round =>
    clear h
    obtain ⟨k, hgk, rfl, hO, hP, tk⟩ := hrel
    by_cases hk : k < n
    · have k1 : (k : Int) < n := by omega
      obtain ⟨x, hx⟩ : ∃ x, l[k]? = some x := ⟨_, List.getElem?_eq_getElem (by omega)⟩
      have e1 : l.drop k ++ l.take k = x :: (l.drop (k + 1) ++ l.take k) := by
        obtain ⟨hlt, he⟩ := List.getElem?_eq_some_iff.1 hx
        rw [List.drop_eq_getElem_cons hlt, he]; rfl
      have e2 : l.take (k + 1) = l.take k ++ [x] := by rw [List.take_add_one, hx]; rfl
      have hP1 := hP.out
      rw [e1] at hP1
      have hr := precv_some hP1
      have hO1 := hO.out
      have t1 := tk.out
      clear hO hP tk hP1 e1 hx
      go_wp2_with fail
      with_reducible refine hr.mono ?_
      rintro e w2 ⟨rfl, hP2, t2⟩
      have hO2 := ownsRow_touch hO1 t2 (fun i hi => by omega)
      have t12 := t1.trans t2
      have hs := psend_any hP2 x
      have hlen : (l.drop (k + 1) ++ l.take k).length < 4 := by simp; omega
      rw [if_pos hlen] at hs
      simp only [hlen, decide_true] at hs
      clear hr hP2 t2 hO1 t1
      go_wp2_with fail
      with_reducible refine hs.mono ?_
      rintro e w3 ⟨rfl, hP3, t3⟩
      have hO3 := ownsRow_touch hO2 t3 (fun i hi => by omega)
      have t13 := t12.trans t3
      obtain ⟨g', c', wN, hrun, hN, bN⟩ := app_word hO3 t13.size (by omega) x
      have tN : Touch (· = c) w wN := ⟨bN.os.trans t13.os, bN.tape.trans t13.tape, bN.output.trans t13.output, Nat.le_trans t13.size bN.size, fun i hi hs => (bN.block i hi).trans (t13.block i hi hs)⟩
      have hP4 : PAt wN b c (l.drop (k + 1) ++ l.take (k + 1)) := by
        have := hP3.touch (S := fun i => w.heap.size ≤ i) ⟨bN.os, bN.tape, bN.output, bN.size, fun i hi hs => bN.block i (by omega)⟩ (by have := hb; omega) (by omega)
        rw [e2, ← List.append_assoc]; exact this
      have hN4 : wN.ownsRow w.heap.size 22 1 (.slice (some ⟨g', 0, none⟩) (k + 1) c') (k + 1) (ulist (l.take (k + 1))) := by
        rw [e2, ulist, List.map_append]; exact hN
      clear hs hP3 t3 hO2 hO3 hN bN t12 t13 e2
      go_upto_region 6 with fail
      go_wp2_with (at_builtin; refine Lib.wpList_append_run_sl _ rfl _ _ 27 rfl _ _ rfl rfl hrun ?_)
      go_roundg (n - (k + 1))
      case measure => omega
      case rel => exact ⟨k + 1, by omega, by go_num, hN4, hP4, tN⟩
    · have e : k = n := by omega
      subst e
      have e3 : l.take k = l := List.take_of_length_le (by omega)
      have e4 : l.drop k = [] := List.drop_of_length_le (by omega)
      rw [e3] at hO
      rw [e3, e4] at hP
      have hO1 := hO.out
      have hP1 : PAt wr b c l := by simpa using hP.out
      have t1 := tk.out
      clear hO hP tk hn
      go_wp2_with fail
      go_ret
      exact ⟨⟨_, rfl, hO1⟩, hP1, t1⟩
end Go.Proofs.Ytjaeapegcjhgfaa
