/-
  Package swap: a new one; out, in, dropped.
-/
import Derived.Test.YtaofkedcdeocjaaSwapB
namespace Go.Proofs.Ytaofkedcdeocjaa
open Go.ChangeShapes Go.WideShapes Go.ChangeAt Go.RowKit

theorem fresh_alloc (w : World) {a : Array Value} (h : a = Array.ofFn (n := 72) (fun i => QS.fresh.cell i.1)) : QAt (w.alloc (.cells a 129)) w.heap.size QS.fresh := by
  have := World.rowIs_alloc w (Array.ofFn (n := 72) (fun i => QS.fresh.cell i.1)) 129 QS.fresh.cell (fun i hi => by
    have hi' : i < 72 := by simpa using hi
    rw [Array.getElem?_ofFn]; simp [hi'])
  rw [Array.size_ofFn] at this
  rw [h]; exact this

set_option maxRecDepth 20000 in
set_option maxHeartbeats 1000000 in
theorem snew_any (w : World) :
    Calls Try.prog 31 #[] w fun e w' => e = .returned (.pointer (some ⟨w.heap.size, 0, none⟩)) ∧ QAt w' w.heap.size QS.fresh ∧ Touch Nil w w' ∧ w'.heap.size = w.heap.size + 1 := by
  go_enter Try.func31, Try.ntmps31
  go_wp2_with fail
  go_ret
  exact ⟨rfl, fresh_alloc w (by kernel_rfl), (Touch.refl Nil w).alloc _, by simp⟩

set_option maxHeartbeats 1000000 in
theorem sdrop_any {w : World} {b : Nat} {q : QS} (h : QAt w b q) (k : Int) :
    Calls Try.prog 35 #[.pointer (some ⟨b, 0, none⟩), .int .i64 k] w fun e w' => e = .returned (.bool (q.isOut k)) ∧ QAt w' b (if q.isOut k = true then q.lay k.toNat false (fun _ => 0) else q) ∧ Touch (· = b) w w' := by
  have hI := isOut_any h k
  obtain ⟨m, hm⟩ : ∃ m, Hid (q.isOut k = m) := ⟨_, rfl⟩
  rw [hm.out] at hI ⊢
  cases m
  · rw [if_neg (by decide)]
    go_enter Try.func35, Try.ntmps35
    go_wp2_with fail
    with_reducible refine hI.mono ?_
    rintro e w' ⟨rfl, rfl⟩
    go_wp2_with fail
    go_ret
    exact ⟨rfl, h, Touch.refl _ _⟩
  · rw [if_pos rfl]
    obtain ⟨k1, k2, hU⟩ := (q.isOut_iff k).1 hm.out
    have hth := h.there (k := k.toNat) (by omega)
    have hL := h.lay k.toNat false (fun _ => 0)
    have tL := (Touch.refl (· = b) w).setCells rfl (pg9 false (fun _ => 0)) (k.toNat * 9)
    go_enter Try.func35, Try.ntmps35
    go_wp2_with fail
    with_reducible refine hI.mono ?_
    rintro e w' ⟨rfl, rfl⟩
    go_wp2_with (refine wpList_store_mid rfl 126 _ _ rfl b (k.toNat * 9) (pg9 false (fun _ => 0)).toArray rfl rfl hth (by kernel_rfl) (by kernel_rfl) ?_)
    go_ret
    exact ⟨rfl, hL, tL⟩

theorem wordsOf_x {w : World} {b c : Nat} {s : MS} (h : MemAt w b c s) (f : Int) (hf : s.hasF f = true) :
    Calls Try.prog 80 #[.pointer (some ⟨b, 0, none⟩), .int .i64 f] w fun e w' => e = .returned (.agg #[.int .u64 (s.frame f 0), .int .u64 (s.frame f 1), .int .u64 (s.frame f 2), .int .u64 (s.frame f 3), .int .u64 (s.frame f 4), .int .u64 (s.frame f 5), .int .u64 (s.frame f 6), .int .u64 (s.frame f 7)]) ∧ Touch Nil w w' := wordsOf_any h f hf

set_option maxHeartbeats 1000000 in
theorem sout_yes {w : World} {p b c f : Nat} {q : QS} {s : MS} (h : QAt w p q) (m : MemAt w b c s) (hF : q.Free f) (fr : Int) (hf : s.hasF fr = true) :
    Calls Try.prog 33 #[.pointer (some ⟨p, 0, none⟩), .pointer (some ⟨b, 0, none⟩), .int .i64 fr] w fun e w' => e = .returned (.tuple #[.int .i64 f, .bool true]) ∧ QAt w' p (q.lay f true (s.frame fr)) ∧ Touch (· = p) w w' := by
  have hH := swhas_any m fr
  rw [hf] at hH
  have f0 := hF.lo
  have f7 := hF.hi
  have fz : ((f : Int) == 0) = false := by simp; omega
  go_enter Try.func33, Try.ntmps33
  go_wp2_with fail
  with_reducible refine (free_yes h hF).mono ?_
  rintro e w' ⟨rfl, rfl⟩
  go_wp2_with fail
  with_reducible refine hH.mono ?_
  rintro e w' ⟨rfl, rfl⟩
  go_wp2_with fail
  have hW := wordsOf_x m.drew fr hf
  go_region_with (go_at_call 80; refine hW.mono ?_; rintro e w4 ⟨rfl, t4⟩; have h4 := h.drew.touch t4 (fun h => h); have c0 := h4.outC (k := f) f7; have c1 := h4.wordC (k := f) (o := 0) f7 (by omega); have c2 := h4.wordC (k := f) (o := 1) f7 (by omega); have c3 := h4.wordC (k := f) (o := 2) f7 (by omega); have c4 := h4.wordC (k := f) (o := 3) f7 (by omega); have c5 := h4.wordC (k := f) (o := 4) f7 (by omega); have c6 := h4.wordC (k := f) (o := 5) f7 (by omega); have c7 := h4.wordC (k := f) (o := 6) f7 (by omega); have c8 := h4.wordC (k := f) (o := 7) f7 (by omega); have hfz := h4.frozen)
  go_wp2
  have hL := h4.lay f true (s.frame fr)
  have tL := ((((Touch.refl Nil w).drew).trans t4).mono (S' := (· = p)) (fun _ _ e => e.elim)).setCells rfl (pg9 true (s.frame fr)) (f * 9)
  go_ret2
  exact ⟨rfl, hL, tL⟩

set_option maxHeartbeats 1000000 in
theorem sout_full {w : World} {p b : Nat} {q : QS} (h : QAt w p q) (hF : q.Full) (fr : Int) :
    Calls Try.prog 33 #[.pointer (some ⟨p, 0, none⟩), .pointer (some ⟨b, 0, none⟩), .int .i64 fr] w fun e w' => e = .returned (.tuple #[.int .i64 0, .bool false]) ∧ w = w' := by
  go_enter Try.func33, Try.ntmps33
  go_wp2_with fail
  with_reducible refine (free_no h hF).mono ?_
  rintro e w' ⟨rfl, rfl⟩
  go_wp2_with fail
  go_ret2
  exact ⟨rfl, rfl⟩
set_option maxHeartbeats 1000000 in
theorem sout_none {w : World} {p b c f : Nat} {q : QS} {s : MS} (h : QAt w p q) (m : MemAt w b c s) (hF : q.Free f) (fr : Int) (hf : s.hasF fr = false) :
    Calls Try.prog 33 #[.pointer (some ⟨p, 0, none⟩), .pointer (some ⟨b, 0, none⟩), .int .i64 fr] w fun e w' => e = .returned (.tuple #[.int .i64 0, .bool false]) ∧ w = w' := by
  have hH := swhas_any m fr
  rw [hf] at hH
  have f0 := hF.lo
  have f7 := hF.hi
  have fz : ((f : Int) == 0) = false := by simp; omega
  go_enter Try.func33, Try.ntmps33
  go_wp2_with fail
  with_reducible refine (free_yes h hF).mono ?_
  rintro e w' ⟨rfl, rfl⟩
  go_wp2_with fail
  with_reducible refine hH.mono ?_
  rintro e w' ⟨rfl, rfl⟩
  go_wp2_with fail
  go_ret2
  exact ⟨rfl, rfl⟩

theorem index8 (g : Nat → Int) : ∀ o : Nat, o < 8 → ∀ w : World, (Instr.index 82 (.agg #[.int .u64 (g 0), .int .u64 (g 1), .int .u64 (g 2), .int .u64 (g 3), .int .u64 (g 4), .int .u64 (g 5), .int .u64 (g 6), .int .u64 (g 7)]) (.int .i64 o)).run Try.prog w = .ok (.int .u64 (g o)) w
  | 0, _, _ | 1, _, _ | 2, _, _ | 3, _, _ | 4, _, _ | 5, _, _ | 6, _, _ | 7, _, _ => by kernel_rfl
  | n + 8, h, _ => by omega
set_option maxHeartbeats 1000000 in
theorem sin_yes {w : World} {p b c : Nat} {q : QS} {s : MS} (h : QAt w p q) (m : MemAt w b c s) (hp : p ≠ b ∧ p ≠ c) (k fr : Int) (hk : q.isOut k = true) (hf : s.hasF fr = true) :
    Calls Try.prog 37 #[.pointer (some ⟨p, 0, none⟩), .pointer (some ⟨b, 0, none⟩), .int .i64 k, .int .i64 fr] w fun e w' => e = .returned (.bool true) ∧ QAt w' p (q.lay k.toNat false (fun _ => 0)) ∧ MemAt w' b c (s.lay fr (q.W k.toNat)) ∧ Touch (fun x => x = p ∨ x = c) w w' := by
  have hI := isOut_any h k
  rw [hk] at hI
  have hH := swhas_any m fr
  rw [hf] at hH
  obtain ⟨k1, k2, hU⟩ := (q.isOut_iff k).1 hk
  obtain ⟨f0, f1⟩ := (s.hasF_iff fr).1 hf
  have hle := m.le
  go_enter Try.func37, Try.ntmps37
  go_wp2_with fail
  with_reducible refine hI.mono ?_
  rintro e w' ⟨rfl, rfl⟩
  go_wp2_with fail
  with_reducible refine hH.mono ?_
  rintro e w' ⟨rfl, rfl⟩
  have d1 := h.wordC (k := k.toNat) (o := 0) (by omega) (by omega)
  have d2 := h.wordC (k := k.toNat) (o := 1) (by omega) (by omega)
  have d3 := h.wordC (k := k.toNat) (o := 2) (by omega) (by omega)
  have d4 := h.wordC (k := k.toNat) (o := 3) (by omega) (by omega)
  have d5 := h.wordC (k := k.toNat) (o := 4) (by omega) (by omega)
  have d6 := h.wordC (k := k.toNat) (o := 5) (by omega) (by omega)
  have d7 := h.wordC (k := k.toNat) (o := 6) (by omega) (by omega)
  have d8 := h.wordC (k := k.toNat) (o := 7) (by omega) (by omega)
  go_wp2_with fail
  clear d1 d2 d3 d4 d5 d6 d7 d8
  go_loopg [28] 8 (fun g i wr => ∃ o : Nat, g + o = 8 ∧ i = .int .i64 o ∧ QAt wr p q ∧ MemAt wr b c (s.layK fr (q.W k.toNat) o) ∧ Touch (fun x => x = p ∨ x = c) w wr)
  case atStart => exact ⟨0, by omega, rfl, h, by rw [MS.layK_zero]; exact m, Touch.refl _ _⟩
  case round =>
    clear h m hI hH
    obtain ⟨o, hgo, rfl, h, m, t⟩ := hrel
    by_cases ho : o < 8
    · have o1 : (o : Int) < 8 := by omega
      have hi := index8 (q.W k.toNat) o ho
      have hw := write_any m (fr * 8 + o) (q.W k.toNat o) (by omega)
      rw [MS.layK_step _ _ _ _ hf ho] at hw
      go_wp2_with fail
      with_reducible refine hw.mono ?_
      rintro e w4 ⟨rfl, m4, t4⟩
      go_wp2_with fail
      go_roundg (7 - o)
      case measure => omega
      case rel => exact ⟨o + 1, by omega, by go_num, h.touch t4 (fun e => hp.2 e), m4, t.trans (t4.mono (fun _ _ e => Or.inr e))⟩
    · have o8 : o = 8 := by omega
      subst o8
      rw [MS.layK_all] at m
      have hth := h.there (k := k.toNat) (by omega)
      have hL := h.lay k.toNat false (fun _ => 0)
      have tL := (Touch.refl (· = p) wr).setCells rfl (pg9 false (fun _ => 0)) (k.toNat * 9)
      have mL := m.touch tL (fun e => hp.1 e.symm) (fun e => hp.2 e.symm)
      go_wp2_with (refine wpList_store_mid rfl 126 _ _ rfl p (k.toNat * 9) (pg9 false (fun _ => 0)).toArray rfl rfl hth (by kernel_rfl) (by kernel_rfl) ?_)
      go_ret
      exact ⟨rfl, hL, mL, t.trans (tL.mono (fun _ _ e => Or.inl e))⟩
set_option maxHeartbeats 1000000 in
theorem sin_no {w : World} {p b c : Nat} {q : QS} {s : MS} (h : QAt w p q) (m : MemAt w b c s) (k fr : Int) (hn : (q.isOut k && s.hasF fr) = false) :
    Calls Try.prog 37 #[.pointer (some ⟨p, 0, none⟩), .pointer (some ⟨b, 0, none⟩), .int .i64 k, .int .i64 fr] w fun e w' => e = .returned (.bool false) ∧ w = w' := by
  have hI := isOut_any h k
  have hH := swhas_any m fr
  cases hk : q.isOut k
  · rw [hk] at hI
    go_enter Try.func37, Try.ntmps37
    go_wp2_with fail
    with_reducible refine hI.mono ?_
    rintro e w' ⟨rfl, rfl⟩
    go_wp2_with fail
    go_ret
    exact ⟨rfl, rfl⟩
  · rw [hk, Bool.true_and] at hn
    rw [hn] at hH
    rw [hk] at hI
    go_enter Try.func37, Try.ntmps37
    go_wp2_with fail
    with_reducible refine hI.mono ?_
    rintro e w' ⟨rfl, rfl⟩
    go_wp2_with fail
    with_reducible refine hH.mono ?_
    rintro e w' ⟨rfl, rfl⟩
    go_wp2_with fail
    go_ret
    exact ⟨rfl, rfl⟩

set_option maxHeartbeats 1000000 in
theorem wakes10 (w : World) : Calls Try.prog 38 #[] w fun e w' => e = .returned (.bool true) ∧ Touch Nil w w' := by
  go_enter Try.func38, Try.ntmps38
  go_wp2_with fail
  with_reducible refine (snew_any w).mono ?_
  rintro e w1 ⟨rfl, h1, t1, _⟩
  have hL := sleft_any h1
  rw [show QS.fresh.left = 7 from rfl] at hL
  go_wp2_with fail
  with_reducible refine hL.mono ?_
  rintro e wq ⟨rfl, rfl⟩
  go_wp2_with fail
  go_ret
  exact ⟨rfl, t1⟩
end Go.Proofs.Ytaofkedcdeocjaa
