/-
  slices.DeleteFunc of lists of items.
-/
import Derived.Test.YtleeodpnamnnfaaTlbB
namespace Go.Proofs.Ytleeodpnamnnfaa
open Go.ChangeShapes Go.WideShapes Go.ChangeAt Go.RowKit

theorem flat_set (x : It) (l : List It) : ∀ (i k : Nat), i < l.length → (flat (l.set i x))[k]? = if i * 6 ≤ k ∧ k < i * 6 + 6 then x.vs[k - i * 6]? else (flat l)[k]? := by
  induction l with
  | nil => intro i k h; simp at h
  | cons y l ih =>
    intro i k h
    match i with
    | 0 =>
      simp only [List.set_cons_zero, flat, Nat.zero_mul, Nat.zero_add, Nat.sub_zero]
      by_cases hk : k < 6
      · rw [if_pos ⟨Nat.zero_le _, hk⟩, List.getElem?_append_left (by rw [It.vs_len]; exact hk)]
      · rw [if_neg (by omega), List.getElem?_append_right (by rw [It.vs_len]; omega), List.getElem?_append_right (by rw [It.vs_len]; omega), It.vs_len, It.vs_len]
    | i + 1 =>
      simp only [List.set_cons_succ, flat]
      by_cases hk : k < 6
      · rw [if_neg (by omega), List.getElem?_append_left (by rw [It.vs_len]; exact hk), List.getElem?_append_left (by rw [It.vs_len]; exact hk)]
      · rw [List.getElem?_append_right (by rw [It.vs_len]; omega), List.getElem?_append_right (by rw [It.vs_len]; omega), It.vs_len, ih i (k - 6) (by simpa using h)]
        by_cases hc : i * 6 ≤ k - 6 ∧ k - 6 < i * 6 + 6
        · rw [if_pos hc, if_pos (by omega), show k - 6 - i * 6 = k - (i + 1) * 6 by omega]
        · rw [if_neg hc, if_neg (by omega)]
theorem flat_take (l : List It) (n : Nat) : flat (l.take n) = (flat l).take (n * 6) := by
  induction l generalizing n with
  | nil => simp [flat]
  | cons x l ih =>
    match n with
    | 0 => simp [flat]
    | n + 1 =>
      simp only [List.take_succ_cons, flat, ih, List.take_append, It.vs_len, show (n + 1) * 6 - 6 = n * 6 by omega]
      rw [List.take_of_length_le (l := x.vs) (by rw [It.vs_len]; omega)]

namespace LRow
variable {ty : TypeId} {w w' : World} {g o cap : Nat} {l : List It}
theorem set (h : LRow ty w g o cap l) {i : Nat} (hi : i < l.length) (x : It) : LRow ty (w.setCells g (o + i * 6) x.vs) g o cap (l.set i x) := by
  obtain ⟨h1, h2, m, f, h3, h4, h5⟩ := h
  refine ⟨by simpa using h1, h2, m, _, h3.setCells x.vs (o + i * 6), h4, fun k v hv => ?_⟩
  rw [flat_set x l i k hi] at hv
  by_cases hc : i * 6 ≤ k ∧ k < i * 6 + 6
  · rw [if_pos hc] at hv
    rw [if_pos (by omega), show o + k - (o + i * 6) = k - i * 6 by omega, hv]; rfl
  · rw [if_neg hc] at hv
    have e := h5 k v hv
    by_cases hc2 : o + i * 6 ≤ o + k
    · rw [if_pos hc2, List.getElem?_eq_none (by rw [It.vs_len]; omega)]; exact e
    · rw [if_neg hc2]; exact e
theorem take (h : LRow ty w g o cap l) (n : Nat) : LRow ty w g o cap (l.take n) := by
  obtain ⟨h1, h2, m, f, h3, h4, h5⟩ := h
  refine ⟨by rw [List.length_take]; omega, h2, m, f, h3, h4, fun k v hv => h5 k v ?_⟩
  rw [flat_take, List.getElem?_take] at hv
  split at hv
  · exact hv
  · cases hv
theorem behind (h : LRow ty w g o cap l) (n : Nat) (hn : l.length ≤ n) (vs : List Value) : LRow ty (w.setCells g (o + n * 6) vs) g o cap l := by
  obtain ⟨h1, h2, m, f, h3, h4, h5⟩ := h
  refine ⟨h1, h2, m, _, h3.setCells vs (o + n * 6), h4, fun k v hv => ?_⟩
  have hk := (List.getElem?_eq_some_iff.1 hv).1
  rw [flat_len] at hk
  rw [if_neg (by omega)]
  exact h5 k v hv
theorem there (h : LRow ty w g o cap l) (i n : Nat) (hi : i + n ≤ cap * 6) : w.there g (o + i) n := by
  obtain ⟨h1, h2, m, f, h3, h4, h5⟩ := h
  exact h3.there _ _ (by omega)
theorem is (h : LRow ty w g o cap l) {k : List It} (e : l = k) : LRow ty w g o cap k := e ▸ h
end LRow

/-- 'clear' of items. -/
theorem run_clear6 {P : Program} (w : World) (t e ty : TypeId) (ht : P.underlying t = some (.slice e)) (hv : ∀ w, (zeroValue e).run P w = .ok It.zero.V w) (b o n c : Nat) (hth : w.there b o (n * 6)) :
    ∃ zs : List Value, (Builtin.clear_ #[t] ty #[.slice (some ⟨b, o, none⟩) n c]).run P w = .ok (.tuple #[]) (w.setCells b o zs) := by
  match n with
  | 0 => exact ⟨[], by simp [Builtin.clear_, run_underlying ht, World.setCells]⟩
  | n + 1 =>
    have hlen : (Builtin.zeroCells It.zero.V.cells (n + 1)).toList.length = (n + 1) * 6 := by
      simp [Builtin.zeroCells, Value.cells]
    have h1 : ∀ v ∈ (Builtin.zeroCells It.zero.V.cells (n + 1)).toList, v.oneCell' = true := fun v hv => by
      obtain ⟨i, hi⟩ := List.getElem?_of_mem hv
      have hi' := (List.getElem?_eq_some_iff.1 hi).1
      rw [hlen] at hi'
      simp only [Builtin.zeroCells, Value.cells, Array.toList_map, Array.toList_range, List.getElem?_map] at hi
      have : i % 6 < 6 := Nat.mod_lt _ (by omega)
      rw [List.getElem?_range (by simpa using hi')] at hi
      simp only [Option.map_some, Option.some.injEq, List.size_toArray, List.length_cons, List.length_nil, Nat.zero_add, Nat.reduceAdd] at hi
      generalize i % 6 = q at hi this
      match q, hi with
      | 0, hi => rw [← hi]; rfl
      | 1, hi => rw [← hi]; rfl
      | 2, hi => rw [← hi]; rfl
      | 3, hi => rw [← hi]; rfl
      | 4, hi => rw [← hi]; rfl
      | 5, hi => rw [← hi]; rfl
      | q + 6, _ => omega
    have hst := run_storeCells_cells (P := P) b o (Builtin.zeroCells It.zero.V.cells (n + 1)).toList 0 w (fun j hj => by simpa using (hth j (by rw [hlen] at hj; exact hj)).1) (fun j hj => by simpa using (hth j (by rw [hlen] at hj; exact hj)).2) h1
    simp only [Nat.add_zero] at hst
    exact ⟨_, by simp [Builtin.clear_, run_underlying ht, hv, hst]; rfl⟩

/-- An item in a block of its own. -/
theorem box6 {w w2 : World} {y : It} {t : TypeId} (h : Touch Nil (w.alloc (.cells #[.int .i64 y.pc, .int .i64 y.pg, .int .i64 y.fr, .bool y.wr, .bool y.us, .bool y.gl] t)) w2) :
    w2.cell? ⟨w.heap.size, 0, none⟩ = some (.int .i64 y.pc) ∧ w2.cell? ⟨w.heap.size, 1, none⟩ = some (.int .i64 y.pg) ∧ w2.cell? ⟨w.heap.size, 2, none⟩ = some (.int .i64 y.fr) ∧ w2.cell? ⟨w.heap.size, 3, none⟩ = some (.bool y.wr) ∧ w2.cell? ⟨w.heap.size, 4, none⟩ = some (.bool y.us) ∧ w2.cell? ⟨w.heap.size, 5, none⟩ = some (.bool y.gl) := by
  have hb := h.block w.heap.size (by simp) (by simp [Nil])
  refine ⟨?_, ?_, ?_, ?_, ?_, ?_⟩ <;> (rw [World.cell?_of_block hb]; simp)

/-- The state of DeleteFunc's loop: the first j are looked at, i of them kept. -/
structure Kept (p : It → Bool) (l : List It) (i j : Nat) (k : List It) : Prop where
  len : k.length = l.length
  lt : i < j
  le : j ≤ l.length
  low : k.take i = drops p (l.take j)
  high : ∀ t, j ≤ t → k[t]? = l[t]?
theorem Kept.skip {p : It → Bool} {l k : List It} {i j : Nat} (h : Kept p l i j k) (x : It) (hx : l[j]? = some x) (hp : p x = true) : Kept p l i (j + 1) k := by
  have hj := (List.getElem?_eq_some_iff.1 hx).1
  refine ⟨h.len, by have := h.lt; omega, by omega, ?_, fun t ht => h.high t (by omega)⟩
  rw [h.low, List.take_add_one, hx]
  simp [drops, hp]
theorem Kept.keep {p : It → Bool} {l k : List It} {i j : Nat} (h : Kept p l i j k) (x : It) (hx : l[j]? = some x) (hp : p x = false) : Kept p l (i + 1) (j + 1) (k.set i x) := by
  have hj := (List.getElem?_eq_some_iff.1 hx).1
  have hlt := h.lt
  have hlen := h.len
  refine ⟨by simpa using hlen, by omega, by omega, ?_, fun t ht => ?_⟩
  · rw [List.take_add_one, List.take_set_of_le (Nat.le_refl _), h.low, List.getElem?_set_self (by omega), List.take_add_one, hx]
    simp [drops, hp]
  · rw [List.getElem?_set_ne (by omega)]; exact h.high t (by omega)

set_option maxRecDepth 10000 in
set_option maxHeartbeats 1000000 in
theorem deletef_row {w : World} {g o cap : Nat} {l : List It} (h : LRow 26 w g o cap l) (hn : l.length ≤ 9) (fn : Nat) (lb : Array Value) (p : It → Bool) (eg : ∀ args w, (callFunc fn args).run Try.prog w = .ok (.enter fn args) w) (hp : PredT fn lb p (· = g) w) :
    Calls Try.prog 35 #[.slice (some ⟨g, o, none⟩) l.length cap, .func (.func fn) #[] lb] w fun e w' => e = .returned (.slice (some ⟨g, o, none⟩) (drops p l).length cap) ∧ LRow 26 w' g o cap (drops p l) ∧ Touch (· = g) w w' := by
  have hidx := indexf_row h hn fn lb p eg (hp.mono (by simp [Nil]))
  have hcap1 := h.1
  have hcap2 := h.2.1
  unfold maxLen at hcap2
  by_cases ha : l.any p = true
  · obtain ⟨x0, hx0m, hx0p⟩ := List.any_eq_true.1 ha
    have hk0 : l.findIdx p < l.length := List.findIdx_lt_length_of_exists ⟨x0, hx0m, hx0p⟩
    have hf : fidx p l = (l.findIdx p : Int) := if_pos ha
    have hpre : ∀ t, t < l.findIdx p → ∀ (ht : t < l.length), p l[t] = false := fun t ht hl => by
      have := List.not_of_lt_findIdx ht
      simpa using this
    have hhit : p l[l.findIdx p] = true := List.findIdx_getElem
    rw [hf] at hidx
    have hK0 : Aside (Kept p l (l.findIdx p) (l.findIdx p + 1) l) := by
      refine ⟨rfl, by omega, by omega, ?_, fun _ _ => rfl⟩
      rw [List.take_add_one, List.getElem?_eq_getElem hk0]
      unfold drops
      rw [List.filter_append]
      have e1 : List.filter (fun x => !p x) (l.take (l.findIdx p)) = l.take (l.findIdx p) := by
        rw [List.filter_eq_self]
        intro y hy
        obtain ⟨t, ht⟩ := List.getElem?_of_mem hy
        rw [List.getElem?_take] at ht
        split at ht
        · rename_i hlt
          obtain ⟨q1, q2⟩ := List.getElem?_eq_some_iff.1 ht
          rw [← q2, hpre t hlt q1]; rfl
        · cases ht
      rw [e1]
      simp [hhit]
    clear hf hpre hhit hx0m hx0p ha
    generalize l.findIdx p = k0 at *
    have hne1 : ((k0 : Int) == -1) = false := beq_eq_false_iff_ne.2 (by omega)
    go_enter Try.func35, Try.ntmps35
    go_wp2_with (go_at_call 27; refine hidx.mono ?_; rintro e w1 ⟨rfl, hT1⟩)
    have hT0 : Touch (· = g) w w1 := hT1.mono (by simp [Nil])
    have hL1 : LRow 26 w1 g o cap l := h.touch hT1 (by simp [Nil])
    clear hidx hT1
    go_loopg [5, 6, 7] l.length (fun gg s5 s6 _ wr => ∃ (i j : Nat) (k : List It), s5 = .int .i64 i ∧ s6 = .int .i64 j ∧ j ≤ l.length ∧ l.length - j ≤ gg ∧ Aside (LRow 26 wr g o cap k) ∧ Aside (Touch (· = g) w wr) ∧ Aside (Kept p l i j k))
    case atStart => exact ⟨k0, k0 + 1, l, rfl, by go_num, by omega, by omega, hL1, hT0, hK0.out⟩
    case round =>
      clear hT0 hL1 hK0 h hne1
      obtain ⟨i, j, k, rfl, rfl, hjl, hgg, L, T, KK⟩ := hrel
      have hij := KK.out.lt
      by_cases hlt : j < l.length
      · have hltz : (j : Int) < (l.length : Int) := by omega
        have hiz : (i : Int) < (l.length : Int) := by omega
        have hy : Aside (l[j]? = some l[j]) := List.getElem?_eq_getElem hlt
        generalize l[j] = y at hy
        obtain ⟨c0, c1, c2, c3, c4, c5⟩ := L.out.six ((KK.out.high j (Nat.le_refl _)).trans hy.out)
        have hcall := hp _ y (T.out.alloc (.cells #[.int .i64 y.pc, .int .i64 y.pg, .int .i64 y.fr, .bool y.wr, .bool y.us, .bool y.gl] 26))
        have hgw : g ≠ wr.heap.size := by have := L.out.lt; omega
        clear hp
        cases hq : p y with
        | true =>
          rw [hq] at hcall
          go_wp2_with (go_at_fn fn; refine hcall.mono ?_; rintro e w2 ⟨rfl, hb'⟩)
          go_roundg (l.length - (j + 1))
          case measure => omega
          case rel => exact ⟨i, j + 1, k, rfl, by go_num, by omega, by omega, (L.out.touch ((Touch.refl Nil wr).alloc _) (by simp [Nil])).touch hb' (by simp [Nil]), (T.out.alloc _).trans (hb'.mono (by simp [Nil])), KK.out.skip y hy.out hq⟩
        | false =>
          rw [hq] at hcall
          go_wp2_with (first
            | (go_at_fn fn; refine hcall.mono ?_; rintro e w2 ⟨rfl, hb'⟩
               have hL2 : Aside (LRow 26 w2 g o cap k) := (L.out.touch ((Touch.refl Nil wr).alloc _) (by simp [Nil])).touch hb' (by simp [Nil])
               have hth : w2.there g (o + i * 6) (#[.int .i64 y.pc, .int .i64 y.pg, .int .i64 y.fr, .bool y.wr, .bool y.us, .bool y.gl] : Array Value).size := hL2.out.there (i * 6) 6 (by omega)
               obtain ⟨b0, b1, b2, b3, b4, b5⟩ := box6 hb')
            | (refine wpList_store_mid rfl 26 _ _ rfl g (o + i * 6) #[.int .i64 y.pc, .int .i64 y.pg, .int .i64 y.fr, .bool y.wr, .bool y.us, .bool y.gl] (by rfl) (by rfl) (by exact hth) (by kernel_rfl) (by kernel_rfl) ?_))
          go_roundg (l.length - (j + 1))
          case measure => omega
          case rel => exact ⟨i + 1, j + 1, k.set i y, by go_num, by go_num, by omega, by omega, hL2.out.set (by rw [KK.out.len]; omega) y, ((T.out.alloc _).trans (hb'.mono (by simp [Nil]))).setCells rfl _ _, KK.out.keep y hy.out hq⟩
      · obtain rfl : j = l.length := by omega
        have hltz : ¬ (l.length : Int) < (l.length : Int) := by omega
        have hil : (i : Int) ≤ (l.length : Int) := by omega
        have hic : i ≤ cap := by omega
        have hlow := KK.out.low
        rw [List.take_length] at hlow
        have hl2 : i = (drops p l).length := by rw [← hlow, List.length_take, KK.out.len]; omega
        obtain ⟨zs, hcl⟩ := run_clear6 (P := Try.prog) wr 32 26 0 (by kernel_rfl) (fun _ => rfl) g (o + i * 6) (l.length - i) (cap - i) (L.out.there (i * 6) ((l.length - i) * 6) (by omega))
        have hfin : Aside (LRow 26 (wr.setCells g (o + i * 6) zs) g o cap (drops p l)) := by
          have := (L.out.take i).behind i (by rw [List.length_take]; omega) zs
          rwa [hlow] at this
        have hTf : Aside (Touch (· = g) w (wr.setCells g (o + i * 6) zs)) := T.out.setCells rfl _ _
        have hl3 : Aside (i = (drops p l).length) := hl2
        clear hl2 hlow L T KK hp
        go_wp2
        go_ret
        rw [← hl3.out]
        exact ⟨rfl, hfin.out, hTf.out⟩
  · have hf : fidx p l = -1 := if_neg ha
    have hd : drops p l = l := by
      unfold drops
      rw [List.filter_eq_self]
      intro y hy
      cases hq : p y with
      | false => rfl
      | true => exact absurd (List.any_eq_true.2 ⟨y, hy, hq⟩) ha
    rw [hf] at hidx
    rw [hd]
    go_enter Try.func35, Try.ntmps35
    go_wp2_with (go_at_call 27; refine hidx.mono ?_; rintro e w1 ⟨rfl, hT1⟩)
    go_ret
    exact ⟨rfl, h.touch hT1 (by simp [Nil]), hT1.mono (by simp [Nil])⟩

set_option maxHeartbeats 1000000 in
theorem deletef_nil {w : World} (fv : Value) :
    Calls Try.prog 35 #[.slice none 0 0, fv] w fun e w' => e = .returned (.slice none 0 0) ∧ w = w' := by
  go_enter Try.func35, Try.ntmps35
  go_wp2_with (go_at_call 27; refine (indexf_nil _).mono ?_; rintro e w1 ⟨rfl, rfl⟩)
  go_ret
  exact ⟨rfl, rfl⟩
end Go.Proofs.Ytleeodpnamnnfaa
