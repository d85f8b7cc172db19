/-
  Lists of lines as the document's own caches keep them: a slice each, never written into.
-/
import Derived.Test.YtjfdjlinjghddaaOwnL
import Derived.Deep.AppendLies
import Derived.Deep.Upon
namespace Go.Proofs.Ytjfdjlinjghddaa
open Go.ChangeShapes Go.WideShapes Go.ChangeAt Go.RowKit

/-- Where a slice's numbers lie. -/
def At (w : World) (lo : Nat) (a : Option Addr) (l : List Int) : Prop :=
  l = [] ∨ ∃ b o n f, a = some ⟨b, o, none⟩ ∧ lo ≤ b ∧ rowHas w b 3 n f ∧ o + l.length ≤ n ∧ ∀ i, i < l.length → f (o + i) = .int .i64 (l.getD i 0)
def Lst (w : World) (lo : Nat) (v : Value) (l : List Int) : Prop :=
  ∃ a cap, v = .slice a l.length cap ∧ l.length ≤ cap ∧ cap ≤ maxLen ∧ At w lo a l

theorem At.touch {w w' : World} {lo : Nat} {a : Option Addr} {l : List Int} {S : Nat → Prop} (h : At w lo a l) (t : Touch S w w') (hs : ∀ b n f, lo ≤ b → rowHas w b 3 n f → ¬ S b) : At w' lo a l := by
  rcases h with h | ⟨b, o, n, f, h1, h2, h3, h4, h5⟩
  · exact Or.inl h
  · exact Or.inr ⟨b, o, n, f, h1, h2, h3.touch t (hs b n f h2 h3), h4, h5⟩
theorem Lst.touch {w w' : World} {lo : Nat} {v : Value} {l : List Int} {S : Nat → Prop} (h : Lst w lo v l) (t : Touch S w w') (hs : ∀ b n f, lo ≤ b → rowHas w b 3 n f → ¬ S b) : Lst w' lo v l := by
  obtain ⟨a, cap, h1, h2, h3, h4⟩ := h
  exact ⟨a, cap, h1, h2, h3, h4.touch t hs⟩
theorem Lst.nil (w : World) (lo : Nat) : Lst w lo (.slice none 0 0) [] := ⟨none, 0, rfl, Nat.le_refl _, Nat.zero_le _, Or.inl rfl⟩
theorem At.mono {w : World} {lo lo' : Nat} {a : Option Addr} {l : List Int} (h : At w lo a l) (hl : lo' ≤ lo) : At w lo' a l := by
  rcases h with h | ⟨b, o, n, f, h1, h2, h3, h4, h5⟩
  · exact Or.inl h
  · exact Or.inr ⟨b, o, n, f, h1, by omega, h3, h4, h5⟩
theorem Lst.mono {w : World} {lo lo' : Nat} {v : Value} {l : List Int} (h : Lst w lo v l) (hl : lo' ≤ lo) : Lst w lo' v l := by
  obtain ⟨a, cap, h1, h2, h3, h4⟩ := h
  exact ⟨a, cap, h1, h2, h3, h4.mono hl⟩
theorem At.cells {w : World} {lo : Nat} {a : Option Addr} {l : List Int} (h : At w lo a l) : l = [] ∨ ∃ b o, a = some ⟨b, o, none⟩ ∧ b < w.heap.size ∧ ∀ i, i < l.length → w.cell? ⟨b, o + i, none⟩ = some (.int .i64 (l.getD i 0)) := by
  rcases h with h | ⟨b, o, n, f, h1, h2, h3, h4, h5⟩
  · exact Or.inl h
  · exact Or.inr ⟨b, o, h1, h3.lt, fun i hi => by rw [h3.cell (by omega), h5 i hi]⟩
theorem At.ints {w : World} {lo : Nat} {a : Option Addr} {l : List Int} (h : At w lo a l) : Ints w a l.length (fun i => l.getD i 0) := by
  rcases h.cells with h | ⟨b, o, h1, h2, h3⟩
  · exact Or.inl (by rw [h]; rfl)
  · exact Or.inr ⟨b, o, h1, h2, h3⟩

/-- A row of the call's own is such a list. -/
theorem own_lst {w : World} {base : Nat} {v : Value} {l : List Int} (h : w.ownsRow base 3 1 v l.length (ilist l)) : Lst w base v l := by
  obtain ⟨h1, h2⟩ := h
  rcases h2 with ⟨rfl, h3⟩ | ⟨g, cap, cur, rfl, h3, h4, h5, h6, h7, h8⟩
  · obtain rfl : l = [] := List.eq_nil_of_length_eq_zero h3
    exact Lst.nil w base
  · refine ⟨_, cap, rfl, h5, h6, ?_⟩
    by_cases hl : l = []
    · exact Or.inl hl
    · refine Or.inr ⟨g, 0, l.length, fun i => .int .i64 (l.getD i 0), rfl, h3, ?_, by omega, fun i hi => by rw [Nat.zero_add]⟩
      refine ⟨cur.size, fun i => (cur[i]?).getD (.int .i64 0), by omega, ⟨cur, h4, rfl, fun i hi => by simp [hi]⟩, fun i hi => ?_⟩
      have e1 := ilist_get l hi
      rw [← h8, List.getElem?_take, if_pos (by omega)] at e1
      simp only [Array.getElem?_toList] at e1
      show (cur[i]?).getD _ = _
      rw [e1]; rfl

/-- What is appended to a row of the call's own. -/
theorem iappend {W : World} {base : Nat} {v : Value} {l : List Int} (hown : W.ownsRow base 3 1 v l.length (ilist l)) {a : Option Addr} {m : List Int} (hm : m = [] ∨ ∃ b o, a = some ⟨b, o, none⟩ ∧ ∀ i, i < m.length → W.cell? ⟨b, o + i, none⟩ = some (.int .i64 (m.getD i 0))) (hbase : base ≤ W.heap.size) (few : l.length + m.length ≤ 64) (cap : Nat) :
    ∃ v' W', (Builtin.append_ #[24, 24] 24 #[v, .slice a m.length cap]).run Try.prog W = .ok v' W' ∧ W'.ownsRow base 3 1 v' (l ++ m).length (ilist (l ++ m)) ∧ W.grownBy W' v.ownBlock := by
  obtain ⟨i0, hi, hz0, hz1, hz2⟩ : ∃ i, Try.prog.info? 3 = some i ∧ i.zero = some (.int .i64 0) ∧ i.size = 1 ∧ i.bytes = 8 := ⟨_, rfl, rfl, rfl, rfl⟩
  have ht : Try.prog.underlying 24 = some (.slice 3) := by kernel_rfl
  rcases hm with rfl | ⟨b, o, rfl, hc⟩
  · have hs : Src Try.prog i0.size 24 (.slice a ([] : List Int).length cap) 0 [] W := by
      cases a with
      | none => exact Src.ofNil W ht cap
      | some ad => exact Src.ofSlice W ht ad 0 cap [] (by simp) (fun j u hu => by simp at hu) (fun u hu => by cases hu)
    obtain ⟨h1, h2⟩ := hown
    rcases h2 with ⟨rfl, h3⟩ | ⟨g, cp, cur, rfl, h3, h4, h5, h6, h7, h8⟩
    · refine ⟨_, _, run_append_nothing W 24 24 24 3 i0 ht hi none 0 0 (Nat.le_refl _) _ hs, ?_, ?_⟩
      · rw [List.append_nil]; exact ⟨h1, Or.inl ⟨rfl, h3⟩⟩
      · exact ⟨rfl, rfl, rfl, Nat.le_refl _, fun _ _ _ => rfl⟩
    · refine ⟨_, _, run_append_nothing W 24 24 24 3 i0 ht hi (some ⟨g, 0, none⟩) l.length cp h5 _ hs, ?_, ?_⟩
      · rw [List.append_nil]; exact ⟨h1, Or.inr ⟨g, cp, cur, rfl, h3, h4, h5, h6, h7, h8⟩⟩
      · exact ⟨rfl, rfl, rfl, Nat.le_refl _, fun _ _ _ => rfl⟩
  · obtain ⟨v', W', hr, h2, h3, _⟩ := run_append_own (P := Try.prog) W base 24 24 3 i0 (.int .i64 0) 1 8 ht hi hz0 hz1 hz2 rfl (by decide) v l.length (ilist l) hown ⟨b, o, none⟩ m.length cap (ilist m) (by rw [ilist_len]; omega)
      (fun j u hu => by
        have hj : j < m.length := by
          have := (List.getElem?_eq_some_iff.1 hu).1; rwa [ilist_len] at this
        rw [ilist_get m hj] at hu
        rw [Addr.add_mid, hc j hj, hu])
      (fun u hu => by simp [ilist] at hu; obtain ⟨x, _, rfl⟩ := hu; rfl) (by unfold maxLen; omega) (by omega) hbase
    refine ⟨v', W', hr, ?_, h3⟩
    rw [List.length_append, show ilist (l ++ m) = ilist l ++ ilist m by simp [ilist]]
    exact h2

set_option maxHeartbeats 1000000 in
theorem rhas_any4 {w : World} {lo : Nat} {a : Option Addr} {l : List Int} (h : At w lo a l) (hn : l.length ≤ 64) (cap : Nat) (x : Int) :
    Calls Try.prog 38 #[.slice a l.length cap, .int .i64 x] w fun e w' => e = .returned (.int .i64 (pl l x)) ∧ w = w' := by
  by_cases hm : x ∈ l
  · have hlt := List.idxOf_lt_length_of_mem hm
    have hget : l.getD (l.idxOf x) 0 = x := by
      rw [List.getD_eq_getElem?_getD, List.getElem?_eq_getElem hlt]; simp
    have hbef : ∀ j, j < l.idxOf x → l.getD j 0 ≠ x := fun j hj e => by
      have hj' : j < l.length := by omega
      rw [List.getD_eq_getElem?_getD, List.getElem?_eq_getElem hj'] at e
      have := List.not_of_lt_findIdx (xs := l) (p := (· == x)) hj
      simp at e this
      exact this e
    rw [pl_yes hm]
    generalize l.idxOf x = i at *
    rcases h.cells with rfl | ⟨b, o, rfl, hb, hc⟩
    · simp at hlt
    go_enter Try.func38, Try.ntmps38
    go_wp2
    go_loop [9] (fun v => ∃ k : Nat, k ≤ i ∧ v = .int .i64 k) (fun v => l.length - (intOf v).toNat)
    case atStart => exact ⟨0, by omega, rfl⟩
    case round =>
      obtain ⟨k, hk, rfl⟩ := hrel
      have k1 : (k : Int) < l.length := by omega
      have q := hc k (by omega)
      clear hc
      by_cases hki : k < i
      · have e : (l.getD k 0 == x) = false := by simpa using hbef k hki
        generalize l.getD k 0 = y at q e
        go_wp2
        go_round
        case rel => exact ⟨k + 1, by omega, by go_num⟩
        case measure => simp [intOf]; omega
      · have hki2 : k = i := by omega
        subst hki2
        rw [hget] at q
        clear hget hbef
        go_wp2
        go_ret
        exact ⟨rfl, rfl⟩
  · rw [pl_no hm]
    have hbef : ∀ j, j < l.length → l.getD j 0 ≠ x := fun j hj e => by
      rw [List.getD_eq_getElem?_getD, List.getElem?_eq_getElem hj] at e
      simp at e
      exact hm (e ▸ List.getElem_mem hj)
    have hc' := h.cells
    go_enter Try.func38, Try.ntmps38
    go_wp2
    go_loop [9] (fun v => ∃ k : Nat, k ≤ l.length ∧ v = .int .i64 k) (fun v => l.length - (intOf v).toNat)
    case atStart => exact ⟨0, by omega, rfl⟩
    case round =>
      obtain ⟨k, hk, rfl⟩ := hrel
      by_cases hki : k < l.length
      · rcases hc' with rfl | ⟨b, o, rfl, hb, hc⟩
        · simp at hki
        have k1 : (k : Int) < l.length := by omega
        have q := hc k (by omega)
        clear hc
        have e : (l.getD k 0 == x) = false := by simpa using hbef k hki
        generalize l.getD k 0 = y at q e
        go_wp2
        go_round
        case rel => exact ⟨k + 1, by omega, by go_num⟩
        case measure => simp [intOf]; omega
      · have hki2 : k = l.length := by omega
        subst hki2
        go_wp2
        go_ret
        exact ⟨rfl, rfl⟩

/-- A list without its first ones. -/
theorem At.drop {w : World} {lo : Nat} {g n : Nat} {l : List Int} (h : At w lo (some ⟨g, 0, none⟩) l) (d : Nat) (hn : n = d) : At w lo (some ⟨g, n, none⟩) (l.drop d) := by
  subst hn
  by_cases hd : l.length ≤ n
  · exact Or.inl (List.drop_eq_nil_of_le hd)
  · rcases h with h | ⟨b, o, m, f, h1, h2, h3, h4, h5⟩
    · subst h; simp at hd
    · cases h1
      refine Or.inr ⟨g, n, m, f, rfl, h2, h3, by simp; omega, fun i hi => ?_⟩
      have hi' : n + i < l.length := by simp at hi; omega
      have := h5 (n + i) hi'
      rw [Nat.zero_add] at this
      rw [this, List.getD_eq_getElem?_getD, List.getD_eq_getElem?_getD, List.getElem?_drop]

set_option maxRecDepth 10000 in
set_option maxHeartbeats 1000000 in
theorem rput_any {w : World} {lo : Nat} {a : Option Addr} {l : List Int} {cap : Nat} (h : At w lo a l) (h1 : l.length ≤ cap) (h2 : cap ≤ maxLen) (hlo : lo ≤ w.heap.size) (x : Int) (V : Nat) (hV : V = 2 ∨ V = 4) (hl : l.length ≤ V) :
    Calls Try.prog 33 #[.slice a l.length cap, .int .i64 x, .int .i64 V] w fun e w' => ∃ v, e = .returned v ∧ Lst w' lo v (sput l x V) ∧ Touch Nil w w' := by
  by_cases hm : x ∈ l
  · have hp := pl_nn l x
    rw [decide_eq_true hm] at hp
    have hp2 : 0 ≤ pl l x := of_decide_eq_true hp
    have hs : sput l x V = l := if_pos hm
    rw [hs]
    have hh := rhas_any4 h (by omega) cap x
    generalize pl l x = y at *
    go_enter Try.func33, Try.ntmps33
    go_wp2_with (go_at_call 38; refine hh.mono ?_; rintro e wq ⟨rfl, rfl⟩)
    go_ret
    exact ⟨_, rfl, ⟨a, cap, rfl, h1, h2, h⟩, Touch.refl _ _⟩
  · have hs : sput l x V = (l ++ [x]).drop (l.length + 1 - V) := if_neg hm
    have hh := rhas_any4 h (by omega) cap x
    rw [pl_no hm] at hh
    obtain ⟨v1, W1, hr1, own1, g1⟩ := iappend (World.ownsRow_nil w w.heap.size 3 1) (l := []) (m := l) (a := a) (by rcases h.cells with h | ⟨b, o, e1, _, e2⟩; exact Or.inl h; exact Or.inr ⟨b, o, e1, e2⟩) (Nat.le_refl _) (by simp; omega) cap
    have t1 : Touch Nil w W1 := ⟨g1.os, g1.tape, g1.output, g1.size, fun k hk _ => g1.block k hk (by simp [Value.ownBlock])⟩
    obtain ⟨v2, W2, hr2, own2, g2⟩ := iappend (own1.alloc (.cells #[.int .i64 x] 3)) (m := [x]) (a := some ⟨W1.heap.size, 0, none⟩) (Or.inr ⟨W1.heap.size, 0, rfl, fun i hi => by
      have : i = 0 := by simpa using hi
      subst this; simp⟩) (by have := t1.size; simp; omega) (by simp; omega) 1
    have t2 : Touch Nil w W2 := by
      have hlt := own1.lt
      refine ⟨g2.os.trans t1.os, g2.tape.trans t1.tape, g2.output.trans t1.output, by have := g2.size; have := t1.size; simp at *; omega, fun k hk _ => ?_⟩
      have hk1 : k < W1.heap.size := Nat.lt_of_lt_of_le hk t1.size
      rw [g2.block k (by simp; omega) (fun e => by have := hlt k e.symm; omega), Below.heap_alloc _ _ _ hk1]
      exact t1.block k hk id
    rw [List.nil_append] at own2
    have hL := own_lst own2
    obtain ⟨a2, cap2, hv2, k1, k2, hat⟩ := hL
    obtain ⟨g, rfl⟩ : ∃ g, a2 = some ⟨g, 0, none⟩ := by
      obtain ⟨_, hf⟩ := own2
      rcases hf with ⟨e, e2⟩ | ⟨g, cp, cur, e, _⟩
      · simp at e2
      · rw [hv2] at e; cases e; exact ⟨g, rfl⟩
    subst hv2
    have hlen : (l ++ [x]).length = l.length + 1 := by simp
    rw [hlen] at hr2 k1
    rw [hlen] at own2
    obtain ⟨d, hd⟩ : ∃ d : Nat, l.length + 1 - V = d := ⟨_, rfl⟩
    rw [hs, hd]
    have hmx : max ((l.length : Int) + 1 - V) 0 = (d : Int) := by omega
    have hdl : (d : Int) ≤ (l.length : Int) + 1 := by omega
    have hdc : ¬ (cap2 = d) := by omega
    have hfin := hat.drop d rfl
    have hb : w.heap.size ≤ W2.heap.size := t2.size
    unfold maxLen at k2
    go_enter Try.func33, Try.ntmps33
    go_wp2_with (first
      | (go_at_call 38; refine hh.mono ?_; rintro e wq ⟨rfl, rfl⟩)
      | (refine Lib.wpList_append_run_sl _ rfl _ _ 24 rfl _ _ rfl rfl hr1 ?_)
      | (refine Lib.wpList_append_run_sl _ rfl _ _ 24 rfl _ _ rfl rfl hr2 ?_))
    go_ret
    refine ⟨_, rfl, ⟨some ⟨g, d, none⟩, cap2 - d, ?_, ?_, ?_, hfin.mono hlo⟩, t2⟩
    · show Value.slice _ (l.length + 1 - d) _ = _
      rw [List.length_drop, hlen]
    · rw [List.length_drop, hlen]; omega
    · unfold maxLen; omega

/-- An append whose run is known, as one step of a region that draws. -/
theorem step_append_run {P : Program} {ops : Array Oper} {oo : Oper} {a : Act} {w : World} {K : Act → World → Prop} {Q : Exit → Act → World → Prop} {E : Prop} (hgd : oo.guard = none) (s x : Operand) (t : TypeId)
    (ho : oo.op = .call { callee := .builtin .append, args := #[s, x], argTypes := #[t, t] }) (va vb : Value) (hs : a.eval s = va) (hx : a.eval x = vb) (ty : TypeId) (hty : oo.type = ty) {v' : Value} {w' : World} (hrun : (Builtin.append_ #[t, t] ty #[va, vb]).run P w = .ok v' w')
    (h : K (a.put oo.dst v') w') : if Region.wanted oo (yielded ops a.tmps) = true then Oper.wp P oo a w K Q else E := by
  have hw : Region.wanted oo (yielded ops a.tmps) = true := by simp [Region.wanted, hgd]
  rw [if_pos hw]
  subst hty
  unfold Oper.wp
  simp [execOp, ho, resolve, invoke, builtin, hs, hx, hrun, Result.andThen]
  exact h

set_option maxRecDepth 10000 in
set_option maxHeartbeats 1000000 in
theorem rcut_any {w : World} {lo : Nat} {a : Option Addr} {l : List Int} {cap : Nat} (h : At w lo a l) (h1 : l.length ≤ cap) (h2 : cap ≤ maxLen) (hlo : lo ≤ w.heap.size) (x : Int) (hl : l.length ≤ 4) :
    Calls Try.prog 34 #[.slice a l.length cap, .int .i64 x] w fun e w' => ∃ v, e = .returned (.tuple #[v, .bool (decide (x ∈ l))]) ∧ Lst w' lo v (l.erase x) ∧ Touch Nil w w' := by
  have hh := rhas_any4 h (by omega) cap x
  by_cases hm : x ∈ l
  · rw [pl_yes hm] at hh
    rw [decide_eq_true hm]
    have hlt := List.idxOf_lt_length_of_mem hm
    have her : l.erase x = l.take (l.idxOf x) ++ l.drop (l.idxOf x + 1) := by
      rw [List.erase_eq_eraseIdx_of_idxOf (i := l.idxOf x) rfl, List.eraseIdx_eq_take_drop_succ]
    rw [her]
    clear her hm
    generalize l.idxOf x = i at *
    rcases h.cells with rfl | ⟨b, o, rfl, hb, hc⟩
    · simp at hlt
    obtain ⟨v1, W1, hr1, own1, g1⟩ := iappend (W := w.drew) (World.ownsRow_nil w.drew w.heap.size 3 1) (l := []) (m := l.take i) (a := some ⟨b, o, none⟩) (Or.inr ⟨b, o, rfl, fun j hj => by
      have hj' : j < i := by rw [List.length_take] at hj; omega
      have := hc j (by omega)
      rw [List.getD_eq_getElem?_getD, List.getElem?_take, if_pos hj', ← List.getD_eq_getElem?_getD]
      exact this⟩) (Nat.le_refl _) (by simp; omega) cap
    have t1 : Touch Nil w W1 := ⟨g1.os, g1.tape, g1.output, g1.size, fun k hk _ => g1.block k hk (by simp [Value.ownBlock])⟩
    rw [List.length_take, show min i l.length = i by omega] at hr1
    obtain ⟨v2, W2, hr2, own2, g2⟩ := iappend own1 (m := l.drop (i + 1)) (a := if cap = i + 1 then some ⟨b, o, none⟩ else some ⟨b, o + (i + 1), none⟩) (by
      by_cases hd : l.length ≤ i + 1
      · exact Or.inl (List.drop_eq_nil_of_le hd)
      · refine Or.inr ⟨b, o + (i + 1), if_neg (by omega), fun j hj => ?_⟩
        have hj' : i + 1 + j < l.length := by rw [List.length_drop] at hj; omega
        have := hc (i + 1 + j) hj'
        rw [List.getD_eq_getElem?_getD, List.getElem?_drop, ← List.getD_eq_getElem?_getD, ← this, show o + (i + 1) + j = o + (i + 1 + j) by omega]
        exact World.cell?_of_block (t1.block b hb id)) t1.size (by simp; omega) (cap - (i + 1))
    have t2 : Touch Nil w W2 := by
      have hlt := own1.lt
      refine ⟨g2.os.trans t1.os, g2.tape.trans t1.tape, g2.output.trans t1.output, Nat.le_trans t1.size g2.size, fun k hk _ => ?_⟩
      have hk1 : k < W1.heap.size := Nat.lt_of_lt_of_le hk t1.size
      rw [g2.block k hk1 (fun e => by have := hlt k e.symm; omega)]
      exact t1.block k hk id
    rw [List.nil_append] at own2
    have hL := own_lst own2
    rw [List.length_drop] at hr2
    have i1 : (i : Int) ≤ cap := by omega
    have i2 : (i : Int) + 1 ≤ l.length := by omega
    have i3 : 0 ≤ (i : Int) + 1 := by omega
    have i4 : IntKind.i64.wrap ((i : Int) + 1) = (i : Int) + 1 := by rw [IntKind.wrap_i64]; omega
    have i5 : ((i : Int) + 1).toNat = i + 1 := by omega
    clear own1 own2 hc
    unfold maxLen at h2
    go_enter Try.func34, Try.ntmps34
    go_wp2_with (go_at_call 38; refine hh.mono ?_; rintro e wq ⟨rfl, rfl⟩)
    go_region_law (first
      | (refine step_append_run (P := Try.prog) rfl (.const (.slice none 0 0)) (.tmp 15) 24 rfl (.slice none 0 0) (.slice (some ⟨b, o, none⟩) i cap) rfl (by simp [Act.eval, Act.put]) 24 rfl hr1 ?_)
      | (refine step_append_run (P := Try.prog) rfl (.tmp 16) (.tmp 20) 24 rfl v1 (.slice (if cap = i + 1 then some ⟨b, o, none⟩ else some ⟨b, o + (i + 1), none⟩) (l.length - (i + 1)) (cap - (i + 1))) (by simp [Act.eval]) (by simp [Act.eval]) 24 rfl hr2 ?_))
    go_wp2
    all_goals
      go_ret2
      exact ⟨v2, rfl, hL.mono hlo, t2⟩
  · rw [pl_no hm] at hh
    rw [List.erase_of_not_mem hm, decide_eq_false hm]
    go_enter Try.func34, Try.ntmps34
    go_wp2_with (go_at_call 38; refine hh.mono ?_; rintro e wq ⟨rfl, rfl⟩)
    go_ret2
    exact ⟨_, rfl, ⟨a, cap, rfl, h1, h2, h⟩, Touch.refl _ _⟩
end Go.Proofs.Ytjfdjlinjghddaa
