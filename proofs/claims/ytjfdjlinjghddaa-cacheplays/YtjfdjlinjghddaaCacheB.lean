/-
  A line comes into a store, and leaves it.
-/
import Derived.Test.YtjfdjlinjghddaaCacheA
import Derived.Test.YtjfdjlinjghddaaCopyL
namespace Go.Proofs.Ytjfdjlinjghddaa
open Go.ChangeShapes Go.WideShapes Go.ChangeAt Go.RowKit

theorem kV_in {V k i : Nat} (hV : 0 < V) (h1 : k * V ≤ i) (h2 : i < k * V + V) : i / V = k ∧ i % V = i - k * V := by
  obtain ⟨j, rfl⟩ : ∃ j, i = k * V + j := ⟨i - k * V, by omega⟩
  have hj : j < V := by omega
  constructor
  · rw [Nat.mul_comm, Nat.mul_add_div hV, Nat.div_eq_of_lt hj, Nat.add_zero]
  · rw [Nat.mul_comm, Nat.mul_add_mod, Nat.mod_eq_of_lt hj]; omega
theorem kV_out {V k i : Nat} (hV : 0 < V) (h : i < k * V ∨ k * V + V ≤ i) : i / V ≠ k := by
  intro e
  subst e
  have h1 := Nat.div_add_mod i V
  have h2 := Nat.mod_lt i hV
  rw [Nat.mul_comm] at h1
  omega

/-- The row of a store behind a turn of set k. -/
theorem row_turn {w : World} {c K V k : Nat} {S S' : Sets} {f : Nat → Value} (hV : 0 < V) (h : rowHas w c 3 (K * V) f) (h1 : ∀ j, j < V → f (k * V + j) = .int .i64 (wy (S' k) j))
    (h2 : ∀ i, i < K * V → (i < k * V ∨ k * V + V ≤ i) → f i = .int .i64 (tg S V i)) (h3 : ∀ i, i ≠ k → S' i = S i) : rowHas w c 3 (K * V) (fun i => .int .i64 (tg S' V i)) := by
  refine h.congr fun i hi => ?_
  by_cases hin : k * V ≤ i ∧ i < k * V + V
  · obtain ⟨e1, e2⟩ := kV_in hV hin.1 hin.2
    have := h1 (i - k * V) (by omega)
    rw [show k * V + (i - k * V) = i by omega] at this
    rw [this]; unfold tg; rw [e1, e2]
  · have hout : i < k * V ∨ k * V + V ≤ i := by omega
    rw [h2 i hi hout]
    unfold tg
    rw [h3 _ (kV_out hV hout)]

theorem SAt.V1 {w : World} {p o c cap K V : Nat} {S : Sets} (h : SAt w p o c cap K V S) : 2 ≤ V ∧ V ≤ 4 ∧ 4 ≤ K := by rcases h.kv with ⟨rfl, rfl⟩ | ⟨rfl, rfl⟩ <;> omega
theorem SAt.turn {w w' : World} {p o c cap K V : Nat} {S S' : Sets} (h : SAt w p o c cap K V S) (t : Touch (· = c) w w') (ok : SOK K V S') (hr : rowHas w' c 3 (K * V) (fun i => .int .i64 (tg S' V i))) : SAt w' p o c cap K V S' := by
  have hlt := World.block_lt_of_cell? w _ h.ways
  have hb : w'.heap[p]? = w.heap[p]? := t.block p hlt h.ne
  exact ⟨h.kv, ok, h.ne, h.cap1, h.cap2, (World.cell?_of_block hb).trans h.ways, (World.cell?_of_block hb).trans h.lines, hr⟩
theorem SAt.touch {A : Nat → Prop} {w w' : World} {p o c cap K V : Nat} {S : Sets} (h : SAt w p o c cap K V S) (t : Touch A w w') (hp : ¬ A p) (hc : ¬ A c) : SAt w' p o c cap K V S := by
  have hlt := World.block_lt_of_cell? w _ h.ways
  have hb : w'.heap[p]? = w.heap[p]? := t.block p hlt hp
  exact ⟨h.kv, h.ok, h.ne, h.cap1, h.cap2, (World.cell?_of_block hb).trans h.ways, (World.cell?_of_block hb).trans h.lines, h.row.touch t hc⟩

theorem wy_moved_put {l : List Int} {x : Int} (hm : x ∉ l) (V : Nat) (hl : l.length = V) {j : Nat} (hj : j < V) : (if j = V - 1 then x else if j < V - 1 then wy l (j + 1) else wy l j) = wy (sput l x V) j := by
  rw [wy_put_full hm V hl j hj]
  by_cases h1 : j + 1 < V
  · rw [if_neg (by omega), if_pos (by omega), if_pos h1]
  · rw [if_pos (by omega), if_neg h1]

set_option maxRecDepth 10000 in
set_option maxHeartbeats 1000000 in
theorem sadd_any {w : World} {p o c cap K V : Nat} {S : Sets} (h : SAt w p o c cap K V S) (x : Int) (h0 : 0 ≤ x) (hb : x < 9223372036854775808) :
    Calls Try.prog 28 #[.pointer (some ⟨p, o, none⟩), .int .i64 x] w fun e w' => e = .returned (.tuple #[]) ∧ SAt w' p o c cap K V (S.put K V x) ∧ Touch (· = c) w w' := by
  obtain ⟨hk, hV⟩ := h.set_lt x
  obtain ⟨v1, v2, v3⟩ := h.V1
  have hset := fun n => sset_any (h.drewN n) x h0
  have hat := sat_any h x hb
  have hav : atV S K x = pl (S (x % (K : Int)).toNat) x := if_pos h0
  rw [hav] at hat
  have hok := h.ok.put (by omega) x h0
  cases hh : S.has K x
  · have hm : x ∉ S (x % (K : Int)).toNat := by simpa [Sets.has] using hh
    have hS : ∀ i, i ≠ (x % (K : Int)).toNat → S.put K V x i = S i := fun i hi => if_neg hi
    have hSk : S.put K V x (x % (K : Int)).toNat = sput (S (x % (K : Int)).toNat) x V := if_pos rfl
    rw [pl_no hm] at hat
    have hlen := h.ok.len (x % (K : Int)).toNat
    have hnn := h.ok.nn (x % (K : Int)).toNat
    clear hav hh
    generalize S.put K V x = S' at *
    generalize (x % (K : Int)).toNat = k at *
    have hkV : k * V + V ≤ K * V := by
      have : (k + 1) * V ≤ K * V := Nat.mul_le_mul_right _ hk
      rw [Nat.add_mul, Nat.one_mul] at this; omega
    by_cases hfull : (S k).length < V
    · have i1 : wy (S k) (S k).length = -1 := (wy_nn hnn _).2 (Nat.le_refl _)
      have i2 : ∀ j, j < (S k).length → wy (S k) j ≠ -1 := fun j hj e => by have := (wy_nn hnn _).1 e; omega
      have hidx := fun n (cp : Nat) => sindex_at (cap := cp) hV ((h.drewN n).cells hk) (-1) _ hfull i1 i2
      have hput := fun j => wy_put_room hm V hfull j
      clear i1 i2
      generalize hL : (S k).length = L at *
      have hf2 : (L : Int) < V := by omega
      have hcell := h.row.cell (i := k * V + L) (by omega)
      have hfz := h.row.frozen (k * V + L)
      go_enter Try.func28, Try.ntmps28
      go_wp2_with (first
        | (go_at_call 30; refine hat.mono ?_; rintro e wq ⟨rfl, nq, rfl⟩)
        | (go_at_call 39; refine (hset _).mono ?_; rintro e wq ⟨rfl, nq2, rfl⟩)
        | (go_at_call 40; refine (hidx _ _).mono ?_; rintro e wq ⟨rfl, rfl⟩))
      go_end0
      have hT : Touch (· = c) w ((w.drewN (nq + nq2)).setCell ⟨c, k * V + L, none⟩ (.int .i64 x)) := ((Touch.refl (· = c) w).drews _).setCell (p := ⟨c, k * V + L, none⟩) rfl _
      refine ⟨rfl, h.turn hT hok ?_, hT⟩
      refine row_turn (k := k) (S := S) (by omega) ((h.drewN (nq + nq2)).row.set (k * V + L) (.int .i64 x)) (fun j hj => ?_) (fun i hi ho => ?_) hS
      · rw [hSk, hput j]
        by_cases e : j = L
        · rw [if_pos (by omega), if_pos e]
        · rw [if_neg (by omega), if_neg e]
          obtain ⟨e1, e2⟩ := kV_in (V := V) (k := k) (i := k * V + j) (by omega) (by omega) (by omega)
          unfold tg; rw [e1, e2, Nat.add_sub_cancel_left]
      · rw [if_neg (by omega)]
    · have hL : (S k).length = V := by omega
      have i2 : ∀ j, j < V → wy (S k) j ≠ -1 := fun j hj e => by have := (wy_nn hnn _).1 e; omega
      have hidx := fun n (cp : Nat) => sindex_none (cap := cp) hV ((h.drewN n).cells hk) (-1) i2
      clear i2
      have w1 : (V : Int) - 1 < V := by omega
      have w2 : 0 ≤ (V : Int) - 1 := by omega
      have hw := h.ways
      have hlt := World.block_lt_of_cell? w _ h.ways
      have c1 := h.cap1
      have c2 := h.cap2
      unfold maxLen at c2
      have w3 : (1 : Int) ≤ V := by omega
      have w4 : k * V + 1 ≤ cap := by omega
      go_enter Try.func28, Try.ntmps28
      go_wp2_with (first
        | (go_at_call 30; refine hat.mono ?_; rintro e wq ⟨rfl, nq, rfl⟩)
        | (go_at_call 39; refine (hset _).mono ?_; rintro e wq ⟨rfl, nq2, rfl⟩)
        | (go_at_call 40; refine (hidx _ _).mono ?_; rintro e wq ⟨rfl, rfl⟩))
      obtain ⟨w5, hrun, hr5, ht5⟩ := run_copy_has (P := Try.prog) (w := w.drewN (nq + nq2)) 24 24 3 3 (by kernel_rfl) (by kernel_rfl) c (k * V) (k * V + 1) V (cap - k * V) (V - 1) (cap - k * V - 1) (some ⟨c, k * V, none⟩) (some ⟨c, k * V + 1, none⟩) (m := V - 1) (h.drewN _).row (by show _ = min _ _; omega) (fun _ => ⟨rfl, rfl⟩) (by omega) (by omega) (fun _ => rfl)
      simp only [hrun, Result.andThen]
      have hcell := hr5.cell (i := k * V + (V - 1)) (by omega)
      have hfz := hr5.frozen (k * V + (V - 1))
      have w6 : ((V : Int) - 1).toNat = V - 1 := by omega
      clear hrun
      go_wp2
      go_end0
      have hT0 : Touch (· = c) w w5 := ((Touch.refl (· = c) w).drews _).trans ht5
      have hT : Touch (· = c) w (w5.setCell ⟨c, k * V + (V - 1), none⟩ (.int .i64 x)) := hT0.setCell (p := ⟨c, k * V + (V - 1), none⟩) rfl _
      refine ⟨rfl, h.turn hT hok ?_, hT⟩
      refine row_turn (k := k) (S := S) (by omega) (hr5.set (k * V + (V - 1)) (.int .i64 x)) (fun j hj => ?_) (fun i hi ho => ?_) hS
      · rw [hSk, ← wy_moved_put hm V hL hj]
        unfold moved
        by_cases e : j = V - 1
        · rw [if_pos (by omega), if_pos e]
        · rw [if_neg (by omega), if_neg e, if_pos (by omega), if_pos (by omega)]
          obtain ⟨e1, e2⟩ := kV_in (V := V) (k := k) (i := k * V + 1 + (k * V + j - k * V)) (by omega) (by omega) (by omega)
          show Value.int .i64 (wy (S (_ / V)) (_ % V)) = _; rw [e1, e2, show k * V + 1 + (k * V + j - k * V) - k * V = j + 1 by omega]
      · unfold moved
        rw [if_neg (by omega), if_neg (by omega)]
  · have hm : x ∈ S (x % (K : Int)).toNat := by simpa [Sets.has] using hh
    have hp := pl_nn (S (x % (K : Int)).toNat) x
    rw [decide_eq_true hm] at hp
    have hp2 : 0 ≤ pl (S (x % (K : Int)).toNat) x := of_decide_eq_true hp
    rw [Sets.put_has hh]
    generalize pl (S (x % (K : Int)).toNat) x = y at *
    clear hav hset
    go_enter Try.func28, Try.ntmps28
    go_wp2_with (go_at_call 30; refine hat.mono ?_; rintro e wq ⟨rfl, nq, rfl⟩)
    refine bodyPost_ret (results_none rfl _ _ _) rfl ?_
    exact ⟨rfl, h.drewN nq, (Touch.refl _ _).drews _⟩

set_option maxRecDepth 10000 in
set_option maxHeartbeats 1000000 in
theorem sdrop_any {w : World} {p o c cap K V : Nat} {S : Sets} (h : SAt w p o c cap K V S) (x : Int) (hb : x < 9223372036854775808) :
    Calls Try.prog 31 #[.pointer (some ⟨p, o, none⟩), .int .i64 x] w fun e w' => e = .returned (.bool (decide (0 ≤ x) && S.has K x)) ∧ SAt w' p o c cap K V (if 0 ≤ x then S.cut K x else S) ∧ Touch (· = c) w w' := by
  have hat := sat_any h x hb
  by_cases h0 : 0 ≤ x
  · rw [if_pos h0, decide_eq_true h0, Bool.true_and]
    obtain ⟨hk, hV⟩ := h.set_lt x
    obtain ⟨v1, v2, v3⟩ := h.V1
    have hset := fun n => sset_any (h.drewN n) x h0
    have hav : atV S K x = pl (S (x % (K : Int)).toNat) x := if_pos h0
    rw [hav] at hat
    have hok := h.ok.cut x
    cases hh : S.has K x
    · have hm : x ∉ S (x % (K : Int)).toNat := by simpa [Sets.has] using hh
      rw [Sets.cut_none hh]
      rw [pl_no hm] at hat
      clear hav hset
      go_enter Try.func31, Try.ntmps31
      go_wp2_with (go_at_call 30; refine hat.mono ?_; rintro e wq ⟨rfl, nq, rfl⟩)
      go_ret
      exact ⟨rfl, h.drewN nq, (Touch.refl _ _).drews _⟩
    · have hm : x ∈ S (x % (K : Int)).toNat := by simpa [Sets.has] using hh
      have hS : ∀ i, i ≠ (x % (K : Int)).toNat → S.cut K x i = S i := fun i hi => if_neg hi
      have hSk : S.cut K x (x % (K : Int)).toNat = (S (x % (K : Int)).toNat).erase x := if_pos rfl
      rw [pl_yes hm] at hat
      have hlen := h.ok.len (x % (K : Int)).toNat
      have hcut := fun j => wy_erase hm V hlen j
      have hix := List.idxOf_lt_length_of_mem hm
      clear hav hh hm
      generalize S.cut K x = S' at *
      generalize (x % (K : Int)).toNat = k at *
      generalize List.idxOf x (S k) = i at *
      have hkV : k * V + V ≤ K * V := by
        have : (k + 1) * V ≤ K * V := Nat.mul_le_mul_right _ hk
        rw [Nat.add_mul, Nat.one_mul] at this; omega
      have hw := h.ways
      have c1 := h.cap1
      have c2 := h.cap2
      unfold maxLen at c2
      have w1 : (V : Int) - 1 < V := by omega
      have w2 : 0 ≤ (V : Int) - 1 := by omega
      have i1 : (i : Int) ≤ V := by omega
      have i2 : (i : Int) + 1 ≤ V := by omega
      have i3 : 0 ≤ (i : Int) + 1 := by omega
      have i4 : IntKind.i64.wrap ((i : Int) + 1) = (i : Int) + 1 := by rw [IntKind.wrap_i64]; omega
      have i5 : ((i : Int) + 1).toNat = i + 1 := by omega
      have i6 : ¬ (cap - k * V = i) := by omega
      go_enter Try.func31, Try.ntmps31
      go_wp2_with (first
        | (go_at_call 30; refine hat.mono ?_; rintro e wq ⟨rfl, nq, rfl⟩)
        | (go_at_call 39; refine (hset _).mono ?_; rintro e wq ⟨rfl, nq2, rfl⟩))
      go_region_law (refine step_copy_has (P := Try.prog) rfl (.tmp 17) (.tmp 21) 24 24 rfl 3 (by kernel_rfl) (by kernel_rfl) (some ⟨c, k * V + i, none⟩) (if cap - k * V = i + 1 then some ⟨c, k * V, none⟩ else some ⟨c, k * V + (i + 1), none⟩) (V - i) (cap - k * V - i) (V - (i + 1)) (cap - k * V - (i + 1)) (by simp [Act.eval, Act.put]) (by simp [Act.eval, Act.put]) c (k * V + i) (k * V + (i + 1)) (m := V - (i + 1)) (by exact (h.drewN (nq + nq2 + 1)).row) (by show _ = min _ _; omega) (fun _ => ⟨rfl, if_neg (by omega)⟩) (by omega) (by omega) (fun _ => rfl) ?_; intro w5 hr5 ht5)
      have hT0 : Touch (· = c) w w5 := ((Touch.refl (· = c) w).drews (nq + nq2 + 1)).trans ht5
      have hbl : w5.heap[p]? = w.heap[p]? := hT0.block p (World.block_lt_of_cell? w _ h.ways) h.ne
      have hw5 : w5.cell? ⟨p, o, none⟩ = some (.int .i64 V) := (World.cell?_of_block hbl).trans hw
      have hcell := hr5.cell (i := k * V + (V - 1)) (by omega)
      have hfz := hr5.frozen (k * V + (V - 1))
      have w6 : ((V : Int) - 1).toNat = V - 1 := by omega
      clear hbl
      have hT : Touch (· = c) w (w5.setCell ⟨c, k * V + (V - 1), none⟩ (.int .i64 (-1))) := hT0.setCell (p := ⟨c, k * V + (V - 1), none⟩) rfl _
      have hfin : SAt (w5.setCell ⟨c, k * V + (V - 1), none⟩ (.int .i64 (-1))) p o c cap K V S' := by
       refine h.turn hT hok ?_
       refine row_turn (k := k) (S := S) (by omega) (hr5.set (k * V + (V - 1)) (.int .i64 (-1))) (fun j hj => ?_) (fun i hi ho => ?_) hS
       · rw [hSk, hcut j hj]
         unfold moved
         by_cases e : j = V - 1
         · rw [if_pos (by omega), if_neg (by omega), if_neg (by omega)]
         · rw [if_neg (by omega)]
           by_cases e3 : j < i
           · rw [if_neg (by omega), if_pos e3]
             obtain ⟨e1, e2⟩ := kV_in (V := V) (k := k) (i := k * V + j) (by omega) (by omega) (by omega)
             show Value.int .i64 (wy (S (_ / V)) (_ % V)) = _; rw [e1, e2, Nat.add_sub_cancel_left]
           · rw [if_pos (by omega), if_neg e3, if_pos (by omega)]
             obtain ⟨e1, e2⟩ := kV_in (V := V) (k := k) (i := k * V + (i + 1) + (k * V + j - (k * V + i))) (by omega) (by omega) (by omega)
             show Value.int .i64 (wy (S (_ / V)) (_ % V)) = _; rw [e1, e2, show k * V + (i + 1) + (k * V + j - (k * V + i)) - k * V = j + 1 by omega]
       · unfold moved
         rw [if_neg (by omega), if_neg (by omega)]
      go_wp2
      all_goals
        go_ret
        exact ⟨rfl, hfin, hT⟩
  · rw [if_neg h0, decide_eq_false h0, Bool.false_and]
    have hav : atV S K x = -1 := if_neg h0
    rw [hav] at hat
    go_enter Try.func31, Try.ntmps31
    go_wp2_with (go_at_call 30; refine hat.mono ?_; rintro e wq ⟨rfl, nq, rfl⟩)
    go_ret
    exact ⟨rfl, h.drewN nq, (Touch.refl _ _).drews _⟩
end Go.Proofs.Ytjfdjlinjghddaa
