/-
  regs: Next, Address.
-/
import Derived.Test.YtfbmjagchjhddaaDoorRegC
namespace Go.Proofs.YtfbmjagchjhddaaDoor
open Go.ChangeShapes Go.WideShapes Go.ChangeAt Go.RowKit

/-- Four cells of an instruction in memory. -/
structure C4 (w : World) (g : Nat) (o a b n : Int) : Prop where
  c0 : w.cell? ⟨g, 0, none⟩ = some (.int .i64 o)
  c1 : w.cell? ⟨g, 1, none⟩ = some (.int .i64 a)
  c2 : w.cell? ⟨g, 2, none⟩ = some (.int .i64 b)
  c3 : w.cell? ⟨g, 3, none⟩ = some (.int .i64 n)
  fr : ∀ i, w.frozen? ⟨g, i, none⟩ = false
theorem C4.of {w : World} {g : Nat} {o a b n : Int} {t : TypeId} (h : w.heap[g]? = some (.cells #[.int .i64 o, .int .i64 a, .int .i64 b, .int .i64 n] t (0, 0))) : C4 w g o a b n := by
  have := cells_at h
  exact ⟨this 0, this 1, this 2, this 3, cells_frozen h⟩
theorem C4.lt {w : World} {g : Nat} {o a b n : Int} (h : C4 w g o a b n) : g < w.heap.size := lt_of_cell h.c0
theorem C4.later {w w' : World} {g : Nat} {o a b n : Int} (h : C4 w g o a b n) (k : Below w.heap.size w w') : C4 w' g o a b n := by
  have hl := h.lt
  exact ⟨(k.cell hl).trans h.c0, (k.cell hl).trans h.c1, (k.cell hl).trans h.c2, (k.cell hl).trans h.c3, fun i => (World.frozen?_of_block (a := ⟨g, i, none⟩) (k.block g hl)).trans (h.fr i)⟩
theorem C4.new (w : World) (o a b n : Int) (t : TypeId) : C4 (w.alloc (.cells #[.int .i64 o, .int .i64 a, .int .i64 b, .int .i64 n] t)) w.heap.size o a b n := C4.of (heap_alloc_new w _)
theorem C4.alloc {w : World} {g : Nat} {o a b n : Int} (h : C4 w g o a b n) (ob : Obj) : C4 (w.alloc ob) g o a b n := h.later ((Below.refl _ w).alloc (Nat.le_refl _) ob)

/-- What Next answers. -/
def nextV (o : Option Ins) : Value := match o with | some x => .tuple #[insV x, .bool true] | none => .tuple #[insV ⟨0, 0, 0, 0⟩, .bool false]

set_option maxRecDepth 20000 in
set_option maxHeartbeats 1000000 in
theorem next_any {w : World} (s : RS) {a : Option Addr} {c : Nat} {l : List Ins} (h : IsL w a l) (hl : l.length ≤ 1000) (hV : Sh w) :
    Calls Tryd.prog 15 #[stV s a l.length c] w fun e w' => e = .returned (nextV (nextP l s.pc)) ∧ Below w.heap.size w w' := by
  obtain ⟨o, ho⟩ : ∃ o, Hid (nextP l s.pc = o) := ⟨_, rfl⟩
  rw [ho.out]
  unfold nextP at ho
  obtain ⟨r, pc⟩ := s
  simp only at ho
  unfold stV
  by_cases h0 : pc < 0
  · rw [if_pos h0] at ho
    have ho' := ho.out
    subst ho'
    go_enter Tryd.func15, Tryd.ntmps15
    go_wp2_with fail
    refine bodyPost_ret (v := nextV none) (by simp [results, Tryd.results15, go_sem, nextV, insV]) rfl ⟨rfl, ?_⟩
    repeat (with_reducible refine Below.alloc ?_ (by simp; try omega) _)
    exact Below.refl _ _
  · by_cases h1 : pc < l.length
    · rw [if_neg h0] at ho
      obtain ⟨j, rfl⟩ : ∃ j : Nat, pc = j := ⟨pc.toNat, by omega⟩
      rw [Int.toNat_natCast] at ho
      obtain ⟨x, hx⟩ : ∃ x, l[j]? = some x := ⟨_, List.getElem?_eq_getElem (by omega)⟩
      rw [hx, Option.bind_some] at ho
      rcases h with rfl | ⟨g, rfl, h⟩
      · simp at h1; omega
      obtain ⟨c0, c1, c2, c3⟩ := h.four hx
      have hg := h.lt
      go_enter Tryd.func15, Tryd.ntmps15
      go_wp2_with fail
      have hX := C4.new ((w.alloc (.cells #[.int .u64 (r 0), .int .u64 (r 1), .int .u64 (r 2), .int .u64 (r 3), .int .u64 (r 4), .int .u64 (r 5), .int .u64 (r 6), .int .u64 (r 7), .slice (some ⟨g, 0, none⟩) l.length c, .int .i64 j] 45)).alloc (.cells #[.int .i64 0, .int .i64 0, .int .i64 0, .int .i64 0] 32)) x.op x.a x.b x.n 32
      have hR := (C4.new (w.alloc (.cells #[.int .u64 (r 0), .int .u64 (r 1), .int .u64 (r 2), .int .u64 (r 3), .int .u64 (r 4), .int .u64 (r 5), .int .u64 (r 6), .int .u64 (r 7), .slice (some ⟨g, 0, none⟩) l.length c, .int .i64 j] 45)) 0 0 0 0 32).alloc (.cells #[.int .i64 x.op, .int .i64 x.a, .int .i64 x.b, .int .i64 x.n] 32)
      have hb : Below w.heap.size w (((w.alloc (.cells #[.int .u64 (r 0), .int .u64 (r 1), .int .u64 (r 2), .int .u64 (r 3), .int .u64 (r 4), .int .u64 (r 5), .int .u64 (r 6), .int .u64 (r 7), .slice (some ⟨g, 0, none⟩) l.length c, .int .i64 j] 45)).alloc (.cells #[.int .i64 0, .int .i64 0, .int .i64 0, .int .i64 0] 32)).alloc (.cells #[.int .i64 x.op, .int .i64 x.a, .int .i64 x.b, .int .i64 x.n] 32)) := (((Below.refl _ w).alloc (Nat.le_refl _) _).alloc (by simp) _).alloc (by simp; omega) _
      refine (check_sh x _ (hV.later hb)).mono ?_
      rintro e w1 ⟨rfl, b1⟩
      obtain ⟨x0, x1, x2, x3, xf⟩ := hX.later b1
      obtain ⟨r0, r1, r2, r3, rf⟩ := hR.later b1
      have B1 := past hb b1
      have hsz := b1.size
      simp only [World.size_alloc] at x0 x1 x2 x3 xf r0 r1 r2 r3 rf hsz
      clear hX hR hb b1 c0 c1 c2 c3
      cases hk : okP x
      · rw [hk] at ho
        have ho' := ho.out
        subst ho'
        go_wp2_with fail
        refine bodyPost_ret (v := nextV none) (by simp [results, Tryd.results15, go_sem, nextV, insV, r0, r1, r2, r3]) rfl ⟨rfl, ?_⟩
        repeat (with_reducible refine Below.setCell ?_ (Nat.le_succ _) _)
        exact B1
      · rw [hk] at ho
        have ho' := ho.out
        subst ho'
        go_wp2_with fail
        refine bodyPost_ret (v := nextV (some x)) (by simp [results, Tryd.results15, go_sem, nextV, insV, r0, r1, r2, r3]) rfl ⟨rfl, ?_⟩
        repeat (with_reducible refine Below.setCell ?_ (Nat.le_succ _) _)
        exact B1
    · have hn : l[pc.toNat]? = none := List.getElem?_eq_none (by omega)
      rw [if_neg h0, hn] at ho
      have ho' := ho.out
      subst ho'
      go_enter Tryd.func15, Tryd.ntmps15
      go_wp2_with fail
      refine bodyPost_ret (v := nextV none) (by simp [results, Tryd.results15, go_sem, nextV, insV]) rfl ⟨rfl, ?_⟩
      repeat (with_reducible refine Below.alloc ?_ (by simp; try omega) _)
      exact Below.refl _ _
end Go.Proofs.YtfbmjagchjhddaaDoor
