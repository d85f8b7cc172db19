/-
  Package area: Pages; lists of numbers and of runs of the call's own.
-/
import Derived.Test.YtcjfdgkhlidakaaAreaC
namespace Go.Proofs.Ytcjfdgkhlidakaa
open Go.ChangeShapes Go.WideShapes Go.ChangeAt Go.RowKit

/-- One more, at a list of the call's own. -/
theorem app_gen {e te : TypeId} {size bytes : Nat} {z : Value} (hI : (Try.prog.info? e).map (fun i => (i.zero, i.size, i.bytes)) = some (some z, size, bytes)) (ht : Try.prog.underlying te = some (.slice e)) (hzs : z.cells.size = size) (hsz : 0 < size) (hby : bytes ≤ 1000)
    {wr : World} {base n : Nat} {v : Value} {xs : List Value} (h0 : wr.ownsRow base e size v n xs) (hbase : base ≤ wr.heap.size) (few : n ≤ 1000) (cs : Array Value) (hcs : cs.size = size) (h1 : ∀ u ∈ cs.toList, u.oneCell' = true) :
    ∃ g c wN, (Builtin.append_ #[te, te] te #[v, .slice (some ⟨wr.heap.size, 0, none⟩) 1 1]).run Try.prog (wr.alloc (.cells cs e)) = .ok (.slice (some ⟨g, 0, none⟩) (n + 1) c) wN ∧
      wN.ownsRow base e size (.slice (some ⟨g, 0, none⟩) (n + 1) c) (n + 1) (xs ++ cs.toList) ∧ Below base wr wN := by
  obtain ⟨i, hi, hzz⟩ := Option.map_eq_some_iff.1 hI
  simp only [Prod.mk.injEq] at hzz
  obtain ⟨hz0, hz1, hz2⟩ := hzz
  have bA := (Below.refl wr.heap.size wr).alloc (Nat.le_refl _) (.cells cs e)
  have ha := h0.alloc (.cells cs e)
  have hb := heap_alloc_new wr (.cells cs e)
  obtain ⟨v', wN, hr, ho, hg, hn⟩ := run_append_own (P := Try.prog) _ base te te e i z size bytes ht hi hz0 hz1 hz2 hzs hsz v n xs ha ⟨wr.heap.size, 0, none⟩ 1 1 cs.toList (by simp [hcs])
    (fun j u hu => by
      rw [Addr.add_mid]
      unfold World.cell?
      rw [hb]
      simpa using hu) h1 (by unfold maxLen; omega) (Nat.le_trans (Nat.mul_le_mul (show n + 1 ≤ 1001 by omega) hby) (by omega)) (by simp; omega)
  obtain ⟨ho1, ho2⟩ := ho
  rcases ho2 with ⟨_, h00⟩ | ⟨g', c, cur, rfl, hgb, hcur, hc1, hc2, hc3, hc4⟩
  · omega
  · exact ⟨g', c, wN, hr, ⟨ho1, Or.inr ⟨g', c, cur, rfl, hgb, hcur, hc1, hc2, hc3, hc4⟩⟩, (bA.mono hbase).grown hg (by simp; omega) (fun k hk => (ha.lt k hk).1)⟩
def ilist (l : List Int) : List Value := l.map (fun x => Value.int .i64 x)
theorem ilist_len (l : List Int) : (ilist l).length = l.length := by simp [ilist]
theorem ilist_get (l : List Int) {i : Nat} (h : i < l.length) : (ilist l)[i]? = some (.int .i64 (l.getD i 0)) := by
  simp [ilist, List.getD, h]
theorem app_int {wr : World} {base n : Nat} {v : Value} {xs : List Value} (h0 : wr.ownsRow base 3 1 v n xs) (hbase : base ≤ wr.heap.size) (few : n ≤ 1000) (x : Int) :
    ∃ g c wN, (Builtin.append_ #[22, 22] 22 #[v, .slice (some ⟨wr.heap.size, 0, none⟩) 1 1]).run Try.prog (wr.alloc (.cells #[.int .i64 x] 3)) = .ok (.slice (some ⟨g, 0, none⟩) (n + 1) c) wN ∧
      wN.ownsRow base 3 1 (.slice (some ⟨g, 0, none⟩) (n + 1) c) (n + 1) (xs ++ [.int .i64 x]) ∧ Below base wr wN :=
  app_gen (z := .int .i64 0) (bytes := 8) (by kernel_rfl) Try.underlying22 rfl (by decide) (by decide) h0 hbase few #[.int .i64 x] rfl (fun u hu => by simp at hu; subst hu; rfl)
theorem Touch.ofBase {S : Nat → Prop} {w w1 w2 : World} (h : Touch S w w1) (b : Below w.heap.size w1 w2) : Touch S w w2 :=
  ⟨b.os.trans h.os, b.tape.trans h.tape, b.output.trans h.output, Nat.le_trans h.size b.size, fun k hk hs => (b.block k hk).trans (h.block k hk hs)⟩
/-- The pages below k that are there. -/
def pgsA (R : Nat → Int) : Nat → List Int
  | 0 => []
  | k + 1 => pgsA R k ++ if 0 ≤ R k then [(k : Int)] else []
theorem pgsA_len (R : Nat → Int) (k : Nat) : (pgsA R k).length ≤ k := by
  induction k with
  | zero => exact Nat.le_refl _
  | succ k ih => unfold pgsA; split <;> simp <;> omega
theorem take_two (l : List Value) (o : Nat) {a b : Value} (ha : l[o]? = some a) (hb : l[o + 1]? = some b) : List.take 2 (List.drop o l) = [a, b] := by
  obtain ⟨h1, e1⟩ := List.getElem?_eq_some_iff.1 ha
  obtain ⟨h2, e2⟩ := List.getElem?_eq_some_iff.1 hb
  rw [List.drop_eq_getElem_cons h1, List.drop_eq_getElem_cons h2, e1, e2]
  rfl
theorem index_use (R : Nat → Int) (k : Nat) (hk : k < 256) (w : World) :
    (Instr.index 38 (.agg (cellsA R).toArray) (.int .i64 k)).run Try.prog w = .ok (.agg #[.bool (decide (0 ≤ R k)), .int .i64 (rt R k)]) w := by
  have e1 := take_two (cellsA R) (k * 2) (cellsA_get R (by omega)) (cellsA_get R (by omega))
  rw [acell_has, acell_rt] at e1
  have hu : Try.prog.underlying 38 = some (.array 256 37) := by kernel_rfl
  obtain ⟨i, hi, hz⟩ := Option.map_eq_some_iff.1 (show (Try.prog.info? 37).map (fun i => i.size) = some 2 by kernel_rfl)
  simp [Instr.index, asIntOf, run_underlying hu, Sem.run_bind, part, sizeOf, typeInfo, hi, hz, hk, e1]
set_option maxRecDepth 20000 in
set_option maxHeartbeats 1000000 in
theorem pages_any {w : World} {b : Nat} {R : Nat → Int} (h : AAt w b R) :
    Calls Try.prog 27 #[.pointer (some ⟨b, 0, none⟩)] w fun e w' => (∃ v, e = .returned v ∧ w'.ownsRow w.heap.size 3 1 v (pgsA R 256).length (ilist (pgsA R 256))) ∧ Touch Nil w w' := by
  have hr := h.range
  have hl := cellsA_len R
  go_enter Try.func27, Try.ntmps27
  go_wp2_with fail
  refine wp_load_mid 38 (.tmp 8) rfl b 0 rfl (cellsA R) _ hr Try.underlying38 rfl (by rw [hl]; kernel_rfl) ?_
  have hix := index_use R
  generalize (cellsA R).toArray = CA at *
  clear hr hl
  apply_assumption
  go_wp2_with fail
  go_loopg [3, 4, 5, 10] 256 (fun g v p u i wr => ∃ k : Nat, g + k = 256 ∧ i = .int .i64 k ∧ Aside (wr.ownsRow w.heap.size 3 1 v (pgsA R k).length (ilist (pgsA R k))) ∧ Aside (Touch Nil w wr))
  case atStart => exact ⟨0, by omega, rfl, World.ownsRow_nil _ _ _ _, Touch.refl _ w⟩
  case round =>
    obtain ⟨k, hgk, rfl, hO, tk⟩ := hrel
    by_cases hk : k < 256
    · have k1 : (k : Int) < 256 := by omega
      have hx := hix k hk
      clear hix
      generalize rt R k = r at hx
      cases hd : decide (0 ≤ R k)
      · rw [hd] at hx
        have hn : pgsA R (k + 1) = pgsA R k := by rw [pgsA, if_neg (by simpa using hd)]; simp
        go_wp2_with fail
        go_roundg (256 - (k + 1))
        case measure => omega
        case rel => exact ⟨k + 1, by omega, by go_num, by rw [hn]; exact hO.out.alloc _, tk.out.alloc _⟩
      · rw [hd] at hx
        have hn : pgsA R (k + 1) = pgsA R k ++ [(k : Int)] := by rw [pgsA, if_pos (by simpa using hd)]
        have hll := pgsA_len R k
        obtain ⟨g', c', wN, hrun, hN, bN⟩ := app_int (hO.out.alloc (.cells #[.bool true, .int .i64 r] 37)) (by have := tk.out.size; simp; omega) (by omega) (k : Int)
        rw [show (wr.alloc (.cells #[.bool true, .int .i64 r] 37)).heap.size = wr.heap.size + 1 by simp] at hrun
        have tN : Touch Nil w wN := (tk.out.alloc (.cells #[.bool true, .int .i64 r] 37)).ofBase bN
        go_upto_region 6 with fail
        go_wp2_with (at_builtin; refine Lib.wpList_append_run_sl _ rfl _ _ 22 rfl _ _ rfl rfl hrun ?_)
        go_roundg (256 - (k + 1))
        case measure => omega
        case rel => exact ⟨k + 1, by omega, by go_num, by rw [hn, List.length_append, ilist, List.map_append]; exact hN, tN⟩
    · have e : k = 256 := by omega
      subst e
      go_wp2_with fail
      go_ret
      exact ⟨⟨_, rfl, hO.out⟩, tk.out⟩
end Go.Proofs.Ytcjfdgkhlidakaa
