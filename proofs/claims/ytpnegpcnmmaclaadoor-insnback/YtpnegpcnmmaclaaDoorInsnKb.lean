/-
  insn: Code.
-/
import Derived.Test.YtpnegpcnmmaclaaDoorInsnK
import Derived.Lib.SlFresh
import Derived.ArgAppend
namespace Go.Proofs.YtpnegpcnmmaclaaDoor
open Go.ChangeShapes Go.WideShapes Go.ChangeAt Go.RowKit

/-- What Code answers: a list of its own, the line, the error. -/
def CodeEnd (w : World) (r : List Ins × Nat) (e : Ending) (w' : World) : Prop :=
  ∃ a cap, e = .returned (.tuple #[.slice a r.1.length cap, .int .i64 r.2, .int .i64 (if r.2 = 0 then 0 else 2)]) ∧ w'.ownsRow w.heap.size 32 4 (.slice a r.1.length cap) r.1.length (flatI r.1) ∧ Below w.heap.size w w'

theorem cut_l (l : List UInt8) (c : UInt8) (hs : l.length ≤ 1000000) (w : World) :
    Calls Tryd.prog 19 #[.string ⟨l.toArray⟩, .string ⟨#[c]⟩] w fun e w' => e = .returned (.tuple #[.string ⟨(cutc c l).1.toArray⟩, .string ⟨(cutc c l).2.1.toArray⟩, .bool (cutc c l).2.2]) ∧ Below w.heap.size w w' := by
  have := cut_one ⟨l.toArray⟩ c (by show l.toArray.size ≤ _; simpa using hs) w
  simpa using this

theorem CS.put {w wr : World} {a a' : Option Addr} {cap cap' : Nat} {acc acc' : List Ins} (h : CS w wr a cap acc) (hown : wr.ownsRow (w.heap.size + 2) 32 4 (.slice a' acc'.length cap') acc'.length (flatI acc')) (n : Int) :
    ((wr.setCell ⟨w.heap.size, 0, none⟩ (.slice a' acc'.length cap')).setCell ⟨w.heap.size + 1, 0, none⟩ (.int .i64 n)).cell? ⟨w.heap.size, 0, none⟩ = some (.slice a' acc'.length cap') ∧
    ((wr.setCell ⟨w.heap.size, 0, none⟩ (.slice a' acc'.length cap')).setCell ⟨w.heap.size + 1, 0, none⟩ (.int .i64 n)).cell? ⟨w.heap.size + 1, 0, none⟩ = some (.int .i64 n) ∧
    ((wr.setCell ⟨w.heap.size, 0, none⟩ (.slice a' acc'.length cap')).setCell ⟨w.heap.size + 1, 0, none⟩ (.int .i64 n)).ownsRow w.heap.size 32 4 (.slice a' acc'.length cap') acc'.length (flatI acc') ∧
    Below w.heap.size w ((wr.setCell ⟨w.heap.size, 0, none⟩ (.slice a' acc'.length cap')).setCell ⟨w.heap.size + 1, 0, none⟩ (.int .i64 n)) := by
  have e1 := (Below.heap_setCell (wr.setCell ⟨w.heap.size, 0, none⟩ (.slice a' acc'.length cap')) ⟨w.heap.size + 1, 0, none⟩ (.int .i64 n) w.heap.size (by show w.heap.size ≠ w.heap.size + 1; omega)).trans (set_block h.hL 0 (.slice a' acc'.length cap'))
  have e2 := set_block ((Below.heap_setCell wr ⟨w.heap.size, 0, none⟩ (.slice a' acc'.length cap') (w.heap.size + 1) (by show w.heap.size + 1 ≠ w.heap.size; omega)).trans h.hE) 0 (.int .i64 n)
  refine ⟨by simp [World.cell?, e1], by simp [World.cell?, e2], ?_, (h.B.setCell (p := ⟨w.heap.size, 0, none⟩) (Nat.le_refl _) _).setCell (p := ⟨w.heap.size + 1, 0, none⟩) (by show w.heap.size ≤ w.heap.size + 1; omega) _⟩
  obtain ⟨h1, h2⟩ := hown
  refine ⟨h1, ?_⟩
  rcases h2 with h2 | ⟨g, c, cur, hv, hgb, hcur, r⟩
  · exact Or.inl h2
  · exact Or.inr ⟨g, c, cur, hv, by omega, (Below.heap_setCell _ _ _ _ (by show g ≠ w.heap.size + 1; omega)).trans ((Below.heap_setCell _ _ _ _ (by show g ≠ w.heap.size; omega)).trans hcur), r⟩

set_option maxRecDepth 20000 in
set_option maxHeartbeats 2000000 in
theorem code_l (s : List UInt8) (hs : s.length ≤ 1000000) (w : World) (hV : Vs w) :
    Calls Tryd.prog 7 #[.string ⟨s.toArray⟩] w fun e w' => CodeEnd w (codeP s) e w' := by
  have hmf : ∀ (fn : Fn) (first cap : Array Value) (w : World), (Instr.makeFunc fn first cap).run Tryd.prog w = .ok (.func fn first cap) w := fun _ _ _ _ => rfl
  go_enter_defers Tryd.func7, Tryd.ntmps7
  go_wp2_with fail
  go_loopg [0, 3] 24 (fun g tv lv wr => ∃ (k : Nat) (tx : List UInt8) (a : Option Addr) (cap : Nat) (acc : List Ins), g + k = 24 ∧ lv = .int .i64 ((k : Int) + 1) ∧ tv = .string ⟨tx.toArray⟩ ∧ tx.length ≤ 1000000 ∧ acc.length = k ∧ Hid (codeF (24 - k) (k + 1) tx acc = codeP s) ∧ CS w wr a cap acc)
  case atStart => exact ⟨0, s, none, 0, [], by omega, rfl, rfl, hs, rfl, rfl, CS.first w hV⟩
  case round =>
    obtain ⟨k, tx, a, cap, acc, hg, rfl, rfl, htx, hk, hcode, hC⟩ := hrel
    by_cases hend : tx = [] ∧ 1 ≤ k
    · -- the text is at its end
      obtain ⟨rfl, hk1⟩ := hend
      have e : codeP s = (acc, 0) := by
        rw [← hcode.out]
        cases h24 : 24 - k with
        | zero => simp [codeF]; omega
        | succ m => simp [codeF]; omega
      have l1 : ((k : Int) + 1 == 1) = false := by rw [beq_eq_false_iff_ne]; omega
      obtain ⟨c0, c1, z0, z1⟩ := hC.cells
      go_wp2_with fail
      rw [e]
      subst hk
      obtain ⟨d0, d1, d2, d3⟩ := hC.put hC.own 0
      refine leaves_cons (f := 17) (args := #[.pointer (some ⟨w.heap.size, 0, none⟩), .pointer (some ⟨w.heap.size + 1, 0, none⟩)]) (by simp) (by simp [go_sem]) ?_
      refine (catch_idle _ _ _).mono ?_
      rintro e u' w'' ⟨rfl, rfl, rfl⟩
      simp [Leaves, settle, results, Tryd.results7, go_sem, d0, d1]
      exact ⟨a, cap, rfl, d2, d3⟩
    · have hne : Hid (tx = [] → k = 0) := fun h => by
        rcases Nat.eq_zero_or_pos k with h0 | h0
        · exact h0
        · exact absurd ⟨h, h0⟩ hend
      have hnot : ¬ (tx = [] ∧ 1 < k + 1) := fun h => by have := hne.out h.1; omega
      go_upto_region 3 with fail
      go_cut [11, 12, 13, 14, 15, 16] from 11 to 16 (fun _ _ _ _ _ v wx => v = .bool true ∧ Hid (wr = wx))
      case first =>
        by_cases h0 : k = 0
        · have h1 : ((k : Int) + 1 == 1) = true := by subst h0; rfl
          go_wp2_with fail
          go_meet
          exact ⟨rfl, rfl⟩
        · have h1 : ((k : Int) + 1 == 1) = false := by rw [beq_eq_false_iff_ne]; omega
          have h2 : (tx == []) = false := by
            cases tx with
            | nil => exact absurd (hne.out rfl) h0
            | cons c r => rfl
          go_wp2_with fail
          go_meet
          exact ⟨rfl, rfl⟩
      case rest =>
      obtain ⟨rfl, hw⟩ := hcut
      have hw' := hw.out
      subst hw'
      by_cases h24 : k = 24
      · -- one line too many
        have e : Hid (codeP s = ([], k + 1)) := by
          show _ = _
          rw [← hcode.out]; subst h24
          show codeF 0 25 tx acc = _
          unfold codeF; rw [if_neg (by simpa using hnot)]
        have l24 : ¬ ((k : Int) + 1 ≤ 24) := by omega
        clear h24
        go_wp2_with fail
        refine (need_false _).mono ?_
        rintro e' w1 ⟨rfl, rfl⟩
        go_wp2_with fail
        rw [e.out]
        obtain ⟨c0, c1, z0, z1⟩ := hC.cells
        obtain ⟨d0, d1, d2, d3⟩ := hC.put (a' := none) (cap' := 0) (acc' := []) (World.ownsRow_nil _ _ _ _) 2
        refine leaves_cons (f := 17) (args := #[.pointer (some ⟨w.heap.size, 0, none⟩), .pointer (some ⟨w.heap.size + 1, 0, none⟩)]) (by simp) (by simp [go_sem]) ?_
        refine (catch_panicking ⟨w.heap.size, 0, none⟩ ⟨w.heap.size + 1, 0, none⟩ _ _ _ _ [] _ c0 z0 c1 z1 (by show w.heap.size ≠ w.heap.size + 1; omega)).mono ?_
        rintro e u' w'' ⟨rfl, rfl, rfl⟩
        simp only [List.length_nil] at d0 d1 d2 d3
        simp [Leaves, settle, results, Tryd.results7, go_sem, d0, d1]
        exact ⟨none, 0, by simp, d2, d3⟩
      · obtain ⟨m, hm⟩ : ∃ m, 24 - k = m + 1 := ⟨23 - k, by omega⟩
        have hcode' := hcode.out
        rw [hm, codeF, if_neg hnot] at hcode'
        have l24 : (k : Int) + 1 ≤ 24 := by omega
        obtain ⟨s1, rest, fd, hc⟩ : ∃ s1 rest fd, cutc 10 tx = (s1, rest, fd) := ⟨_, _, _, rfl⟩
        have hz := cutc_size 10 tx
        rw [hc] at hcode' hz
        go_wp2_with fail
        refine (need_true _).mono ?_
        rintro e' w1 ⟨rfl, rfl⟩
        go_wp2_with fail
        refine (cut_l tx 10 htx _).mono ?_
        rintro e' w2 ⟨rfl, b2⟩
        rw [hc]
        have hC2 := hC.later b2
        have hz1 : s1.length ≤ tx.length := hz.1
        have hz2 : rest.length ≤ tx.length := hz.2
        clear hz
        cases fd
        · -- the line has no end
          have e : Hid (codeP s = ([], k + 1)) := by show _ = _; rw [← hcode']; rfl
          clear hcode'
          go_wp2_with fail
          refine (need_false _).mono ?_
          rintro e' w3 ⟨rfl, rfl⟩
          go_wp2_with fail
          rw [e.out]
          obtain ⟨c0, c1, z0, z1⟩ := hC2.cells
          obtain ⟨d0, d1, d2, d3⟩ := hC2.put (a' := none) (cap' := 0) (acc' := []) (World.ownsRow_nil _ _ _ _) 2
          refine leaves_cons (f := 17) (args := #[.pointer (some ⟨w.heap.size, 0, none⟩), .pointer (some ⟨w.heap.size + 1, 0, none⟩)]) (by simp) (by simp [go_sem]) ?_
          refine (catch_panicking ⟨w.heap.size, 0, none⟩ ⟨w.heap.size + 1, 0, none⟩ _ _ _ _ [] _ c0 z0 c1 z1 (by show w.heap.size ≠ w.heap.size + 1; omega)).mono ?_
          rintro e u' w'' ⟨rfl, rfl, rfl⟩
          simp only [List.length_nil] at d0 d1 d2 d3
          simp [Leaves, settle, results, Tryd.results7, go_sem, d0, d1]
          exact ⟨none, 0, by simp, d2, d3⟩
        · go_wp2_with fail
          refine (need_true _).mono ?_
          rintro e' w3 ⟨rfl, rfl⟩
          go_wp2_with fail
          refine (parse_l s1 (by omega) _ hC2.V).mono ?_
          rintro e' w4 ⟨rfl, b4⟩
          have hC4 := hC2.later b4
          cases hp : parseP s1 with
          | none =>
            have e : Hid (codeP s = ([], k + 1)) := by show _ = _; rw [← hcode']; simp [hp]
            clear hcode'
            rw [parseV_none hp]
            unfold insV
            go_wp2_with fail
            refine (need_false _).mono ?_
            rintro e' w5 ⟨rfl, rfl⟩
            have hC5 := hC4.later ((Below.refl _ w4).alloc (Nat.le_refl _) (.cells #[.int .i64 0, .int .i64 0, .int .i64 0, .int .i64 0] 32))
            go_wp2_with fail
            rw [e.out]
            obtain ⟨c0, c1, z0, z1⟩ := hC5.cells
            obtain ⟨d0, d1, d2, d3⟩ := hC5.put (a' := none) (cap' := 0) (acc' := []) (World.ownsRow_nil _ _ _ _) 2
            refine leaves_cons (f := 17) (args := #[.pointer (some ⟨w.heap.size, 0, none⟩), .pointer (some ⟨w.heap.size + 1, 0, none⟩)]) (by simp) (by simp [go_sem]) ?_
            refine (catch_panicking ⟨w.heap.size, 0, none⟩ ⟨w.heap.size + 1, 0, none⟩ _ _ _ _ [] _ c0 z0 c1 z1 (by show w.heap.size ≠ w.heap.size + 1; omega)).mono ?_
            rintro e u' w'' ⟨rfl, rfl, rfl⟩
            simp only [List.length_nil] at d0 d1 d2 d3
            simp [Leaves, settle, results, Tryd.results7, go_sem, d0, d1]
            exact ⟨none, 0, by simp, d2, d3⟩
          | some x =>
            subst hk
            rw [parseV_some hp]
            unfold insV
            go_wp2_with fail
            refine (need_true _).mono ?_
            rintro e' w5 ⟨rfl, rfl⟩
            obtain ⟨g, c, wN, hrun, n0, n1, hCN⟩ := hC4.app (by omega) x
            have hcN : Hid (codeF (24 - (acc.length + 1)) (acc.length + 1 + 1) rest (acc ++ [x]) = codeP s) := by
              show _ = _
              rw [← hcode']
              simp only [hp, if_true]
              rw [show 24 - (acc.length + 1) = m by omega]
            clear hcode'
            obtain ⟨c0, c1, z0, z1⟩ := hC4.cells
            have y0 : ∀ o, (w4.alloc o).cell? ⟨w.heap.size, 0, none⟩ = some (.slice a acc.length cap) := fun o => (Below.cell ((Below.refl _ w4).alloc (Nat.le_refl _) o) (lt_of_cell c0)).trans c0
            go_wp2_with (refine Lib.wpList_append_run_sl _ rfl _ _ 24 rfl _ _ rfl rfl hrun ?_)
            go_roundg (24 - (acc.length + 1))
            case measure => omega
            case rel => exact ⟨acc.length + 1, rest, some ⟨g, 0, none⟩, c, acc ++ [x], by omega, by go_num, rfl, by omega, by simp, hcN, hCN⟩
end Go.Proofs.YtpnegpcnmmaclaaDoor
