/-
  Package sched: the alive ones; lists of numbers of the call's own, two that hold the same.
-/
import Derived.Test.YtlhppmhacdoilaaSchC
import Derived.Test.YtlhppmhacdoilaaRows3
import Derived.Test.YtlhppmhacdoilaaAppG
import Derived.Lib.SlFresh
namespace Go.Proofs.Ytlhppmhacdoilaa
open Go.ChangeShapes Go.WideShapes Go.ChangeAt Go.RowKit

namespace Sd
/-- The alive ones among the first k, rising. -/
def liveTo (s : Sd) : Nat → List Int
  | 0 => []
  | k + 1 => s.liveTo k ++ if s.A k = true then [(k : Int)] else []
theorem liveTo_len (s : Sd) : ∀ k, (s.liveTo k).length ≤ k
  | 0 => Nat.le_refl _
  | k + 1 => by
    have := s.liveTo_len k
    unfold liveTo
    rw [List.length_append]
    split
    · simp; omega
    · simp; omega
theorem liveTo_four (s : Sd) : s.liveTo 4 = s.live := by simp [liveTo, live, A]
end Sd
def sints (l : List Int) : List Value := l.map (fun x => Value.int .i64 x)
theorem sints_get (l : List Int) {i : Nat} (h : i < l.length) : (sints l)[i]? = some (.int .i64 (l.getD i 0)) := by
  simp [sints, List.getD, h]
/-- A list of numbers of the call's own, since the heap's size was base. -/
abbrev SOwn (w : World) (base : Nat) (a : Option Addr) (cap : Nat) (l : List Int) : Prop := w.ownsRow base 3 1 (.slice a l.length cap) l.length (sints l)
theorem sints_app (l : List Int) (x : Int) : sints l ++ [.int .i64 x] = sints (l ++ [x]) := by simp [sints]
theorem SOwn.nil (w : World) (base : Nat) : SOwn w base none 0 [] := ⟨rfl, Or.inl ⟨rfl, rfl⟩⟩
theorem SOwn.app {wr : World} {base cap n : Nat} {a : Option Addr} {l : List Int} (h : wr.ownsRow base 3 1 (.slice a n cap) n (sints l)) (hb : base ≤ wr.heap.size) (few : n ≤ 1000) (x : Int) :
    ∃ g c wN, (Builtin.append_ #[28, 28] 28 #[.slice a n cap, .slice (some ⟨wr.heap.size, 0, none⟩) 1 1]).run Try.prog (wr.alloc (.cells #[.int .i64 x] 3)) = .ok (.slice (some ⟨g, 0, none⟩) (n + 1) c) wN ∧
      wN.ownsRow base 3 1 (.slice (some ⟨g, 0, none⟩) (n + 1) c) (n + 1) (sints (l ++ [x])) ∧ Below base wr wN := by
  obtain ⟨g, c, wN, h1, h2, h3⟩ := app_gen (e := 3) (te := 28) (size := 1) (bytes := 8) (z := .int .i64 0) (by kernel_rfl) Try.underlying28 rfl (by decide) (by decide) h hb few #[.int .i64 x] rfl (by simp [Value.oneCell'])
  exact ⟨g, c, wN, h1, by rw [← sints_app]; exact h2, h3⟩
/-- A slice that holds these numbers. -/
def SNums (w : World) (a : Option Addr) (l : List Int) : Prop :=
  l = [] ∨ ∃ b o, a = some ⟨b, o, none⟩ ∧ b < w.heap.size ∧ ∀ i, i < l.length → w.cell? ⟨b, o + i, none⟩ = some (.int .i64 (l.getD i 0))
theorem SNums.touch {S : Nat → Prop} {w w' : World} {b : Nat} {l : List Int} (h : SNums w (some ⟨b, 0, none⟩) l) (t : Touch S w w') (hs : ¬ S b) : SNums w' (some ⟨b, 0, none⟩) l := by
  rcases h with h | ⟨b', o, e, hb, hc⟩
  · exact Or.inl h
  · cases e
    refine Or.inr ⟨b, 0, rfl, Nat.lt_of_lt_of_le hb t.size, fun i hi => ?_⟩
    have := hc i hi
    unfold World.cell? at this ⊢
    rw [t.block b hb hs]; exact this
theorem SNums.nil {w w' : World} {a : Option Addr} {l : List Int} (h : SNums w a l) (t : Touch Nil w w') : SNums w' a l := by
  rcases h with h | ⟨b, o, rfl, hb, hc⟩
  · exact Or.inl h
  · refine Or.inr ⟨b, o, rfl, Nat.lt_of_lt_of_le hb t.size, fun i hi => ?_⟩
    have := hc i hi
    unfold World.cell? at this ⊢
    rw [t.block b hb (fun q => q.elim)]; exact this
theorem SOwn.nums {w : World} {base n cap : Nat} {a : Option Addr} {l : List Int} (h : w.ownsRow base 3 1 (.slice a n cap) n (sints l)) (hn : l.length = n) : SNums w a l := by
  obtain ⟨a', c', e, _, _, hg⟩ := own_shape h
  cases e
  rcases Nat.eq_zero_or_pos n with q | q
  · exact Or.inl (List.length_eq_zero_iff.1 (by omega))
  · obtain ⟨g, rfl⟩ := hg q
    obtain ⟨_, hr⟩ := own_row h
    refine Or.inr ⟨g, 0, rfl, hr.lt, fun i hi => ?_⟩
    rw [Nat.zero_add, hr.cell (by omega), sints_get l hi]
    rfl
set_option maxHeartbeats 1000000 in
theorem sdSame_any {w : World} {a a' : Option Addr} {l : List Int} (h : SNums w a l) (h' : SNums w a' l) (n : Nat) (hn : l.length = n) (few : n ≤ 1000000) (k k' : Nat) :
    Calls Try.prog 14 #[.slice a n k, .slice a' n k'] w fun e w' => e = .returned (.bool true) ∧ Touch Nil w w' := by
  go_enter Try.func14, Try.ntmps14
  go_wp2_with fail
  go_loopg [5] n (fun g v wr => ∃ j : Nat, g + j = n ∧ v = .int .i64 j ∧ Aside (Touch Nil w wr))
  case atStart => exact ⟨0, by omega, rfl, Touch.refl _ w⟩
  case round =>
    obtain ⟨j, hgj, rfl, tk⟩ := hrel
    by_cases hlt : j < n
    · have j1 : (j : Int) < n := by omega
      rcases h.nil tk.out with h | ⟨b, o, rfl, hb, hc⟩
      · rw [h] at hn; simp at hn; omega
      rcases h'.nil tk.out with h' | ⟨b', o', rfl, hb', hc'⟩
      · rw [h'] at hn; simp at hn; omega
      have q1 := hc j (by omega)
      have q2 := hc' j (by omega)
      generalize l.getD j 0 = x at q1 q2
      clear hc hc' h h'
      go_wp2_with fail
      go_quiet (fail)
      go_wp2_with fail
      go_roundg (n - (j + 1))
      case measure => omega
      case rel => exact ⟨j + 1, by omega, by go_num, tk.out.drews _⟩
    · have hjn : j = n := by omega
      subst hjn
      go_wp2_with fail
      go_ret
      exact ⟨rfl, tk.out⟩

theorem sdIdx (f : Nat → Bool) : ∀ k : Nat, k < 4 → ∀ w : World, (Instr.index 33 (.agg #[.bool (f 0), .bool (f 1), .bool (f 2), .bool (f 3)]) (.int .i64 k)).run Try.prog w = .ok (.bool (f k)) w
  | 0, _, _ | 1, _, _ | 2, _, _ | 3, _, _ => by kernel_rfl
  | n + 4, h, _ => by omega
set_option maxHeartbeats 1000000 in
theorem sdAlive_any {w : World} {b g : Nat} {s : Sd} (h : SdAt w b g s) :
    Calls Try.prog 15 #[.pointer (some ⟨b, 0, none⟩)] w fun e w' => (∃ a cap, e = .returned (.slice a s.live.length cap) ∧ SOwn w' w.heap.size a cap s.live) ∧ Touch Nil w w' := by
  have c0 := h.aC 0 (by omega)
  have c1 := h.aC 1 (by omega)
  have c2 := h.aC 2 (by omega)
  have c3 := h.aC 3 (by omega)
  have hidx : ∀ k : Nat, k < 4 → ∀ w : World, (Instr.index 33 (.agg #[.bool (s.A 0), .bool (s.A 1), .bool (s.A 2), .bool (s.A 3)]) (.int .i64 k)).run Try.prog w = .ok (.bool (s.A k)) w :=
    fun k hk w => sdIdx s.A k hk w
  go_enter Try.func15, Try.ntmps15
  go_wp2_with fail
  clear c0 c1 c2 c3
  go_loopg [3, 10] 4 (fun gk v i wr => ∃ (k n : Nat) (l : List Int) (a : Option Addr) (cap : Nat), gk + k = 4 ∧ i = .int .i64 k ∧ v = .slice a n cap ∧ Hid (s.liveTo k = l) ∧ Hid (l.length = n) ∧ wr.ownsRow w.heap.size 3 1 (.slice a n cap) n (sints l) ∧ Below w.heap.size w wr)
  case atStart => exact ⟨0, 0, [], none, 0, by omega, rfl, rfl, rfl, rfl, SOwn.nil _ _, Below.refl _ _⟩
  case round =>
    obtain ⟨k, n, l, a, cap, hgk, rfl, rfl, hl, hn, hO, hB⟩ := hrel
    have hle : n ≤ 4 := by have := s.liveTo_len k; rw [hl.out, hn.out] at this; omega
    have hsz := hB.size
    by_cases hk : k < 4
    · have k1 : (k : Int) < 4 := by omega
      have hi := hidx k hk
      have hnx : s.liveTo (k + 1) = l ++ if s.A k = true then [(k : Int)] else [] := by unfold Sd.liveTo; rw [hl.out]
      clear hidx
      cases ha : s.A k
      · rw [ha] at hi hnx
        have hl2 : Hid (s.liveTo (k + 1) = l) := by show _ = _; rw [hnx]; simp
        clear hnx hl ha
        go_wp2_with fail
        go_roundg (3 - k)
        case measure => omega
        case rel => exact ⟨k + 1, n, l, a, cap, by omega, by go_num, rfl, hl2, hn, hO, hB⟩
      · rw [ha] at hi hnx
        have hl2 : Hid (s.liveTo (k + 1) = l ++ [(k : Int)]) := by show _ = _; rw [hnx]; simp
        have hn2 : Hid ((l ++ [(k : Int)]).length = n + 1) := by show _ = _; rw [List.length_append, hn.out]; rfl
        clear hnx hl ha
        obtain ⟨g', c', wN, hrun, hN, bN⟩ := SOwn.app hO hsz (by omega) (k : Int)
        have hB2 := hB.trans bN
        go_upto_region 6 with fail
        go_wp2_with (at_builtin; refine Lib.wpList_append_run_sl _ rfl _ _ 28 rfl _ _ rfl rfl hrun ?_)
        go_roundg (3 - k)
        case measure => omega
        case rel => exact ⟨k + 1, n + 1, _, some ⟨g', 0, none⟩, c', by omega, by go_num, rfl, hl2, hn2, hN, hB2⟩
    · have h4 : k = 4 := by omega
      subst h4
      go_wp2_with fail
      go_ret
      have e : s.live = l := by rw [← hl.out, s.liveTo_four]
      rw [e, hn.out]
      refine ⟨⟨a, cap, rfl, ?_⟩, Touch.ofBelow hB⟩
      unfold SOwn
      rw [hn.out]; exact hO
end Go.Proofs.Ytlhppmhacdoilaa
