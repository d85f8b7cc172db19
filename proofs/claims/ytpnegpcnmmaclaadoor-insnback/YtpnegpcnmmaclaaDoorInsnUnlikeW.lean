/-
  The law InsnUnlike, walked.
-/
import Derived.Test.YtpnegpcnmmaclaaDoorInsnUn
import Derived.Laws.RangeString
namespace Go.Proofs.YtpnegpcnmmaclaaDoor
open Go.ChangeShapes Go.WideShapes Go.ChangeAt Go.RowKit

set_option maxRecDepth 100000 in
set_option maxHeartbeats 2000000 in
theorem insnUnlike_walk (op a b n op2 a2 b2 n2 : Int) (w : World) (hV : Vs w) :
    Calls Tryd.prog 5 #[.int .i64 op, .int .i64 a, .int .i64 b, .int .i64 n, .int .i64 op2, .int .i64 a2, .int .i64 b2, .int .i64 n2] w fun e w' => e = .returned (.bool true) ∧ Below w.heap.size w w' := by
  have hp := play_any op a b n 0
  have hp2 := play_any op2 a2 b2 n2 0
  have hk := play0_ok op a b n 0 (by decide)
  have hk2 := play0_ok op2 a2 b2 n2 0 (by decide)
  generalize playP op a b n 0 = x at hp hk
  generalize playP op2 a2 b2 n2 0 = y at hp2 hk2
  go_enter Tryd.func5, Tryd.ntmps5
  go_wp2_with fail
  refine (hp _).mono ?_
  rintro e w1 ⟨rfl, b1⟩
  unfold insV at *
  have V1 := hV.later b1
  go_wp2_with fail
  refine (hp2 _).mono ?_
  rintro e w2 ⟨rfl, b2⟩
  have V2 := V1.later b2
  have c2 := b1.trans (b2.mono b1.size)
  go_wp2_with fail
  have Q2 : X4 w2.heap.size x.op x.a x.b x.n (w2.alloc (.cells #[.int .i64 x.op, .int .i64 x.a, .int .i64 x.b, .int .i64 x.n] 32)) := by
    obtain ⟨x0, x1, x2, x3, hlt⟩ := copy_cells (Below.refl _ (w2.alloc (.cells #[.int .i64 x.op, .int .i64 x.a, .int .i64 x.b, .int .i64 x.n] 32))); exact ⟨x0, x1, x2, x3, hlt⟩
  refine (print_ok x _ ((V2.alloc _).alloc _) hk).mono ?_
  rintro e w3 ⟨rfl, b3⟩
  have V3 := ((V2.alloc _).alloc _).later b3
  have P3 := (Q2.later ((Below.refl _ _).alloc (Nat.le_refl _) _)).later b3
  have R3 : X4 (w2.heap.size + 1) y.op y.a y.b y.n w3 := by
    obtain ⟨x0, x1, x2, x3, hlt⟩ := copy_cells b3; simp only [World.size_alloc] at x0 x1 x2 x3 hlt; exact ⟨x0, x1, x2, x3, hlt⟩
  have c3 : Below w.heap.size w w3 := past_alloc (c2.alloc c2.size _) (by have := c2.size; simp; omega) b3
  obtain ⟨y0, y1, y2, y3, hM⟩ := id R3
  go_wp2_with fail
  clear y0 y1 y2 y3 hM
  refine (print_ok y _ V3 hk2).mono ?_
  rintro e w4 ⟨rfl, b4⟩
  have V4 := V3.later b4
  have P4 := P3.later b4
  have R4 := R3.later b4
  have c4 := c3.trans (b4.mono c3.size)
  obtain ⟨x0, x1, x2, x3, hN⟩ := id P4
  obtain ⟨y0, y1, y2, y3, hM⟩ := id R4
  go_upto_region 4 with fail
  have hne : (prP x).length ≠ 0 := by
    have := tidy_pr x hk
    intro h
    rw [List.length_eq_zero_iff.1 h] at this
    cases this
  have hl0 : (((prP x).length : Int) == 0) = false := by rw [beq_eq_false_iff_ne]; omega
  go_cut [53, 56, 57, 58, 59, 60, 61, 62, 63] (fun _ _ _ _ _ _ _ _ v wx => v = .bool false ∧ Hid (wx = w4))
  case first =>
    by_cases hxy : x = y
    · subst hxy
      go_wp2_with fail
      go_meet
      exact ⟨rfl, rfl⟩
    · have hs : (prP x == prP y) = false := by
        rw [beq_eq_false_iff_ne]; exact fun h => hxy (pr_inj x y hk hk2 h)
      have hd : (x.op == y.op) = false ∨ ((x.op == y.op) = true ∧ (x.a == y.a) = false) ∨ ((x.op == y.op) = true ∧ (x.a == y.a) = true ∧ (x.b == y.b) = false) ∨ ((x.op == y.op) = true ∧ (x.a == y.a) = true ∧ (x.b == y.b) = true ∧ (x.n == y.n) = false) := by
        cases h1 : (x.op == y.op)
        · exact Or.inl rfl
        · cases h2 : (x.a == y.a)
          · exact Or.inr (Or.inl ⟨rfl, rfl⟩)
          · cases h3 : (x.b == y.b)
            · exact Or.inr (Or.inr (Or.inl ⟨rfl, rfl, rfl⟩))
            · cases h4 : (x.n == y.n)
              · exact Or.inr (Or.inr (Or.inr ⟨rfl, rfl, rfl, rfl⟩))
              · exact absurd (by obtain ⟨xo, xa, xb, xn⟩ := x; obtain ⟨yo, ya, yb, yn⟩ := y; simp at h1 h2 h3 h4; subst h1 h2 h3 h4; rfl) hxy
      rcases hd with h1 | ⟨h1, h2⟩ | ⟨h1, h2, h3⟩ | ⟨h1, h2, h3, h4⟩
      all_goals
        go_wp2_with fail
        go_meet
        exact ⟨rfl, rfl⟩
  case rest =>
  obtain ⟨rfl, hw⟩ := hcut
  have hw' := hw.out
  subst hw'
  go_wp2_with fail
  have ht := tidy_pr x hk
  have hz := size_mk (prP x)
  have hlen : (prP x).length ≤ 1000 := pr_len x hk
  clear hne hl0 hp hp2 P4 R4 P3 R3 Q2 x0 x1 x2 x3 hN y0 y1 y2 y3 hM b1 b2 b3 b4 hw
  generalize prP x = l at *
  go_loopg [23] l.length (fun g _ wr => ∃ k : Nat, g + k = l.length ∧ Hid (wr = wc.iter ⟨l.toArray⟩ k))
  case atStart => exact ⟨0, by omega, rfl⟩
  case round =>
    obtain ⟨k, hg, hw⟩ := hrel
    have hw' := hw.out
    subst hw'
    by_cases hk : k < l.length
    · have hs : k < (⟨l.toArray⟩ : ByteArray).size := by omega
      obtain ⟨c, hck⟩ : ∃ c, l[k]? = some c := ⟨_, List.getElem?_eq_getElem hk⟩
      obtain ⟨t1, t2, t3⟩ := tidy_at true l ht k c hck
      have ek := byte_at l k c hck
      have hnx : ∀ ty, (Instr.next (.pointer (some ⟨wc.heap.size, 0, none⟩)) true ty).run Tryd.prog (wc.iter ⟨l.toArray⟩ k) = .ok (.tuple #[.bool true, .int .i64 k, .int .i32 c.toNat]) (wc.iter ⟨l.toArray⟩ (k + 1)) := fun ty => by
        rw [run_next_ascii wc ⟨l.toArray⟩ k ty hs (by rw [ek]; omega), ek]
      have hk' : (k : Int) < (l.length : Int) := by omega
      have hlast : c = 32 → k + 1 < l.length := fun e => (t3 e).2.1
      have hfirst : c = 32 → k ≠ 0 := fun e h0 => by have := (t3 e).1 h0; cases this
      have hprev : c = 32 → ∀ p, k = p + 1 → l[p]? ≠ some 32 := fun e => (t3 e).2.2
      clear t3 hck
      have n1 : ¬ ((c.toNat : Int) < 32) := by omega
      have n2 : ¬ (122 < (c.toNat : Int)) := by omega
      cases hsp : ((c.toNat : Int) == 32)
      · go_wp2
        go_roundg (l.length - (k + 1))
        case measure => omega
        case rel => exact ⟨k + 1, by omega, rfl⟩
      · have hc : c = 32 := by
          have : (c.toNat : Int) = 32 := by simpa using hsp
          exact UInt8.toNat_inj.1 (by show c.toNat = 32; omega)
        obtain ⟨p, rfl⟩ : ∃ p, k = p + 1 := ⟨k - 1, by have := hfirst hc; omega⟩
        have hl2 := hlast hc
        have hp' : p < l.length := by omega
        have hpv := hprev hc p rfl
        obtain ⟨d, hdp⟩ : ∃ d, l[p]? = some d := ⟨_, List.getElem?_eq_getElem hp'⟩
        have ep := byte_at l p d hdp
        rw [hdp] at hpv
        clear hdp
        have hd : ((d.toNat : Int) == 32) = false := by
          rw [beq_eq_false_iff_ne]
          intro h
          exact hpv (by rw [UInt8.toNat_inj.1 (show d.toNat = (32 : UInt8).toNat from by show d.toNat = 32; omega)])
        have m1 : ((p : Int) + 1 == 0) = false := by rw [beq_eq_false_iff_ne]; omega
        have m2 : ((p : Int) + 1 == (l.length : Int) - 1) = false := by rw [beq_eq_false_iff_ne]; omega
        have hp1 : (p : Int) < (l.length : Int) := by omega
        have hp2 : p < (⟨l.toArray⟩ : ByteArray).size := by omega
        clear hlast hfirst hprev hpv
        go_wp2
        go_roundg (l.length - (p + 1 + 1))
        case measure => omega
        case rel => exact ⟨p + 1 + 1, by omega, rfl⟩
    · have hs : ¬ k < (⟨l.toArray⟩ : ByteArray).size := by omega
      have hnx : ∀ ty, (Instr.next (.pointer (some ⟨wc.heap.size, 0, none⟩)) true ty).run Tryd.prog (wc.iter ⟨l.toArray⟩ k) = _ := fun ty => run_next_end wc ⟨l.toArray⟩ k ty hs
      have bi : Below wc.heap.size wc (wc.iter ⟨l.toArray⟩ k) := (Below.refl _ wc).alloc (Nat.le_refl _) _
      go_wp2_with fail
      refine (wakes7 _ (V4.later bi)).mono ?_
      rintro e w5 ⟨rfl, b5⟩
      go_wp2_with fail
      go_ret
      have c5 := c4.trans (bi.mono c4.size)
      exact ⟨rfl, c5.trans (b5.mono c5.size)⟩
end Go.Proofs.YtpnegpcnmmaclaaDoor
