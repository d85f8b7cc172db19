/-
  walk: Blind.
-/
import Derived.Test.YtfbmjagchjhddabWalkC
namespace Go.Proofs.Ytfbmjagchjhddab
open Go.ChangeShapes Go.WideShapes Go.ChangeAt Go.RowKit

/-- What a blind walk answers: a frame, whether it is present, whether there is one. -/
def blindP (s : MS) (root page : Int) : Int × Bool × Bool :=
  let r := toP s root page
  if r.2 = 0 then (r.1.fr, true, true)
  else if r.2 = 1 ∧ 3 ≤ r.1.pl.length ∧ s.hasF (r.1.bits / 4096 % 1099511627776) = true then (r.1.bits / 4096 % 1099511627776, false, true)
  else (0, false, false)

theorem wgo_bits (s : MS) (hW : ∀ a, 0 ≤ s.rd a ∧ s.rd a < 18446744073709551616) (page : Int) : ∀ (f : Nat) (a : WS), (0 ≤ a.bits ∧ a.bits < 18446744073709551616) → 0 ≤ (wgo s page f a).1.bits ∧ (wgo s page f a).1.bits < 18446744073709551616
  | 0, a, h => h
  | f + 1, a, h => by
    have hs : 0 ≤ (wstep s page (2 - f) a).1.bits ∧ (wstep s page (2 - f) a).1.bits < 18446744073709551616 := by
      unfold wstep; dsimp only
      split <;> exact hW _
    unfold wgo
    split
    · exact wgo_bits s hW page f _ hs
    · exact hs
theorem toP_bits (s : MS) (hW : ∀ a, 0 ≤ s.rd a ∧ s.rd a < 18446744073709551616) (root page : Int) : 0 ≤ (toP s root page).1.bits ∧ (toP s root page).1.bits < 18446744073709551616 := by
  unfold toP
  split
  · split
    · exact wgo_bits s hW page 3 _ ⟨Int.le_refl 0, by show (0 : Int) < 18446744073709551616; decide⟩
    · exact ⟨Int.le_refl 0, by decide⟩
  · exact ⟨Int.le_refl 0, by decide⟩

set_option maxRecDepth 20000 in
set_option maxHeartbeats 2000000 in
theorem blind_any {w : World} {b c : Nat} {s : MS} (m : MemAt w b c s) (hW : ∀ a, 0 ≤ s.rd a ∧ s.rd a < 18446744073709551616) (root page : Int) :
    Calls Try.prog 14 #[.pointer (some ⟨b, 0, none⟩), .int .i64 root, .int .i64 page] w fun e w' => ∃ a cap, e = .returned (.tuple #[.int .i64 (blindP s root page).1, .bool (blindP s root page).2.1, .bool (blindP s root page).2.2, .slice a (toP s root page).1.pl.length cap]) ∧ OL w' w.heap.size a cap (toP s root page).1.pl ∧ Below w.heap.size w w' := by
  have hT := to_any m hW root page
  have hbits := toP_bits s hW root page
  obtain ⟨g, hg⟩ : ∃ g, Hid (blindP s root page = g) := ⟨_, rfl⟩
  have hg2 : Hid ((if (toP s root page).2 = 0 then ((toP s root page).1.fr, true, true) else if (toP s root page).2 = 1 ∧ 3 ≤ (toP s root page).1.pl.length ∧ s.hasF ((toP s root page).1.bits / 4096 % 1099511627776) = true then ((toP s root page).1.bits / 4096 % 1099511627776, false, true) else (0, false, false)) = g) := hg.out
  rw [hg.out]
  generalize toP s root page = r at *
  obtain ⟨⟨pl, bits, wr, us, gl, fr⟩, f⟩ := r
  dsimp only at hbits hT hg2 ⊢
  unfold stepV at hT
  dsimp only at hT
  go_enter Try.func14, Try.ntmps14
  go_upto_region 2 with (go_at_call 12; refine hT.mono ?_; rintro e w1 ⟨A, cap, rfl, hO, b1⟩)
  have hx : (w1.alloc (.cells #[.slice A pl.length cap, .int .u64 bits, .bool wr, .bool us, .bool gl, .int .i64 fr] 42)).heap[w1.heap.size]? = some (.cells #[.slice A pl.length cap, .int .u64 bits, .bool wr, .bool us, .bool gl, .int .i64 fr] 42 (0, 0)) := heap_alloc_new w1 _
  have bA := (Below.refl w1.heap.size w1).alloc (Nat.le_refl _) (.cells #[.slice A pl.length cap, .int .u64 bits, .bool wr, .bool us, .bool gl, .int .i64 fr] 42)
  have hO2 := hO.later bA
  have hB2 := b1.trans (bA.mono b1.size)
  clear hO b1 bA hT
  generalize w1.alloc (.cells #[.slice A pl.length cap, .int .u64 bits, .bool wr, .bool us, .bool gl, .int .i64 fr] 42) = W at *
  generalize w1.heap.size = X at *
  have c0 : W.cell? ⟨X, 0, none⟩ = some (.slice A pl.length cap) := by simp [World.cell?, hx]
  have c1 : W.cell? ⟨X, 1, none⟩ = some (.int .u64 bits) := by simp [World.cell?, hx]
  have c5 : W.cell? ⟨X, 5, none⟩ = some (.int .i64 fr) := by simp [World.cell?, hx]
  have hdr : ∀ n, OL (W.drewN n) w.heap.size A cap pl ∧ Below w.heap.size w (W.drewN n) := fun n => ⟨hO2.later ⟨rfl, rfl, rfl, Nat.le_refl _, fun _ _ => rfl⟩, ⟨hB2.os, hB2.tape, hB2.output, hB2.size, hB2.block⟩⟩
  by_cases h0 : f = 0
  · have e : Hid (g = (fr, true, true)) := by show _ = _; rw [← hg2.out, if_pos h0]
    subst h0
    go_upto_region 3 with fail
    go_quiet (fail)
    go_wp2
    refine bodyPost_ret (v := .tuple #[.int .i64 fr, .bool true, .bool true, .slice A pl.length cap]) (by simp [results, Try.results14, go_sem]) rfl ⟨A, cap, by rw [e.out], (hdr _).1, (hdr _).2⟩
  · have h0' : (f == 0) = false := by simpa using h0
    have no : ¬ (f = 1 ∧ 3 ≤ pl.length ∧ s.hasF (bits / 4096 % 1099511627776) = true) → Hid (g = (0, false, false)) := fun hn => by show _ = _; rw [← hg2.out, if_neg h0, if_neg hn]
    by_cases h1 : f = 1
    · have h1' : (f != 1) = false := by simp [h1]
      by_cases h3 : 3 ≤ pl.length
      · have h3' : ¬ ((pl.length : Int) < 3) := by omega
        have hR := fun wx => raw_any bits wx hbits.1 hbits.2
        have hH := whas_any (m.touch (S := Nil) (Touch.ofBelow hB2) (fun h => h) (fun h => h)) (bits / 4096 % 1099511627776)
        cases hh : s.hasF (bits / 4096 % 1099511627776)
        · have e := no (fun hn => by rw [hh] at hn; exact absurd hn.2.2 (by decide))
          rw [hh] at hH
          clear h0 no hg2
          go_upto_region 8 with (first | (go_at_call 36; refine (hR _).mono ?_; rintro e wq ⟨rfl, rfl⟩) | (go_at_call 33; refine hH.mono ?_; rintro e wq ⟨rfl, rfl⟩))
          go_quiet (fail)
          go_wp2
          refine bodyPost_ret (v := .tuple #[.int .i64 0, .bool false, .bool false, .slice A pl.length cap]) (by simp [results, Try.results14, go_sem]) rfl ⟨A, cap, by rw [e.out], (hdr _).1, (hdr _).2⟩
        · have e : Hid (g = (bits / 4096 % 1099511627776, false, true)) := by show _ = _; rw [← hg2.out, if_neg h0, if_pos ⟨h1, h3, hh⟩]
          rw [hh] at hH
          clear h0 no hg2
          go_upto_region 9 with (first | (go_at_call 36; refine (hR _).mono ?_; rintro e wq ⟨rfl, rfl⟩) | (go_at_call 33; refine hH.mono ?_; rintro e wq ⟨rfl, rfl⟩))
          go_quiet (fail)
          go_wp2
          refine bodyPost_ret (v := .tuple #[.int .i64 (bits / 4096 % 1099511627776), .bool false, .bool true, .slice A pl.length cap]) (by simp [results, Try.results14, go_sem]) rfl ⟨A, cap, by rw [e.out], (hdr _).1, (hdr _).2⟩
      · have h3' : (pl.length : Int) < 3 := by omega
        have e := no (fun hn => h3 hn.2.1)
        clear h0 no hg2
        go_upto_region 5 with fail
        go_quiet (fail)
        go_wp2
        refine bodyPost_ret (v := .tuple #[.int .i64 0, .bool false, .bool false, .slice A pl.length cap]) (by simp [results, Try.results14, go_sem]) rfl ⟨A, cap, by rw [e.out], (hdr _).1, (hdr _).2⟩
    · have h1' : (f != 1) = true := by simpa using h1
      have e := no (fun hn => h1 hn.1)
      clear h0 h1 no hg2
      go_upto_region 5 with fail
      go_quiet (fail)
      go_wp2
      refine bodyPost_ret (v := .tuple #[.int .i64 0, .bool false, .bool false, .slice A pl.length cap]) (by simp [results, Try.results14, go_sem]) rfl ⟨A, cap, by rw [e.out], (hdr _).1, (hdr _).2⟩
end Go.Proofs.Ytfbmjagchjhddab
