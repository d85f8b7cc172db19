/-
  A process's tables: what walks through them come to (plain).
-/
import Derived.Test.YtfbmjagchjhddabSpW
namespace Go.Proofs.Ytfbmjagchjhddab
open Go.ChangeShapes Go.WideShapes Go.ChangeAt Go.RowKit

theorem folF_pack {n : Nat} (a u g : Bool) {f : Int} (h0 : 0 ≤ f) (hn : f < n) (h64 : n ≤ 64) : folF n (packV a u g f) = 0 := by
  obtain ⟨h1, h2, _⟩ := un_pack a u g f h0 (by omega)
  unfold folF
  rw [if_neg (by rw [h1]; decide), if_pos ⟨h1, by rw [h2]; exact hn⟩]
theorem wstep_pack {s : MS} {page : Int} {l : Nat} {x : WS} {a u g : Bool} {f : Int} (h64 : s.n ≤ 64) (h : s.rd (x.fr * 8 + pidx page l) = packV a u g f) (h0 : 0 ≤ f) (hn : f < s.n) :
    wstep s page l x = (⟨x.pl ++ [x.fr * 8 + pidx page l], packV a u g f, x.wr && a, x.us && u, g, f⟩, 0) := by
  obtain ⟨_, h2, h3, h4, h5⟩ := un_pack a u g f h0 (by omega)
  unfold wstep
  dsimp only
  rw [h, if_pos (folF_pack a u g h0 hn h64), h2, h3, h4, h5]
theorem toP_through {s : MS} {r page : Int} {a0 u0 g0 a1 u1 g1 a2 u2 g2 : Bool} {f0 f1 f2 : Int} (h64 : s.n ≤ 64) (hp : 0 ≤ page ∧ page < 512) (hr : s.hasF r = true)
    (e0 : s.rd (r * 8 + pidx page 0) = packV a0 u0 g0 f0) (n0 : 0 ≤ f0 ∧ f0 < s.n) (e1 : s.rd (f0 * 8 + pidx page 1) = packV a1 u1 g1 f1) (n1 : 0 ≤ f1 ∧ f1 < s.n) (e2 : s.rd (f1 * 8 + pidx page 2) = packV a2 u2 g2 f2) (n2 : 0 ≤ f2 ∧ f2 < s.n) :
    ∃ pl b, toP s r page = (⟨pl, b, a0 && a1 && a2, u0 && u1 && u2, g2, f2⟩, 0) := by
  have s0 : wstep s page 0 ⟨[], 0, true, true, false, r⟩ = (⟨[r * 8 + pidx page 0], packV a0 u0 g0 f0, a0, u0, g0, f0⟩, 0) := by
    have := wstep_pack (l := 0) (x := ⟨[], 0, true, true, false, r⟩) h64 e0 n0.1 n0.2
    simpa using this
  have s1 : wstep s page 1 ⟨[r * 8 + pidx page 0], packV a0 u0 g0 f0, a0, u0, g0, f0⟩ = (⟨[r * 8 + pidx page 0] ++ [f0 * 8 + pidx page 1], packV a1 u1 g1 f1, a0 && a1, u0 && u1, g1, f1⟩, 0) := wstep_pack (l := 1) (x := ⟨[r * 8 + pidx page 0], packV a0 u0 g0 f0, a0, u0, g0, f0⟩) h64 e1 n1.1 n1.2
  have s2 : wstep s page 2 ⟨[r * 8 + pidx page 0] ++ [f0 * 8 + pidx page 1], packV a1 u1 g1 f1, a0 && a1, u0 && u1, g1, f1⟩ = (⟨[r * 8 + pidx page 0] ++ [f0 * 8 + pidx page 1] ++ [f1 * 8 + pidx page 2], packV a2 u2 g2 f2, a0 && a1 && a2, u0 && u1 && u2, g2, f2⟩, 0) := wstep_pack (l := 2) (x := ⟨[r * 8 + pidx page 0] ++ [f0 * 8 + pidx page 1], packV a1 u1 g1 f1, a0 && a1, u0 && u1, g1, f1⟩) h64 e2 n2.1 n2.2
  refine ⟨[r * 8 + pidx page 0] ++ [f0 * 8 + pidx page 1] ++ [f1 * 8 + pidx page 2], packV a2 u2 g2 f2, ?_⟩
  unfold toP
  rw [if_pos hp, if_pos hr]
  simp only [wgo, show (2 : Nat) - 2 = 0 from rfl, show (2 : Nat) - 1 = 1 from rfl, show (2 : Nat) - 0 = 2 from rfl]
  rw [s0]
  simp only [if_true]
  rw [s1]
  simp only [if_true]
  rw [s2]
  simp only [if_true]
theorem toP_none {s : MS} {r page : Int} (hp : 0 ≤ page ∧ page < 512) (hr : s.hasF r = true) (e0 : s.rd (r * 8 + pidx page 0) = 0) : ∃ x, toP s r page = (x, 1) ∧ (blindP s r page).2.2 = false := by
  have hN : unN 0 = 3 := by unfold unN; rw [if_pos (by decide)]
  have hf : folF s.n 0 = 1 := by unfold folF; rw [if_pos hN]
  have s0 : wstep s page 0 ⟨[], 0, true, true, false, r⟩ = (⟨[r * 8 + pidx page 0], 0, false, false, false, 0⟩, 1) := by
    unfold wstep
    dsimp only
    have e0' : s.rd (r * 8 + pidx page ((0 : Nat) : Int)) = 0 := e0
    rw [e0', hf]; rfl
  have ht : toP s r page = (⟨[r * 8 + pidx page 0], 0, false, false, false, 0⟩, 1) := by
    unfold toP
    rw [if_pos hp, if_pos hr]
    simp only [wgo, show (2 : Nat) - 2 = 0 from rfl]
    rw [s0]
    simp
  refine ⟨_, ht, ?_⟩
  unfold blindP
  rw [ht]
  simp
theorem blind_seen {s : MS} {r page : Int} {x : WS} (h : toP s r page = (x, 0)) : (blindP s r page).2.2 = true := by
  unfold blindP; rw [h]; rfl

/-- The memory of 64 frames, booted, and its first space. -/
abbrev y64 (k : Bool) : YS := YS.new 0 k (fun _ => 0) (MS.up 64 k)
theorem y64_S (k : Bool) : (y64 k).S = ⟨0, 15, if k = true then 16 else 15, fun _ => 0, fun _ => 0⟩ := by cases k <;> kernel_rfl
theorem y64_left (k : Bool) : (y64 k).s.left = (if k = true then 47 else 48) := by cases k <;> decide +kernel
theorem up64_left (k : Bool) : (if k = true then 2 else 1) ≤ (MS.up 64 k).left := by cases k <;> decide +kernel
theorem y64_n (k : Bool) : (y64 k).s.n = 64 := by cases k <;> decide +kernel
theorem y64_inv (k : Bool) : YInv (y64 k) := by
  have hS := y64_S k
  have hn := y64_n k
  have hn' : (((y64 k).s.n : Nat) : Int) = 64 := by rw [hn]; rfl
  have hC : ∀ f < 64, 15 ≤ f → (y64 k).s.C f = 0 → ∀ o < 8, (y64 k).s.W (f * 8 + o) = 0 := by cases k <;> decide +kernel
  have h15 : (y64 k).s.C 15 ≠ 0 := by cases k <;> decide +kernel
  have h16 : k = true → (y64 k).s.C 16 ≠ 0 := by cases k <;> decide +kernel
  refine ⟨by rw [hn]; decide, ?_, ?_, fun i => Or.inl (by rw [hS]), fun i => Or.inl (by rw [hS]), fun i j h => absurd (by rw [hS]) h, fun i j h => absurd (by rw [hS]) h, fun i j h => absurd (by rw [hS]) h, fun i => ?_, fun i => ?_, fun j h => absurd (by rw [hS]) h, fun f f0 f1 c o ho => hC f (by rw [hn] at f1; exact f1) f0 c o ho⟩
  · unfold MS.had; rw [hn', show (y64 k).S.kern = 15 by rw [hS]]; exact ⟨by decide, by decide, h15⟩
  · unfold MS.had
    cases k with
    | true => rw [hn', show (y64 true).S.user = 16 by rw [hS]; rfl]; exact ⟨by decide, by decide, by rw [show (16 : Int).toNat = 16 from rfl]; exact h16 (by rfl)⟩
    | false => rw [hn', show (y64 false).S.user = 15 by rw [hS]; rfl]; exact ⟨by decide, by decide, by rw [show (15 : Int).toNat = 15 from rfl]; exact h15⟩
  · rw [hS]; cases k <;> (constructor <;> (simp))
  · rw [hS]; cases k <;> (constructor <;> (simp))
theorem y64_w (k : Bool) : WInv (MS.up 64 k) k (y64 k) := by
  have hS := y64_S k
  have hn := y64_n k
  have hw : ∀ n < 512, 0 ≤ (y64 k).s.W n ∧ (y64 k).s.W n < 18446744073709551616 := by cases k <;> decide +kernel
  have hlow : ∀ n < 96, (y64 k).s.rd (24 + ((n : Nat) : Int)) = (MS.up 64 k).rd (24 + ((n : Nat) : Int)) := by cases k <;> decide +kernel
  refine ⟨by cases k <;> decide +kernel, by cases k <;> decide +kernel, by cases k <;> decide +kernel, ?_, fun i _ h => absurd (by rw [hS]) h, fun i j _ _ h => absurd (by rw [hS]) h, fun a a0 a1 => ?_, fun a => ?_, fun h => by subst h; rw [hS]; rfl⟩
  · intro h; subst h; decide +kernel
  · obtain ⟨n, hh⟩ : ∃ n : Nat, a = 24 + (n : Int) := ⟨(a - 24).toNat, by omega⟩
    rw [hh]; exact hlow n (by omega)
  · unfold MS.rd
    split
    · rename_i h
      obtain ⟨b0, b1⟩ := ((y64 k).s.hasW_iff a).1 h
      rw [hn] at b1
      exact hw a.toNat (by omega)
    · exact ⟨Int.le_refl 0, by decide⟩
/-- The kernel's map and the gate, as booted. -/
theorem up64_map (k : Bool) (f : Nat) (hf : f < 64) : (MS.up 64 k).rd (24 + (f / 8 : Nat)) = packV true false false (4 + (f / 8 : Nat)) ∧ (MS.up 64 k).rd (32 + (f : Int)) = packV true false (!k) (f : Int) := by
  have : ∀ f < 64, (MS.up 64 k).rd (24 + ((f / 8 : Nat) : Int)) = packV true false false (4 + ((f / 8 : Nat) : Int)) ∧ (MS.up 64 k).rd (32 + ((f : Nat) : Int)) = packV true false (!k) ((f : Nat) : Int) := by cases k <;> decide +kernel
  exact this f hf
theorem up64_gate (k : Bool) : (MS.up 64 k).rd 104 = packV true true false 14 ∧ (MS.up 64 k).rd 112 = packV false true true 12 := by cases k <;> decide +kernel

theorem map_to {k : Bool} {y : YS} (hn : y.s.n = 64) (h : YInv y) (w : WInv (MS.up 64 k) k y) (f : Nat) (hf : f < 64) : ∃ pl b, toP y.s y.S.kern (256 + (f : Int)) = (⟨pl, b, true, false, !k, (f : Int)⟩, 0) := by
  obtain ⟨m1, m2⟩ := up64_map k f hf
  obtain ⟨k15, kn, _⟩ := h.kern
  have p0 : pidx (256 + (f : Int)) 0 = 4 := by rw [pidx0 (by omega) (by omega)]; omega
  have p1 : pidx (256 + (f : Int)) 1 = ((f / 8 : Nat) : Int) := by rw [pidx1 (by omega) (by omega)]; omega
  have p2 : pidx (256 + (f : Int)) 2 = ((f % 8 : Nat) : Int) := by rw [pidx2 (by omega) (by omega)]; omega
  exact toP_through (a0 := true) (u0 := false) (g0 := false) (f0 := 3) (a1 := true) (u1 := false) (g1 := false) (f1 := 4 + ((f / 8 : Nat) : Int)) (a2 := true) (u2 := false) (g2 := !k) (f2 := (f : Int)) (by omega) ⟨by omega, by omega⟩ ((y.s.hasF_iff _).2 ⟨by omega, kn⟩)
    (by rw [p0]; exact w.k4) ⟨by decide, by omega⟩
    (by rw [p1, show (3 : Int) * 8 + ((f / 8 : Nat) : Int) = 24 + ((f / 8 : Nat) : Int) by omega, w.low _ (by omega) (by omega)]; exact m1) ⟨by omega, by omega⟩
    (by rw [p2, show (4 + ((f / 8 : Nat) : Int)) * 8 + ((f % 8 : Nat) : Int) = 32 + (f : Int) by omega, w.low _ (by omega) (by omega)]; exact m2) ⟨by omega, by omega⟩
theorem gate_to {k : Bool} {y : YS} (hn : y.s.n = 64) (w : WInv (MS.up 64 k) k y) {r : Int} (hr : y.s.had r) (h7 : y.s.rd (r * 8 + 7) = opn 13) : ∃ pl b, toP y.s r 448 = (⟨pl, b, false, true, true, 12⟩, 0) := by
  obtain ⟨g1, g2⟩ := up64_gate k
  obtain ⟨r15, rn, _⟩ := hr
  exact toP_through (a0 := true) (u0 := true) (g0 := false) (f0 := 13) (a1 := true) (u1 := true) (g1 := false) (f1 := 14) (a2 := false) (u2 := true) (g2 := true) (f2 := 12) (by omega) (by decide) ((y.s.hasF_iff _).2 ⟨by omega, rn⟩)
    (by rw [show pidx 448 0 = 7 by decide]; exact h7) ⟨by decide, by omega⟩
    (by rw [show pidx 448 1 = 0 by decide, show (13 : Int) * 8 + 0 = 104 by decide, w.low _ (by decide) (by decide)]; exact g1) ⟨by decide, by omega⟩
    (by rw [show pidx 448 2 = 0 by decide, show (14 : Int) * 8 + 0 = 112 by decide, w.low _ (by decide) (by decide)]; exact g2) ⟨by decide, by omega⟩
theorem user_to {k : Bool} {y : YS} (hn : y.s.n = 64) (h : YInv y) (w : WInv (MS.up 64 k) k y) {page F : Int} (p0 : 0 ≤ page) (p1 : page < 256) (hl : y.S.la (pk page) ≠ 0) (hF : 0 ≤ F ∧ F < 64) (hg : y.s.rd (y.S.pl page) = packV true true false F) :
    (∃ pl b, toP y.s y.S.kern page = (⟨pl, b, true, true, false, F⟩, 0)) ∧ ∃ pl b, toP y.s y.S.user page = (⟨pl, b, true, true, false, F⟩, 0) := by
  have hu := h.laUp _ hl
  rw [pk_div] at hu
  have i4 : (page / 64).toNat < 4 := by omega
  have j8 : (page / 8 % 8).toNat < 8 := by omega
  obtain ⟨eK, eU⟩ := w.ku _ i4 hu
  have eL := w.ul _ _ i4 j8 hl
  obtain ⟨u15, un, _⟩ := (h.up (page / 64).toNat).resolve_left hu
  obtain ⟨l15, ln, _⟩ := (h.la (pk page)).resolve_left hl
  obtain ⟨k15, kn, _⟩ := h.kern
  obtain ⟨s15, sn, _⟩ := h.user
  have q0 : pidx page 0 = ((page / 64).toNat : Int) := by rw [pidx0 p0 (by omega)]; omega
  have q1 : pidx page 1 = ((page / 8 % 8).toNat : Int) := by rw [pidx1 p0 (by omega)]; omega
  have q2 : pidx page 2 = page % 8 := pidx2 p0 (by omega)
  constructor
  · exact toP_through (a0 := true) (u0 := true) (g0 := false) (f0 := y.S.up (page / 64).toNat) (a1 := true) (u1 := true) (g1 := false) (f1 := y.S.la (pk page)) (a2 := true) (u2 := true) (g2 := false) (f2 := F) (by omega) ⟨p0, by omega⟩ ((y.s.hasF_iff _).2 ⟨by omega, kn⟩)
      (by rw [q0]; exact eK) ⟨by omega, un⟩ (by rw [q1]; exact eL) ⟨by omega, ln⟩ (by rw [q2]; exact hg) ⟨hF.1, by omega⟩
  · exact toP_through (a0 := true) (u0 := true) (g0 := false) (f0 := y.S.up (page / 64).toNat) (a1 := true) (u1 := true) (g1 := false) (f1 := y.S.la (pk page)) (a2 := true) (u2 := true) (g2 := false) (f2 := F) (by omega) ⟨p0, by omega⟩ ((y.s.hasF_iff _).2 ⟨by omega, sn⟩)
      (by rw [q0]; exact eU) ⟨by omega, un⟩ (by rw [q1]; exact eL) ⟨by omega, ln⟩ (by rw [q2]; exact hg) ⟨hF.1, by omega⟩
end Go.Proofs.Ytfbmjagchjhddab
