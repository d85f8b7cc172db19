/-
  Two spaces over one pool, plain: one is given back; how they begin.
-/
import Derived.Test.YtaofkedcdeocjaaSpAp
import Derived.Test.YtaofkedcdeocjaaSpV
namespace Go.Proofs.Ytaofkedcdeocjaa
open Go.ChangeShapes Go.WideShapes Go.ChangeAt Go.RowKit

def MS.free0 (s : MS) : Prop := ∀ f : Nat, 15 ≤ f → f < s.n → s.C f = 0 → ∀ o : Nat, o < 8 → s.W (f * 8 + o) = 0
theorem given_one {R : Nat → Int} {s : MS} {f : Int} (hn : s.n ≤ 64) (hf : s.had f) (h1 : R f.toNat = 1) :
    (s.given R f).n = s.n ∧ (s.given R f).left = s.left + 1 ∧ (∀ g, s.had g → g ≠ f → (s.given R f).had g) ∧ (∀ g m : Int, 0 ≤ g → g ≠ f → 0 ≤ m → m < 8 → (s.given R f).rd (g * 8 + m) = s.rd (g * 8 + m)) ∧ (s.free0 → (s.given R f).free0) ∧ rgive R f = rset R f 0 := by
  obtain ⟨f0, f1, f2⟩ := hf
  have hr : rf R f = 1 := by unfold rf; rw [if_pos ⟨by omega, by omega⟩]; exact h1
  have hF : s.hasF f = true := (s.hasF_iff _).2 (by omega)
  have hm : (s.zero f).mayM f 0 = true := (s.zero f).mayM_mk _ _ (by rw [MS.hasF_of_n (s.zero_n f)]; exact hF) (by omega) (by omega)
  have hg : s.given R f = ⟨s.n, fun i => if i / 8 = f.toNat then 0 else s.W i, fun i => if i = f.toNat then 0 else s.C i, fun i => if i = f.toNat then -1 else s.O i⟩ := by
    unfold MS.given; rw [if_pos hr]
    unfold MS.mark; rw [if_pos hm]
    unfold MS.zero; rw [if_pos hF]
  rw [hg]
  refine ⟨rfl, ?_, fun g hh hne => ⟨hh.1, hh.2.1, ?_⟩, fun g m g0 hne m0 m1 => ?_, fun h0 g g0 g1 hc o ho => ?_, ?_⟩
  · have hc := cnt_set (C := fun i => if i = f.toNat then 0 else s.C i) (f := f.toNat) (v := s.C f.toNat) (by omega) (by simp) f2 (s.n - 15)
    rw [if_pos (by omega)] at hc
    have e : (fun i => if i = f.toNat then s.C f.toNat else if i = f.toNat then 0 else s.C i) = s.C := by
      funext i
      by_cases e : i = f.toNat
      · rw [if_pos e, e]
      · rw [if_neg e, if_neg e]
    rw [e] at hc
    unfold MS.left
    exact hc.symm
  · show (if g.toNat = f.toNat then (0 : Int) else s.C g.toNat) ≠ 0
    rw [if_neg (by have := hh.1; omega)]; exact hh.2.2
  · unfold MS.rd MS.hasW
    show (if _ then (if (g * 8 + m).toNat / 8 = f.toNat then (0 : Int) else s.W _) else 0) = _
    rw [if_neg (show ¬ (g * 8 + m).toNat / 8 = f.toNat by omega)]
  · show (if (g * 8 + o) / 8 = f.toNat then (0 : Int) else s.W _) = 0
    by_cases e : g = f.toNat
    · rw [if_pos (by omega)]
    · rw [if_neg (by omega)]
      refine h0 g g0 g1 ?_ o ho
      have : (if g = f.toNat then (0 : Int) else s.C g) = 0 := hc
      rwa [if_neg e] at this
  · unfold rgive; rw [if_pos (by omega), hr]; rfl

theorem give_all : ∀ (L : List Int) (R : Nat → Int) (s : MS), s.n ≤ 64 → (∀ f ∈ L, s.had f ∧ R f.toNat = 1) → L.Nodup → (∀ j, R j ≤ 1) → s.free0 →
    (giveL R s L).2.n = s.n ∧ (giveL R s L).2.left = s.left + L.length ∧ (∀ g, s.had g → g ∉ L → (giveL R s L).2.had g ∧ (giveL R s L).1 g.toNat = R g.toNat) ∧
      (∀ g m : Int, s.had g → g ∉ L → 0 ≤ m → m < 8 → (giveL R s L).2.rd (g * 8 + m) = s.rd (g * 8 + m)) ∧ (giveL R s L).2.free0 ∧ ∀ j, (giveL R s L).1 j ≤ 1
  | [], R, s, hn, _, _, hb, h0 => ⟨rfl, rfl, fun _ h _ => ⟨h, rfl⟩, fun _ _ _ _ _ _ => rfl, h0, hb⟩
  | f :: L, R, s, hn, hL, hd, hb, h0 => by
    obtain ⟨hf, h1⟩ := hL f (List.mem_cons_self ..)
    obtain ⟨g1, g2, g3, g4, g5, g6⟩ := given_one hn hf h1
    obtain ⟨d1, d2⟩ := List.nodup_cons.1 hd
    have hne : ∀ g ∈ L, g ≠ f := fun g hg e => d1 (e ▸ hg)
    have e : giveL R s (f :: L) = giveL (rset R f 0) (s.given R f) L := by rw [← g6]; rfl
    have rne : ∀ g, s.had g → g ≠ f → rset R f 0 g.toNat = R g.toNat := fun g hg h => by
      unfold rset; rw [if_neg (by have := hg.1; have := hf.1; omega)]
    obtain ⟨i1, i2, i3, i4, i5, i6⟩ := give_all L (rset R f 0) (s.given R f) (by rw [g1]; exact hn) (fun g hg => ⟨g3 g (hL g (List.mem_cons_of_mem _ hg)).1 (hne g hg), by rw [rne g (hL g (List.mem_cons_of_mem _ hg)).1 (hne g hg)]; exact (hL g (List.mem_cons_of_mem _ hg)).2⟩) d2
      (fun j => by unfold rset; split; decide; exact hb j) (g5 h0)
    rw [e]
    refine ⟨i1.trans g1, by rw [i2, g2, List.length_cons]; omega, fun g hg hm => ?_, fun g m hg hm m0 m1 => ?_, i5, i6⟩
    · rw [List.mem_cons, not_or] at hm
      obtain ⟨k1, k2⟩ := i3 g (g3 g hg hm.1) hm.2
      exact ⟨k1, k2.trans (rne g hg hm.1)⟩
    · rw [List.mem_cons, not_or] at hm
      rw [i4 g m (g3 g hg hm.1) hm.2 m0 m1, g4 g m (by have := hg.1; omega) hm.1 m0 m1]

/-- The first one given back. -/
theorem Two.drop {A B : SS} {R : Nat → Int} {s : MS} (h : Two A B R s) :
    YInv ⟨B, (giveL R s A.stab).1, (giveL R s A.stab).2⟩ ∧ (∀ f, B.its f → (giveL R s A.stab).1 f.toNat = 1) ∧ (∀ j, (giveL R s A.stab).1 j ≤ 1) ∧ (giveL R s A.stab).2.left = s.left + A.tabs.length ∧ ∀ P, getP B (giveL R s A.stab).2 P = getP B s P := by
  obtain ⟨i1, i2, i3, i4, i5, i6⟩ := give_all A.stab R s h.a.n64 (fun f hf => ⟨h.a.itsHad (tabs_its hf), h.r f (Or.inl (tabs_its hf))⟩) (stab_nodup A) h.bd h.a.free0
  have hno : ∀ f, B.its f → f ∉ A.stab := fun f hB hm => h.ap f (tabs_its hm) hB
  have hitsB : ∀ f, B.its f → (giveL R s A.stab).2.had f := fun f hf => (i3 f (h.b.itsHad hf) (hno f hf)).1
  have hb := h.b
  have k0 : B.kern ≠ 0 := by have := hb.kern.1; dsimp only at this; omega
  have u0 : B.user ≠ 0 := by have := hb.user.1; dsimp only at this; omega
  refine ⟨⟨by rw [i1]; exact hb.n64, hitsB _ ⟨k0, Or.inl rfl⟩, hitsB _ ⟨u0, Or.inr (Or.inl rfl)⟩, fun i => ?_, fun k => ?_, hb.upNe, hb.laNe, hb.upla, hb.upR, hb.laR, hb.laUp, i5⟩, fun f hf => ?_, i6, by rw [i2, stab_len], fun P => getP_other hb (fun g m hi m0 m1 => i4 g m (h.b.itsHad hi) (hno g hi) m0 m1) P⟩
  · by_cases e : B.up i = 0
    · exact Or.inl e
    · exact Or.inr (hitsB _ ⟨e, Or.inr (Or.inr (Or.inl ⟨i, rfl⟩))⟩)
  · by_cases e : B.la k = 0
    · exact Or.inl e
    · exact Or.inr (hitsB _ ⟨e, Or.inr (Or.inr (Or.inr ⟨k, rfl⟩))⟩)
  · rw [(i3 f (h.b.itsHad hf) (hno f hf)).2]; exact h.r f (Or.inr hf)
/-- A space alone given back. -/
theorem YInv.drop {B : SS} {R : Nat → Int} {s : MS} (h : YInv ⟨B, R, s⟩) (h1 : ∀ f, B.its f → R f.toNat = 1) (hb : ∀ j, R j ≤ 1) : (giveL R s B.stab).2.left = s.left + B.tabs.length := by
  obtain ⟨_, i2, _⟩ := give_all B.stab R s h.n64 (fun f hf => ⟨h.itsHad (tabs_its hf), h1 f (tabs_its hf)⟩) (stab_nodup B) hb h.free0
  rw [i2, stab_len]

/-- Two spaces in the memory of 64 frames. -/
abbrev z64 (k : Bool) : YS := YS.new 1 k (y64 k).R (y64 k).s
theorem z64_S (k : Bool) : (z64 k).S = ⟨1, if k = true then 17 else 16, if k = true then 18 else 16, fun _ => 0, fun _ => 0⟩ := by cases k <;> kernel_rfl
theorem z64_left (k : Bool) : (z64 k).s.left = (if k = true then 45 else 47) := by cases k <;> decide +kernel
theorem y64_two (k : Bool) : (if k = true then 2 else 1) ≤ (y64 k).s.left := by cases k <;> decide +kernel
theorem up64_all (k : Bool) : (MS.up 64 k).left = 49 := by cases k <;> decide +kernel
theorem z64_n (k : Bool) : (z64 k).s.n = 64 := by cases k <;> decide +kernel
theorem z64_tabs (k : Bool) : (y64 k).S.tabs.length = (if k = true then 2 else 1) ∧ (z64 k).S.tabs.length = (if k = true then 2 else 1) := by
  rw [y64_S, z64_S]; cases k <;> exact ⟨by decide +kernel, by decide +kernel⟩
theorem new_inv {S : SS} {R : Nat → Int} {s : MS} (hn : s.n = 64) (hu : S.up = fun _ => 0) (hl : S.la = fun _ => 0) (hk : s.had S.kern) (hus : s.had S.user) (hC : ∀ f < 64, 15 ≤ f → s.C f = 0 → ∀ o < 8, s.W (f * 8 + o) = 0) : YInv ⟨S, R, s⟩ := by
  have k0 := hk.1
  have u0 := hus.1
  have eu : ∀ i, S.up i = 0 := fun i => by rw [hu]
  have el : ∀ i, S.la i = 0 := fun i => by rw [hl]
  exact ⟨by show s.n ≤ 64; omega, hk, hus, fun i => Or.inl (eu i), fun i => Or.inl (el i), fun i j h => absurd (eu i) h, fun i j h => absurd (el i) h, fun i j h => absurd (eu i) h, fun i => by
      dsimp only; rw [eu]; omega, fun i => by dsimp only; rw [el]; omega, fun j h => absurd (el j) h, fun f f0 f1 c o ho => hC f (by dsimp only at f1; omega) f0 c o ho⟩
theorem z64_two (k : Bool) : Two (y64 k).S (z64 k).S (z64 k).R (z64 k).s := by
  have hn := z64_n k
  have hC : ∀ f < 64, 15 ≤ f → (z64 k).s.C f = 0 → ∀ o < 8, (z64 k).s.W (f * 8 + o) = 0 := by cases k <;> decide +kernel
  have hc : ∀ f < 19, 15 ≤ f → f < (if k = true then 19 else 17) → (z64 k).s.C f ≠ 0 := by cases k <;> decide +kernel
  have hr : ∀ f < 19, 15 ≤ f → f < (if k = true then 19 else 17) → (z64 k).R f = 1 := by cases k <;> decide +kernel
  have hb : ∀ j, (z64 k).R j ≤ 1 := by
    intro j
    by_cases e : j < 19
    · have : ∀ j < 19, (z64 k).R j ≤ 1 := by cases k <;> decide +kernel
      exact this j e
    · have hl1 : (MS.up 64 k).least = 15 := by cases k <;> decide +kernel
      cases k <;> (simp only [z64, y64, YS.new, if_true, Bool.false_eq_true, if_false]; unfold rset; repeat' split) <;> first | exact Int.le_refl 1 | exact (by decide : (0 : Int) ≤ 1)
  have had : ∀ f : Int, 15 ≤ f → f < (if k = true then 19 else 17) → (z64 k).s.had f := fun f f0 f1 => by
    have f2 : f < 19 := by cases k <;> simp at f1 <;> omega
    refine ⟨f0, by rw [hn]; omega, hc f.toNat (by omega) (by omega) ?_⟩
    cases k <;> simp at f1 ⊢ <;> omega
  have iA : ∀ f, (y64 k).S.its f → 15 ≤ f ∧ f < (if k = true then 17 else 16) := by
    rintro f ⟨h0, h⟩
    rw [y64_S] at h
    dsimp only at h
    rcases h with h | h | ⟨_, h⟩ | ⟨_, h⟩
    · subst h; cases k <;> decide
    · subst h; cases k <;> decide
    · exact absurd h h0
    · exact absurd h h0
  have iB : ∀ f, (z64 k).S.its f → (if k = true then 17 else 16) ≤ f ∧ f < (if k = true then 19 else 17) := by
    rintro f ⟨h0, h⟩
    rw [z64_S] at h
    dsimp only at h
    rcases h with h | h | ⟨_, h⟩ | ⟨_, h⟩
    · subst h; cases k <;> decide
    · subst h; cases k <;> decide
    · exact absurd h h0
    · exact absurd h h0
  refine ⟨new_inv hn (by rw [y64_S]) (by rw [y64_S]) (had _ ?_ ?_) (had _ ?_ ?_) hC, new_inv hn (by rw [z64_S]) (by rw [z64_S]) (had _ ?_ ?_) (had _ ?_ ?_) hC, fun f ha hb => ?_, fun f hf => ?_, hb⟩
  · rw [y64_S]; exact Int.le_refl 15
  · rw [y64_S]; cases k <;> decide
  · rw [y64_S]; cases k <;> decide
  · rw [y64_S]; cases k <;> decide
  · rw [z64_S]; cases k <;> decide
  · rw [z64_S]; cases k <;> decide
  · rw [z64_S]; cases k <;> decide
  · rw [z64_S]; cases k <;> decide
  · have h1 := iA f ha
    have h2 := iB f hb
    omega
  · have h3 : 15 ≤ f ∧ f < (if k = true then 19 else 17) := by
      rcases hf with hf | hf
      · have := iA f hf; cases k <;> simp at this ⊢ <;> omega
      · have := iB f hf; cases k <;> simp at this ⊢ <;> omega
    refine hr f.toNat ?_ (by omega) ?_ <;> cases k <;> simp at h3 ⊢ <;> omega
end Go.Proofs.Ytaofkedcdeocjaa
