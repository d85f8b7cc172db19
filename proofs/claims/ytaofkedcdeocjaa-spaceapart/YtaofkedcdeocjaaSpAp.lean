/-
  Two spaces over one pool, plain: a set in one leaves the other as it was.
-/
import Derived.Test.YtaofkedcdeocjaaSpN
import Derived.Test.YtaofkedcdeocjaaSpM
namespace Go.Proofs.Ytaofkedcdeocjaa
open Go.ChangeShapes Go.WideShapes Go.ChangeAt Go.RowKit

/-- A frame of a space's. -/
def SS.its (S : SS) (f : Int) : Prop := f ≠ 0 ∧ (f = S.kern ∨ f = S.user ∨ (∃ i, f = S.up i) ∨ ∃ k, f = S.la k)
theorem YInv.itsHad {y : YS} (h : YInv y) {f : Int} (hf : y.S.its f) : y.s.had f := by
  obtain ⟨h0, rfl | rfl | ⟨i, rfl⟩ | ⟨k, rfl⟩⟩ := hf
  · exact h.kern
  · exact h.user
  · exact (h.up i).resolve_left h0
  · exact (h.la k).resolve_left h0

/-- What a set does to a memory and a pool: what was had stays, new tables were free. -/
structure Grow (y z : YS) : Prop where
  n : z.s.n = y.s.n
  had : ∀ g, y.s.had g → z.s.had g
  rd : ∀ g m : Int, y.s.had g → ¬ y.S.its g → 0 ≤ m → m < 8 → z.s.rd (g * 8 + m) = y.s.rd (g * 8 + m)
  its : ∀ f, z.S.its f → y.S.its f ∨ ¬ y.s.had f
  r : ∀ f, y.s.had f → z.R f.toNat = y.R f.toNat
  r1 : ∀ f, z.S.its f → ¬ y.s.had f → z.R f.toNat = 1
  bd : (∀ j, y.R j ≤ 1) → ∀ j, z.R j ≤ 1
theorem Grow.refl (y : YS) (h : YInv y) : Grow y y := ⟨rfl, fun _ h => h, fun _ _ _ _ _ _ => rfl, fun _ h => Or.inl h, fun _ _ => rfl, fun _ hf hn => absurd (h.itsHad hf) hn, fun h => h⟩
theorem Grow.trans {x y z : YS} (a : Grow x y) (b : Grow y z) : Grow x z := by
  refine ⟨b.n.trans a.n, fun g h => b.had g (a.had g h), fun g m h hn m0 m1 => ?_, fun f hf => ?_, fun f hf => (b.r f (a.had f hf)).trans (a.r f hf), fun f hf hn => ?_, fun h => b.bd (a.bd h)⟩
  · rw [b.rd g m (a.had g h) (fun hi => ?_) m0 m1, a.rd g m h hn m0 m1]
    rcases a.its g hi with h1 | h1
    · exact hn h1
    · exact h1 h
  · rcases b.its f hf with h1 | h1
    · exact a.its f h1
    · exact Or.inr (fun h => h1 (a.had f h))
  · by_cases hh : y.s.had f
    · rw [b.r f hh]
      refine a.r1 f ?_ hn
      rcases b.its f hf with h1 | h1
      · exact h1
      · exact absurd hh h1
    · exact b.r1 f hf hh
theorem rset_of (R : Nat → Int) (f : Nat) (x : Int) (g : Int) (h : g.toNat ≠ f) : rset R (f : Int) x g.toNat = R g.toNat := by unfold rset; rw [if_neg (by omega)]
theorem rset_bd {R : Nat → Int} (h : ∀ j, R j ≤ 1) (f : Int) : ∀ j, rset R f 1 j ≤ 1 := fun j => by
  unfold rset; split
  · exact Int.le_refl _
  · exact h j
theorem least_nohad {s : MS} {f : Nat} (hL : Least s f) : ¬ s.had (f : Int) := fun h => h.2.2 hL.free
theorem had_ne {s : MS} {f : Nat} (hL : Least s f) {g : Int} (h : s.had g) : g.toNat ≠ f := fun e => by
  have := h.1
  exact least_ne hL (Or.inr h) (by omega)

theorem grow_up1 {y : YS} (h : YInv y) (i : Nat) (hi : i < 8) (hl : y.S.up i = 0 → 1 ≤ y.s.left) : Grow y (y.up1 i) := by
  have hrd := fun g m (hg : y.s.had g) (hn : ¬ y.S.its g) (m0 : 0 ≤ m) (m1 : m < 8) => up1_rd (m := m) h i hi (g := g) (by have := hg.1; omega) ⟨m0, m1⟩ (fun e => hn ⟨by have := hg.1; omega, Or.inl e⟩) (fun e => hn ⟨by have := hg.1; omega, Or.inr (Or.inl e)⟩)
  by_cases h0 : y.S.up i = 0
  · have hL := least_left (hl h0)
    have hup : y.up1 i = ⟨y.S.setUp i y.s.least, rset y.R y.s.least 1, (y.s.mark y.s.least 1 y.S.own).roots y.S i y.s.least⟩ := by unfold YS.up1; rw [if_pos h0]
    rw [hup] at hrd ⊢
    generalize y.s.least = f at *
    refine ⟨by show (MS.roots _ _ _ _).n = _; rw [roots_n, MS.mark_n], fun g hg => had_write (had_write (mark_had hg _ (by decide)) _ _) _ _, hrd, fun g hg => ?_, fun g hg => rset_of _ _ _ _ (had_ne hL hg), fun g hg hn => ?_, fun hb => rset_bd hb _⟩
    · obtain ⟨g0, e | e | ⟨j, e⟩ | ⟨k, e⟩⟩ := hg
      · exact Or.inl ⟨g0, Or.inl e⟩
      · exact Or.inl ⟨g0, Or.inr (Or.inl e)⟩
      · simp only [SS.setUp] at e
        split at e
        · rw [e]; exact Or.inr (least_nohad hL)
        · exact Or.inl ⟨g0, Or.inr (Or.inr (Or.inl ⟨j, e⟩))⟩
      · exact Or.inl ⟨g0, Or.inr (Or.inr (Or.inr ⟨k, e⟩))⟩
    · have e : g = (f : Int) := by
        obtain ⟨g0, e | e | ⟨j, e⟩ | ⟨k, e⟩⟩ := hg
        · exact absurd h.kern (e ▸ hn)
        · exact absurd h.user (e ▸ hn)
        · simp only [SS.setUp] at e
          split at e
          · exact e
          · exact absurd ((h.up j).resolve_left (e ▸ g0)) (e ▸ hn)
        · exact absurd ((h.la k).resolve_left (e ▸ g0)) (e ▸ hn)
      subst e
      show rset _ _ _ _ = _
      unfold rset; rw [if_pos rfl]
  · have hup : y.up1 i = y := by unfold YS.up1; rw [if_neg h0]
    rw [hup]; exact Grow.refl y h
theorem grow_la1 {y : YS} (h : YInv y) (i j : Nat) (hj : j < 8) (hl : y.S.la (i * 8 + j) = 0 → 1 ≤ y.s.left) : Grow y (y.la1 i j) := by
  have hrd := fun g m (hg : y.s.had g) (hn : ¬ y.S.its g) (m0 : 0 ≤ m) (m1 : m < 8) => la1_rd (m := m) h i j hj (g := g) (by have := hg.1; omega) ⟨m0, m1⟩ (fun e => hn ⟨by have := hg.1; omega, Or.inr (Or.inr (Or.inl ⟨i, e⟩))⟩)
  by_cases h0 : y.S.la (i * 8 + j) = 0
  · have hL := least_left (hl h0)
    have hup : y.la1 i j = ⟨y.S.setLa (i * 8 + j) y.s.least, rset y.R y.s.least 1, (y.s.mark y.s.least 1 y.S.own).write (y.S.up i * 8 + j) (opn y.s.least)⟩ := by unfold YS.la1; rw [if_pos h0]
    rw [hup] at hrd ⊢
    generalize y.s.least = f at *
    refine ⟨by show (MS.write _ _ _).n = _; rw [MS.write_n, MS.mark_n], fun g hg => had_write (mark_had hg _ (by decide)) _ _, hrd, fun g hg => ?_, fun g hg => rset_of _ _ _ _ (had_ne hL hg), fun g hg hn => ?_, fun hb => rset_bd hb _⟩
    · obtain ⟨g0, e | e | ⟨k, e⟩ | ⟨k, e⟩⟩ := hg
      · exact Or.inl ⟨g0, Or.inl e⟩
      · exact Or.inl ⟨g0, Or.inr (Or.inl e)⟩
      · exact Or.inl ⟨g0, Or.inr (Or.inr (Or.inl ⟨k, e⟩))⟩
      · simp only [SS.setLa] at e
        split at e
        · rw [e]; exact Or.inr (least_nohad hL)
        · exact Or.inl ⟨g0, Or.inr (Or.inr (Or.inr ⟨k, e⟩))⟩
    · have e : g = (f : Int) := by
        obtain ⟨g0, e | e | ⟨k, e⟩ | ⟨k, e⟩⟩ := hg
        · exact absurd h.kern (e ▸ hn)
        · exact absurd h.user (e ▸ hn)
        · exact absurd ((h.up k).resolve_left (e ▸ g0)) (e ▸ hn)
        · simp only [SS.setLa] at e
          split at e
          · exact e
          · exact absurd ((h.la k).resolve_left (e ▸ g0)) (e ▸ hn)
      subst e
      show rset _ _ _ _ = _
      unfold rset; rw [if_pos rfl]
  · have hup : y.la1 i j = y := by unfold YS.la1; rw [if_neg h0]
    rw [hup]; exact Grow.refl y h
theorem grow_put {y : YS} (h : YInv y) {f m : Int} (hf : y.S.its f) (hm : 0 ≤ m ∧ m < 8) (x : Int) : Grow y ⟨y.S, y.R, y.s.write (f * 8 + m) x⟩ := by
  have hH := h.itsHad hf
  refine ⟨by show (MS.write _ _ _).n = _; rw [MS.write_n], fun g hg => had_write hg _ _, fun g k hg hn k0 k1 => ?_, fun _ h => Or.inl h, fun _ _ => rfl, fun _ hg hn => absurd (h.itsHad hg) hn, fun h => h⟩
  exact rd_frame (fun e => hn (by rw [← e]; exact hf)) (by have := hH.1; omega) (by have := hg.1; omega) hm ⟨k0, k1⟩ x
theorem grow_set {y : YS} (h : YInv y) {page : Int} (hm : y.may page = true) (x : Int) : Grow y (y.set page x) := by
  have hp : y.S.hasP page = true := by simp only [YS.may, Bool.and_eq_true] at hm; exact hm.1
  obtain ⟨hk0, p0, p1⟩ := (hasP_iff _ _).1 hp
  have hu := may_up hm
  have hl := may_la hm
  have i8 : (page / 64).toNat < 8 := by omega
  have j8 : (page / 8 % 8).toNat < 8 := by omega
  have h1 := h.up1 _ i8 hu
  have hup1 := up1_up hu h.n64
  have h2 := h1.la1 _ _ j8 hup1 hl
  have hla2 := la1_la hl (by rw [up1_n]; exact h.n64)
  have g1 := grow_up1 h _ i8 hu
  have g2 := grow_la1 h1 _ _ j8 hl
  have g3 := grow_put h2 (f := ((y.up1 (page / 64).toNat).la1 (page / 64).toNat (page / 8 % 8).toNat).S.la (pk page)) (m := page % 8) ⟨hla2, Or.inr (Or.inr (Or.inr ⟨_, rfl⟩))⟩ (by omega) x
  exact (g1.trans g2).trans g3

/-- Two spaces, one pool, one memory. -/
structure Two (A B : SS) (R : Nat → Int) (s : MS) : Prop where
  a : YInv ⟨A, R, s⟩
  b : YInv ⟨B, R, s⟩
  ap : ∀ f, A.its f → ¬ B.its f
  r : ∀ f, A.its f ∨ B.its f → R f.toNat = 1
  bd : ∀ j, R j ≤ 1
theorem Two.symm {A B : SS} {R : Nat → Int} {s : MS} (h : Two A B R s) : Two B A R s := ⟨h.b, h.a, fun f x y => h.ap f y x, fun f x => h.r f x.symm, h.bd⟩
/-- A space that is not touched: what stays true of it. -/
theorem other_inv {y z : YS} (hz : YInv z) {B : SS} (g : Grow y z) (hb : YInv ⟨B, y.R, y.s⟩) : YInv ⟨B, z.R, z.s⟩ :=
  ⟨hz.n64, g.had _ hb.kern, g.had _ hb.user, fun i => (hb.up i).imp id (g.had _), fun k => (hb.la k).imp id (g.had _), hb.upNe, hb.laNe, hb.upla, hb.upR, hb.laR, hb.laUp, hz.free0⟩
theorem getP_other {B : SS} {R : Nat → Int} {s t : MS} (hb : YInv ⟨B, R, s⟩) (hrd : ∀ g m : Int, B.its g → 0 ≤ m → m < 8 → t.rd (g * 8 + m) = s.rd (g * 8 + m)) (P : Int) : getP B t P = getP B s P := by
  unfold getP
  by_cases h : B.hasP P = true ∧ B.need [P] = 0
  · rw [if_pos h, if_pos h, pl_pk]
    have hl : B.la (pk P) ≠ 0 := fun e => (hb.need0 P).2 h.1 e h.2
    exact hrd _ _ ⟨hl, Or.inr (Or.inr (Or.inr ⟨_, rfl⟩))⟩ (by omega) (by omega)
  · rw [if_neg h, if_neg h]
/-- A set in the first one. -/
theorem Two.set {A B : SS} {R : Nat → Int} {s : MS} (h : Two A B R s) {page : Int} (p0 : 0 ≤ page) (p1 : page < 256) (x : Int) (hl : 2 ≤ s.left) :
    (⟨A, R, s⟩ : YS).may page = true ∧ Two ((⟨A, R, s⟩ : YS).set page x).S B ((⟨A, R, s⟩ : YS).set page x).R ((⟨A, R, s⟩ : YS).set page x).s ∧
      getP ((⟨A, R, s⟩ : YS).set page x).S ((⟨A, R, s⟩ : YS).set page x).s page = x ∧ (∀ P, P ≠ page → 0 ≤ P → P < 256 → getP ((⟨A, R, s⟩ : YS).set page x).S ((⟨A, R, s⟩ : YS).set page x).s P = getP A s P) ∧
      (∀ P, getP B ((⟨A, R, s⟩ : YS).set page x).s P = getP B s P) ∧
      ((⟨A, R, s⟩ : YS).set page x).s.left + ((⟨A, R, s⟩ : YS).set page x).S.tabs.length = s.left + A.tabs.length ∧ s.left ≤ ((⟨A, R, s⟩ : YS).set page x).s.left + 2 := by
  have hp : A.hasP page = true := (hasP_iff _ _).2 ⟨by have : 15 ≤ A.kern := h.a.kern.1; omega, p0, p1⟩
  have hle := need_le A page
  have hm : (⟨A, R, s⟩ : YS).may page = true := by unfold YS.may; rw [hp]; simp; omega
  obtain ⟨h2, hg, ho, _, _⟩ := h.a.set hm x
  obtain ⟨_, _, _, _, hlf⟩ := set_facts hm h.a.n64 x
  have hT := tabs_set h.a hm x
  have gr := grow_set h.a hm x
  generalize (⟨A, R, s⟩ : YS).set page x = z at *
  have hlf : z.s.left + A.need [page] = s.left := hlf
  have hT : z.S.tabs.length = A.tabs.length + A.need [page] := hT
  refine ⟨hm, ⟨h2, other_inv h2 gr h.b, fun f hA hB => ?_, fun f hf => ?_, gr.bd h.bd⟩, hg, ho, fun P => getP_other h.b (fun g m hi m0 m1 => gr.rd g m (h.b.itsHad hi) (fun e => h.ap g e hi) m0 m1) P, by omega, by omega⟩
  · rcases gr.its f hA with e | e
    · exact h.ap f e hB
    · exact e (h.b.itsHad hB)
  · by_cases hh : s.had f
    · rw [gr.r f hh]
      refine h.r f ?_
      rcases hf with hf | hf
      · rcases gr.its f hf with e | e
        · exact Or.inl e
        · exact absurd hh e
      · exact Or.inr hf
    · rcases hf with hf | hf
      · exact gr.r1 f hf hh
      · exact absurd (h.b.itsHad hf) hh

/-- What is told as a table is one. -/
theorem pre_its {S : SS} {x : Int} (h0 : x ≠ 0) (hx : x ∈ S.pre 4) : S.its x := by
  refine ⟨h0, ?_⟩
  unfold SS.pre at hx
  rcases List.mem_append.1 hx with hx | hx
  · simp at hx
    rcases hx with rfl | rfl
    · exact Or.inl rfl
    · exact Or.inr (Or.inl rfl)
  · obtain ⟨i, _, hx⟩ := List.mem_flatMap.1 hx
    unfold SS.row at hx
    rcases List.mem_cons.1 hx with rfl | hx
    · exact Or.inr (Or.inr (Or.inl ⟨_, rfl⟩))
    · obtain ⟨j, _, rfl⟩ := List.mem_map.1 hx
      exact Or.inr (Or.inr (Or.inr ⟨_, rfl⟩))
theorem fold_nz : ∀ (l acc : List Int), (∀ x ∈ acc, x ≠ 0) → acc.Nodup → (∀ x ∈ l.foldl addP acc, x ≠ 0) ∧ (l.foldl addP acc).Nodup
  | [], _, h, hn => ⟨h, hn⟩
  | y :: l, acc, h, hn => by
    refine fold_nz l (addP acc y) ?_ ?_
    · intro x hx
      unfold addP at hx
      split at hx
      · exact h x hx
      · rename_i hh
        rcases List.mem_append.1 hx with hx | hx
        · exact h x hx
        · rw [List.mem_singleton] at hx; subst hx; exact fun e => hh (Or.inl e)
    · unfold addP
      split
      · exact hn
      · rename_i hh
        refine List.nodup_append.2 ⟨hn, by simp, fun a ha b hb => ?_⟩
        rw [List.mem_singleton] at hb; subst hb
        exact fun e => hh (Or.inr (e ▸ ha))
theorem tabs_its {S : SS} {x : Int} (hx : x ∈ S.stab) : S.its x := by
  have hx : x ∈ S.tabs := (List.mergeSort_perm _ _).mem_iff.1 hx
  have h0 := (fold_nz (S.pre 4) [] (by simp) List.nodup_nil).1 x hx
  rcases fold_mem _ _ hx with h | h
  · cases h
  · exact pre_its h0 h
theorem stab_nodup (S : SS) : S.stab.Nodup := (List.mergeSort_perm _ _).nodup_iff.2 (fold_nz (S.pre 4) [] (by simp) List.nodup_nil).2
theorem Two.stab_ne {A B : SS} {R : Nat → Int} {s : MS} (h : Two A B R s) (i j : Nat) (hi : i < A.stab.length) (hj : j < B.stab.length) : (A.stab.getD i 0 == B.stab.getD j 0) = false := by
  have h1 : A.stab.getD i 0 ∈ A.stab := by rw [List.getD_eq_getElem?_getD, List.getElem?_eq_getElem hi]; exact List.getElem_mem _
  have h2 : B.stab.getD j 0 ∈ B.stab := by rw [List.getD_eq_getElem?_getD, List.getElem?_eq_getElem hj]; exact List.getElem_mem _
  rw [beq_eq_false_iff_ne]
  intro e
  exact h.ap _ (tabs_its h1) (by rw [e]; exact tabs_its h2)
end Go.Proofs.Ytaofkedcdeocjaa
