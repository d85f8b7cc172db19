/-
  A process's tables: what stays true whatever is set (plain).
-/
import Derived.Test.YtaofkedcdeocjaaSpK
namespace Go.Proofs.Ytaofkedcdeocjaa
open Go.ChangeShapes Go.WideShapes Go.ChangeAt Go.RowKit

/-- A frame that is a table of somebody's. -/
def MS.had (s : MS) (f : Int) : Prop := 15 ≤ f ∧ f < s.n ∧ s.C f.toNat ≠ 0
/-- What stays true of a space and its memory. -/
structure YInv (y : YS) : Prop where
  n64 : y.s.n ≤ 64
  kern : y.s.had y.S.kern
  user : y.s.had y.S.user
  up : ∀ i, y.S.up i = 0 ∨ y.s.had (y.S.up i)
  la : ∀ k, y.S.la k = 0 ∨ y.s.had (y.S.la k)
  upNe : ∀ i i', y.S.up i ≠ 0 → y.S.up i = y.S.up i' → i = i'
  laNe : ∀ k k', y.S.la k ≠ 0 → y.S.la k = y.S.la k' → k = k'
  upla : ∀ i k, y.S.up i ≠ 0 → y.S.up i ≠ y.S.la k
  upR : ∀ i, y.S.up i ≠ y.S.kern ∧ y.S.up i ≠ y.S.user
  laR : ∀ k, y.S.la k ≠ y.S.kern ∧ y.S.la k ≠ y.S.user
  laUp : ∀ k, y.S.la k ≠ 0 → y.S.up (k / 8) ≠ 0
  free0 : ∀ f : Nat, 15 ≤ f → f < y.s.n → y.s.C f = 0 → ∀ o : Nat, o < 8 → y.s.W (f * 8 + o) = 0

theorem YInv.ok {y : YS} (h : YInv y) : y.S.ok := by
  have hn := h.n64
  refine ⟨?_, ?_, fun i => ?_, fun k => ?_⟩
  · obtain ⟨a, b, _⟩ := h.kern; omega
  · obtain ⟨a, b, _⟩ := h.user; omega
  · rcases h.up i with e | ⟨a, b, _⟩ <;> omega
  · rcases h.la k with e | ⟨a, b, _⟩ <;> omega

theorem write_C (s : MS) (a x : Int) : (s.write a x).C = s.C := by unfold MS.write; split <;> rfl
theorem had_write {s : MS} {f : Int} (h : s.had f) (a x : Int) : (s.write a x).had f := by
  unfold MS.had at *; rw [MS.write_n, write_C]; exact h
theorem write_free {s : MS} {g o : Int} {x : Int} (hg : s.had g) (ho : 0 ≤ o ∧ o < 8) (h0 : ∀ f : Nat, 15 ≤ f → f < s.n → s.C f = 0 → ∀ o : Nat, o < 8 → s.W (f * 8 + o) = 0) :
    ∀ f : Nat, 15 ≤ f → f < (s.write (g * 8 + o) x).n → (s.write (g * 8 + o) x).C f = 0 → ∀ m : Nat, m < 8 → (s.write (g * 8 + o) x).W (f * 8 + m) = 0 := by
  intro f h15 hn hc m hm
  rw [MS.write_n] at hn
  rw [write_C] at hc
  have hw := h0 f h15 hn hc m hm
  unfold MS.write
  split
  · dsimp only
    split
    · rename_i e
      exfalso
      obtain ⟨a, b, c⟩ := hg
      have : f = g.toNat := by omega
      subst this; exact c hc
    · exact hw
  · exact hw
theorem rd_frame {s : MS} {g o f m : Int} (hne : g ≠ f) (hg : 0 ≤ g) (hf : 0 ≤ f) (ho : 0 ≤ o ∧ o < 8) (hm : 0 ≤ m ∧ m < 8) (x : Int) : (s.write (g * 8 + o) x).rd (f * 8 + m) = s.rd (f * 8 + m) :=
  rd_other (by omega) (by omega) (by omega) x
theorem mark_rd (s : MS) (f c o a : Int) : (s.mark f c o).rd a = s.rd a := by
  unfold MS.rd
  have : (s.mark f c o).hasW a = s.hasW a := hasW_n (MS.mark_n s f c o) a
  rw [this]
  have e : (s.mark f c o).W = s.W := by unfold MS.mark; split <;> rfl
  rw [e]
theorem mark_had {s : MS} {g : Int} (h : s.had g) {f c : Int} (o : Int) (hc : c ≠ 0) : (s.mark f c o).had g := by
  unfold MS.had at *
  rw [MS.mark_n]
  refine ⟨h.1, h.2.1, ?_⟩
  unfold MS.mark
  split
  · dsimp only; split
    · exact hc
    · exact h.2.2
  · exact h.2.2
theorem mark_new {s : MS} {f : Nat} (hL : Least s f) (o : Int) : (s.mark (f : Int) 1 o).had (f : Int) := by
  have hm : s.mayM (f : Int) 1 = true := by
    unfold MS.mayM
    rw [(s.hasF_iff _).2 ⟨by omega, by have := hL.hi; omega⟩]; rfl
  refine ⟨by have := hL.lo; omega, by rw [MS.mark_n]; have := hL.hi; omega, ?_⟩
  unfold MS.mark; rw [if_pos hm]; simp
theorem mark_free {s : MS} {f c o : Int} (hc : c ≠ 0) (h0 : ∀ f : Nat, 15 ≤ f → f < s.n → s.C f = 0 → ∀ o : Nat, o < 8 → s.W (f * 8 + o) = 0) :
    ∀ g : Nat, 15 ≤ g → g < (s.mark f c o).n → (s.mark f c o).C g = 0 → ∀ m : Nat, m < 8 → (s.mark f c o).W (g * 8 + m) = 0 := by
  intro g h15 hn hC m hm
  rw [MS.mark_n] at hn
  unfold MS.mark at hC ⊢
  split at hC
  · rename_i hmay
    rw [if_pos hmay]
    dsimp only at hC ⊢
    split at hC
    · exact absurd hC hc
    · exact h0 g h15 hn hC m hm
  · rename_i hmay
    rw [if_neg hmay]; exact h0 g h15 hn hC m hm
/-- The least free frame is none that is had. -/
theorem least_ne {s : MS} {f : Nat} (hL : Least s f) {g : Int} (h : g = 0 ∨ s.had g) : (f : Int) ≠ g := by
  intro e
  subst e
  rcases h with h | ⟨_, _, h⟩
  · have := hL.lo; omega
  · exact h hL.free

theorem YInv.up1 {y : YS} (h : YInv y) (i : Nat) (hi : i < 8) (hl : y.S.up i = 0 → 1 ≤ y.s.left) : YInv (y.up1 i) := by
  unfold YS.up1
  split
  · rename_i h0
    have hL := least_left (hl h0)
    have hn := mark_new hL y.S.own
    generalize y.s.least = f at *
    have neK := least_ne hL (Or.inr h.kern)
    have neU := least_ne hL (Or.inr h.user)
    have hadM : ∀ g, y.s.had g → ((y.s.mark (f : Int) 1 y.S.own).roots y.S i f).had g := fun g hg => had_write (had_write (mark_had (c := 1) hg y.S.own (by decide)) _ _) _ _
    have hadF : ((y.s.mark (f : Int) 1 y.S.own).roots y.S i f).had (f : Int) := had_write (had_write hn _ _) _ _
    refine ⟨by rw [roots_n, MS.mark_n]; exact h.n64, hadM _ h.kern, hadM _ h.user, fun k => ?_, fun k => ?_, fun k k' hk e => ?_, h.laNe, fun k k' hk => ?_, fun k => ?_, h.laR, fun k hk => ?_, ?_⟩
    · simp only [SS.setUp]
      by_cases e : k = i
      · rw [if_pos e]; exact Or.inr hadF
      · rw [if_neg e]
        rcases h.up k with h' | h'
        · exact Or.inl h'
        · exact Or.inr (hadM _ h')
    · rcases h.la k with h' | h'
      · exact Or.inl h'
      · exact Or.inr (hadM _ h')
    · simp only [SS.setUp] at hk e
      by_cases e1 : k = i <;> by_cases e2 : k' = i
      · omega
      · rw [if_pos e1, if_neg e2] at e
        exact absurd e (least_ne hL (h.up k'))
      · rw [if_neg e1, if_pos e2] at e
        exact absurd e.symm (least_ne hL (h.up k))
      · rw [if_neg e1] at hk; rw [if_neg e1, if_neg e2] at e
        exact h.upNe k k' hk e
    · simp only [SS.setUp] at hk ⊢
      by_cases e1 : k = i
      · rw [if_pos e1]; exact least_ne hL (h.la k')
      · rw [if_neg e1] at hk ⊢; exact h.upla k k' hk
    · simp only [SS.setUp]
      by_cases e1 : k = i
      · rw [if_pos e1]; exact ⟨neK, neU⟩
      · rw [if_neg e1]; exact h.upR k
    · simp only [SS.setUp]
      by_cases e1 : k / 8 = i
      · rw [if_pos e1]; have := hL.lo; omega
      · rw [if_neg e1]; exact h.laUp k hk
    · exact write_free (o := (i : Int)) (had_write (mark_had (f := (f : Int)) (c := 1) h.user y.S.own (by decide)) _ _) ⟨by omega, by omega⟩ (write_free (o := (i : Int)) (mark_had (f := (f : Int)) (c := 1) h.kern y.S.own (by decide)) ⟨by omega, by omega⟩ (mark_free (c := 1) (by decide) h.free0))
  · exact h

theorem YInv.la1 {y : YS} (h : YInv y) (i j : Nat) (hj : j < 8) (hu : y.S.up i ≠ 0) (hl : y.S.la (i * 8 + j) = 0 → 1 ≤ y.s.left) : YInv (y.la1 i j) := by
  unfold YS.la1
  split
  · rename_i h0
    have hL := least_left (hl h0)
    have hn := mark_new hL y.S.own
    generalize y.s.least = f at *
    have neK := least_ne hL (Or.inr h.kern)
    have neU := least_ne hL (Or.inr h.user)
    have hUp := (h.up i).resolve_left hu
    have hadM : ∀ g, y.s.had g → ((y.s.mark (f : Int) 1 y.S.own).write (y.S.up i * 8 + j) (opn f)).had g := fun g hg => had_write (mark_had (c := 1) hg y.S.own (by decide)) _ _
    have hadF : ((y.s.mark (f : Int) 1 y.S.own).write (y.S.up i * 8 + j) (opn f)).had (f : Int) := had_write hn _ _
    refine ⟨by rw [MS.write_n, MS.mark_n]; exact h.n64, hadM _ h.kern, hadM _ h.user, fun k => ?_, fun k => ?_, h.upNe, fun k k' hk e => ?_, fun k k' hk => ?_, h.upR, fun k => ?_, fun k hk => ?_, ?_⟩
    · rcases h.up k with h' | h'
      · exact Or.inl h'
      · exact Or.inr (hadM _ h')
    · simp only [SS.setLa]
      by_cases e : k = i * 8 + j
      · rw [if_pos e]; exact Or.inr hadF
      · rw [if_neg e]
        rcases h.la k with h' | h'
        · exact Or.inl h'
        · exact Or.inr (hadM _ h')
    · simp only [SS.setLa] at hk e
      by_cases e1 : k = i * 8 + j <;> by_cases e2 : k' = i * 8 + j
      · omega
      · rw [if_pos e1, if_neg e2] at e
        exact absurd e (least_ne hL (h.la k'))
      · rw [if_neg e1, if_pos e2] at e
        exact absurd e.symm (least_ne hL (h.la k))
      · rw [if_neg e1] at hk; rw [if_neg e1, if_neg e2] at e
        exact h.laNe k k' hk e
    · simp only [SS.setLa]
      by_cases e1 : k' = i * 8 + j
      · rw [if_pos e1]; exact fun e => least_ne hL (h.up k) e.symm
      · rw [if_neg e1]; exact h.upla k k' hk
    · simp only [SS.setLa]
      by_cases e1 : k = i * 8 + j
      · rw [if_pos e1]; exact ⟨neK, neU⟩
      · rw [if_neg e1]; exact h.laR k
    · simp only [SS.setLa] at hk
      by_cases e1 : k = i * 8 + j
      · rw [show k / 8 = i by omega]; exact hu
      · rw [if_neg e1] at hk; exact h.laUp k hk
    · exact write_free (o := (j : Int)) (mark_had (f := (f : Int)) (c := 1) hUp y.S.own (by decide)) ⟨by omega, by omega⟩ (mark_free (c := 1) (by decide) h.free0)
  · exact h

theorem YInv.put {y : YS} (h : YInv y) {f m : Int} (hf : y.s.had f) (hm : 0 ≤ m ∧ m < 8) (x : Int) : YInv ⟨y.S, y.R, y.s.write (f * 8 + m) x⟩ :=
  ⟨by show (y.s.write _ _).n ≤ 64; rw [MS.write_n]; exact h.n64, had_write h.kern _ _, had_write h.user _ _, fun i => (h.up i).imp id (fun h => had_write h _ _), fun k => (h.la k).imp id (fun h => had_write h _ _), h.upNe, h.laNe, h.upla, h.upR, h.laR, h.laUp, write_free hf hm h.free0⟩
/-- A page's place among the last tables. -/
def pk (page : Int) : Nat := (page / 64).toNat * 8 + (page / 8 % 8).toNat
theorem pk_div (page : Int) : pk page / 8 = (page / 64).toNat := by unfold pk; omega
theorem pl_pk (S : SS) (page : Int) : S.pl page = S.la (pk page) * 8 + page % 8 := rfl
theorem YInv.need0 {y : YS} (h : YInv y) (page : Int) : (y.S.la (pk page) ≠ 0 → y.S.need [page] = 0) ∧ (y.S.hasP page = true → y.S.la (pk page) = 0 → y.S.need [page] ≠ 0) := by
  constructor
  · intro hl
    have := h.laUp _ hl
    rw [pk_div] at this
    exact need_zero this hl
  · intro hp hl
    have hl' : y.S.la ((page / 64).toNat * 8 + (page / 8 % 8).toNat) = 0 := hl
    rw [need_is hp, if_pos hl']; omega
theorem up1_rd {y : YS} (h : YInv y) (i : Nat) (hi : i < 8) {g m : Int} (hg : 0 ≤ g) (hm : 0 ≤ m ∧ m < 8) (hk : g ≠ y.S.kern) (hu : g ≠ y.S.user) : (y.up1 i).s.rd (g * 8 + m) = y.s.rd (g * 8 + m) := by
  unfold YS.up1
  split
  · have k0 := h.kern.1
    have u0 := h.user.1
    show (MS.roots _ _ _ _).rd _ = _
    unfold MS.roots
    rw [rd_frame (Ne.symm hu) (by omega) hg ⟨by omega, by omega⟩ hm, rd_frame (Ne.symm hk) (by omega) hg ⟨by omega, by omega⟩ hm, mark_rd]
  · rfl
theorem la1_rd {y : YS} (h : YInv y) (i j : Nat) (hj : j < 8) {g m : Int} (hg : 0 ≤ g) (hm : 0 ≤ m ∧ m < 8) (hu : g ≠ y.S.up i) : (y.la1 i j).s.rd (g * 8 + m) = y.s.rd (g * 8 + m) := by
  unfold YS.la1
  split
  · have u0 : 0 ≤ y.S.up i := by rcases h.up i with e | e; omega; have := e.1; omega
    show ((MS.mark _ _ _ _).write _ _).rd _ = _
    rw [rd_frame (Ne.symm hu) u0 hg ⟨by omega, by omega⟩ hm, mark_rd]
  · rfl
/-- Behind a set all stays true; the page has its entry; others are as they were. -/
theorem YInv.set {y : YS} (h : YInv y) {page : Int} (hm : y.may page = true) (x : Int) :
    YInv (y.set page x) ∧ getP (y.set page x).S (y.set page x).s page = x ∧ (∀ P, P ≠ page → 0 ≤ P → P < 256 → getP (y.set page x).S (y.set page x).s P = getP y.S y.s P) ∧
      (∀ k, (y.set page x).S.la k ≠ 0 ↔ y.S.la k ≠ 0 ∨ k = pk page) ∧ (∀ i, (y.set page x).S.up i ≠ 0 ↔ y.S.up i ≠ 0 ∨ i = (page / 64).toNat) := by
  have hp : y.S.hasP page = true := by simp only [YS.may, Bool.and_eq_true] at hm; exact hm.1
  obtain ⟨hk0, p0, p1⟩ := (hasP_iff _ _).1 hp
  have hu := may_up hm
  have hl := may_la hm
  have i8 : (page / 64).toNat < 8 := by omega
  have j8 : (page / 8 % 8).toNat < 8 := by omega
  have h1 := h.up1 _ i8 hu
  have hup1 := up1_up hu h.n64
  have h2 := h1.la1 _ _ j8 hup1 hl
  have hla2 := la1_la hl (by rw [up1_n]; exact h.n64)
  have m0 : 0 ≤ page % 8 ∧ page % 8 < 8 := by omega
  have hset : y.set page x = ⟨((y.up1 (page / 64).toNat).la1 (page / 64).toNat (page / 8 % 8).toNat).S, ((y.up1 (page / 64).toNat).la1 (page / 64).toNat (page / 8 % 8).toNat).R, ((y.up1 (page / 64).toNat).la1 (page / 64).toNat (page / 8 % 8).toNat).s.write (((y.up1 (page / 64).toNat).la1 (page / 64).toNat (page / 8 % 8).toNat).S.la (pk page) * 8 + page % 8) x⟩ := rfl
  have laK : ∀ k, ((y.up1 (page / 64).toNat).la1 (page / 64).toNat (page / 8 % 8).toNat).S.la k = if k = pk page ∧ y.S.la k = 0 then (((y.up1 (page / 64).toNat).s.least : Nat) : Int) else y.S.la k := fun k => by
    unfold YS.la1
    split
    · rename_i e0
      show (SS.setLa _ _ _).la k = _
      simp only [SS.setLa]
      by_cases e : k = pk page
      · have e' : k = (page / 64).toNat * 8 + (page / 8 % 8).toNat := e
        rw [if_pos e']
        rw [up1_la] at e0
        rw [if_pos ⟨e, by rw [e]; exact e0⟩]
      · have e' : ¬ k = (page / 64).toNat * 8 + (page / 8 % 8).toNat := e
        rw [if_neg e', if_neg (fun h => e h.1), up1_la]
    · rename_i e0
      rw [up1_la] at e0 ⊢
      rw [if_neg]
      rintro ⟨e1, e2⟩
      exact e0 (by rw [← e2, e1]; rfl)
  have kern2 : ((y.up1 (page / 64).toNat).la1 (page / 64).toNat (page / 8 % 8).toNat).S.kern = y.S.kern := by rw [la1_kern, up1_kern]
  have hadP := (h2.la (pk page)).resolve_left hla2
  have user1 : (y.up1 (page / 64).toNat).S.user = y.S.user := by unfold YS.up1; split <;> rfl
  have hI : YInv (y.set page x) := by rw [hset]; exact h2.put hadP m0 x
  have hasZ : ∀ P : Int, 0 ≤ P → P < 256 → (y.set page x).S.hasP P = true := fun P q0 q1 => (hasP_iff _ _).2 ⟨by rw [hset]; show ((y.up1 _).la1 _ _).S.kern ≠ 0; rw [kern2]; exact hk0, q0, q1⟩
  have hasY : ∀ P : Int, 0 ≤ P → P < 256 → y.S.hasP P = true := fun P q0 q1 => (hasP_iff _ _).2 ⟨hk0, q0, q1⟩
  have e1 := h1
  generalize hz1 : y.up1 (page / 64).toNat = z1 at *
  generalize hz : z1.la1 (page / 64).toNat (page / 8 % 8).toNat = z at *
  have setS : (y.set page x).S = z.S := by rw [hset]
  have sets : (y.set page x).s = z.s.write (z.S.la (pk page) * 8 + page % 8) x := by rw [hset]
  refine ⟨hI, ?_, fun P hP q0 q1 => ?_, fun k => ?_, fun i => ?_⟩
  · have hn := (hI.need0 page).1 (by rw [setS]; exact hla2)
    unfold getP
    rw [if_pos ⟨hasZ page p0 p1, hn⟩, sets, setS, pl_pk]
    obtain ⟨a, b, _⟩ := hadP
    exact rd_write ((z.s.hasW_iff _).2 ⟨by omega, by omega⟩) x
  · have mP : 0 ≤ P % 8 ∧ P % 8 < 8 := by omega
    have hpkm : pk P = pk page → P % 8 ≠ page % 8 := fun e => by unfold pk at e; omega
    obtain ⟨fa, fb, fc⟩ := hadP
    by_cases hla : y.S.la (pk P) = 0
    · have g0 : getP y.S y.s P = 0 := by unfold getP; rw [if_neg (fun hh => (h.need0 P).2 (hasY P q0 q1) hla hh.2)]
      rw [g0]
      by_cases e : pk P = pk page
      · have hz0 : z1.S.la (pk page) = 0 := by rw [← hz1, up1_la, ← e]; exact hla
        have hLe := least_left (hl hz0)
        have hzl : z.S.la (pk page) = (z1.s.least : Int) := by rw [laK, if_pos ⟨rfl, by rw [← e]; exact hla⟩]
        have hn := (hI.need0 P).1 (by rw [setS, e]; exact hla2)
        unfold getP
        rw [if_pos ⟨hasZ P q0 q1, hn⟩, sets, setS, pl_pk, e]
        rw [rd_other (by omega) (by omega) (by have := hpkm e; omega), hzl, ← hz]
        rw [la1_rd h1 _ _ j8 (by omega) mP (least_ne hLe (h1.up _))]
        unfold MS.rd
        split
        · have := h1.free0 _ hLe.lo hLe.hi hLe.free (P % 8).toNat (by omega)
          rw [show ((z1.s.least : Int) * 8 + P % 8).toNat = z1.s.least * 8 + (P % 8).toNat by omega]; exact this
        · rfl
      · have hzP : z.S.la (pk P) = 0 := by rw [laK, if_neg (fun hh => e hh.1)]; exact hla
        unfold getP
        rw [if_neg (fun hh => (hI.need0 P).2 (hasZ P q0 q1) (by rw [setS]; exact hzP) hh.2)]
    · have hzP : z.S.la (pk P) = y.S.la (pk P) := by rw [laK, if_neg (fun hh => hla hh.2)]
      have hg := (h.la (pk P)).resolve_left hla
      have hn := (hI.need0 P).1 (by rw [setS, hzP]; exact hla)
      unfold getP
      rw [if_pos ⟨hasZ P q0 q1, hn⟩, if_pos ⟨hasY P q0 q1, (h.need0 P).1 hla⟩, sets, setS, pl_pk, pl_pk, hzP]
      obtain ⟨ga, gb, gc⟩ := hg
      have hne : y.S.la (pk P) * 8 + P % 8 ≠ z.S.la (pk page) * 8 + page % 8 := by
        by_cases e : pk P = pk page
        · have := hpkm e
          rw [← hzP, e]; omega
        · have : z.S.la (pk P) ≠ z.S.la (pk page) := fun hh => e (h2.laNe _ _ (by rw [hzP]; exact hla) hh)
          rw [hzP] at this
          omega
      rw [rd_other (by omega) (by omega) hne, ← hz]
      have l1 : z1.S.la (pk P) = y.S.la (pk P) := by rw [← hz1, up1_la]
      rw [la1_rd h1 _ _ j8 (by omega) mP (fun hh => h1.upla _ (pk P) hup1 (by rw [l1]; exact hh.symm)), ← hz1]
      exact up1_rd h _ i8 (by omega) mP (h.laR _).1 (h.laR _).2
  · rw [setS, laK]
    by_cases e : k = pk page
    · constructor
      · intro _; exact Or.inr e
      · intro _
        rw [← laK, e]; exact hla2
    · rw [if_neg (fun hh => e hh.1)]
      constructor
      · exact Or.inl
      · rintro (hh | hh)
        · exact hh
        · exact absurd hh e
  · have hzu : z.S.up i = z1.S.up i := by rw [← hz, la1_up]
    rw [setS, hzu]
    by_cases e : i = (page / 64).toNat
    · constructor
      · intro _; exact Or.inr e
      · intro _; rw [e]; exact hup1
    · have : z1.S.up i = y.S.up i := by
        rw [← hz1]; unfold YS.up1
        split
        · show (SS.setUp _ _ _).up i = _
          simp only [SS.setUp]; rw [if_neg e]
        · rfl
      rw [this]
      constructor
      · exact Or.inl
      · rintro (hh | hh)
        · exact hh
        · exact absurd hh e
end Go.Proofs.Ytaofkedcdeocjaa
