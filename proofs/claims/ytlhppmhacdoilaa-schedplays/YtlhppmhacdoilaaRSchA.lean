/-
  The document's scheduler: its state in memory; who runs where; awake, ended.
-/
import Derived.Test.YtlhppmhacdoilaaSchF
import Derived.Test.YtlhppmhacdoilaaListB
import Derived.Deep.RegionHeld3
namespace Go.Proofs.Ytlhppmhacdoilaa
open Go.ChangeShapes Go.WideShapes Go.ChangeAt Go.RowKit

namespace Sd
def rOn (s : Sd) : List Int := if s.two = true then [s.on 0, s.on 1] else [s.on 0]
def rLa (s : Sd) : List Int := if s.two = true then [(s.l0.1 : Int), (s.l1.1 : Int)] else [(s.l0.1 : Int)]
def rcell (s : Sd) (aO : Option Addr) (cO : Nat) (aL : Option Addr) (cL : Nat) (i : Nat) : Value :=
  if i < 4 then .bool (s.A i) else if i = 4 then .slice aO s.c cO else .slice aL s.c cL
theorem rOn_len (s : Sd) : s.rOn.length = s.c := by unfold rOn c; split <;> rfl
theorem rLa_len (s : Sd) : s.rLa.length = s.c := by unfold rLa c; split <;> rfl
theorem rOn_get (s : Sd) (i : Nat) (hi : i < s.c) : s.rOn.getD i 0 = s.on (i : Int) := by
  unfold rOn; unfold c at hi
  cases h : s.two
  · rw [h] at hi; simp at hi; subst hi; rfl
  · rw [h] at hi; simp at hi
    match i, hi with
    | 0, _ | 1, _ => rfl
theorem rLa_get (s : Sd) (i : Nat) (hi : i < s.c) : s.rLa.getD i 0 = ((s.L i).1 : Int) := by
  unfold rLa; unfold c at hi
  cases h : s.two
  · rw [h] at hi; simp at hi; subst hi; rfl
  · rw [h] at hi; simp at hi
    match i, hi with
    | 0, _ | 1, _ => rfl
theorem on_at (s : Sd) (i : Nat) (hi : i < s.c) : s.on (i : Int) = if s.R i = true then ((s.L i).1 : Int) else -1 := by
  unfold on; rw [if_pos ((s.hasC_iff _).2 (by omega)), Int.toNat_natCast]
/-- What the document's own asks of a CPU. -/
theorem on_hit (s : Sd) (i : Nat) (hi : i < s.c) (p : Int) : (s.on (i : Int) == p && decide (0 ≤ p)) = s.hit i p := by
  rw [s.on_at i hi]
  unfold hit
  cases hr : s.R i
  · rw [if_neg (by simp), Bool.and_false, Bool.and_eq_false_iff]
    by_cases h : 0 ≤ p
    · left; simp; omega
    · right; simpa using h
  · rw [if_pos rfl, Bool.and_true]
    by_cases h : 0 ≤ p
    · rw [decide_eq_true h, Bool.and_true]
    · rw [decide_eq_false h, Bool.and_false]; symm; simp; omega
theorem setA_on (s : Sd) (p : Nat) (x : Bool) (c : Int) : (s.setA p x).on c = s.on c := by
  unfold on hasC; rw [setA_c, setA_R, setA_L]
theorem setA_rOn (s : Sd) (p : Nat) (x : Bool) : (s.setA p x).rOn = s.rOn := by unfold rOn; rw [setA_two, setA_on, setA_on]
theorem setA_rLa (s : Sd) (p : Nat) (x : Bool) : (s.setA p x).rLa = s.rLa := by
  have h0 : (s.setA p x).l0 = s.l0 := s.setA_L p x 0
  have h1 : (s.setA p x).l1 = s.l1 := s.setA_L p x 1
  unfold rLa; rw [setA_two, h0, h1]
theorem setR_rLa (s : Sd) (c : Nat) (x : Bool) : (s.setR c x).rLa = s.rLa := by
  have h0 : (s.setR c x).l0 = s.l0 := s.setR_L c x 0
  have h1 : (s.setR c x).l1 = s.l1 := s.setR_L c x 1
  unfold rLa; rw [setR_two, h0, h1]
theorem rOn_fin (s : Sd) : ((s.setR 0 false).rOn == s.rOn.set 0 (-1) && (!s.two || (s.setR 1 false).rOn == s.rOn.set 1 (-1))) = true :=
  all (fun s => ((s.setR 0 false).rOn == s.rOn.set 0 (-1) && (!s.two || (s.setR 1 false).rOn == s.rOn.set 1 (-1)))) (by decide +kernel) s
theorem rOn_off (s : Sd) (c : Nat) (hc : c < s.c) : (s.setR c false).rOn = s.rOn.set c (-1) := by
  have := rOn_fin s
  simp only [Bool.and_eq_true, beq_iff_eq, Bool.or_eq_true, Bool.not_eq_true'] at this
  unfold Sd.c at hc
  cases h : s.two
  · rw [h] at hc; simp at hc; subst hc; exact this.1
  · rw [h] at hc; simp at hc
    match c, hc with
    | 0, _ => exact this.1
    | 1, _ => exact this.2.resolve_left (by rw [h]; simp)
theorem runs_fin (s : Sd) : ∀ p : Fin 4, ((s.runs 0 p).rOn == s.rOn.set 0 (p.1 : Int) && (s.runs 0 p).rLa == s.rLa.set 0 (p.1 : Int) && (!s.two || ((s.runs 1 p).rOn == s.rOn.set 1 (p.1 : Int) && (s.runs 1 p).rLa == s.rLa.set 1 (p.1 : Int)))) = true := by
  have := all (fun s => decide (∀ p : Fin 4, ((s.runs 0 p).rOn == s.rOn.set 0 (p.1 : Int) && (s.runs 0 p).rLa == s.rLa.set 0 (p.1 : Int) && (!s.two || ((s.runs 1 p).rOn == s.rOn.set 1 (p.1 : Int) && (s.runs 1 p).rLa == s.rLa.set 1 (p.1 : Int)))) = true)) (by decide +kernel) s
  exact of_decide_eq_true this
theorem runs_lists (s : Sd) (c : Nat) (hc : c < s.c) (p : Fin 4) : (s.runs c p).rOn = s.rOn.set c (p.1 : Int) ∧ (s.runs c p).rLa = s.rLa.set c (p.1 : Int) := by
  have := runs_fin s p
  simp only [Bool.and_eq_true, beq_iff_eq, Bool.or_eq_true, Bool.not_eq_true'] at this
  unfold Sd.c at hc
  cases h : s.two
  · rw [h] at hc; simp at hc; subst hc; exact this.1
  · rw [h] at hc; simp at hc
    match c, hc with
    | 0, _ => exact this.1
    | 1, _ => exact this.2.resolve_left (by rw [h]; simp)
/-- As the document's own ends a process on the first k CPUs. -/
def offTo (s : Sd) (p : Int) : Nat → Sd
  | 0 => s
  | k + 1 => if s.hit k p = true then (s.offTo p k).setR k false else s.offTo p k
theorem offTo_fin (s : Sd) : ∀ p : Fin 4, (!s.good || ((s.setA p.1 false).offTo (p.1 : Int) s.c == (s.setA p.1 false).off (p.1 : Int))) = true := by
  have := all (fun s => decide (∀ p : Fin 4, (!s.good || ((s.setA p.1 false).offTo (p.1 : Int) s.c == (s.setA p.1 false).off (p.1 : Int))) = true)) (by decide +kernel) s
  exact of_decide_eq_true this
theorem offTo_off {s : Sd} (h : s.good = true) (p : Nat) (hp : p < 4) : (s.setA p false).offTo (p : Int) s.c = (s.setA p false).off (p : Int) := by
  have := offTo_fin s ⟨p, hp⟩
  rw [h] at this
  simpa using this
theorem may_fin (s : Sd) : ∀ q : Fin 4, (!s.good || ((s.may q.1 0 == (s.A q.1 && decide ((s.setR 0 false).wh q.1 < 0))) && (!s.two || s.may q.1 1 == (s.A q.1 && decide ((s.setR 1 false).wh q.1 < 0))))) = true := by
  have := all (fun s => decide (∀ q : Fin 4, (!s.good || ((s.may q.1 0 == (s.A q.1 && decide ((s.setR 0 false).wh q.1 < 0))) && (!s.two || s.may q.1 1 == (s.A q.1 && decide ((s.setR 1 false).wh q.1 < 0))))) = true)) (by decide +kernel) s
  exact of_decide_eq_true this
theorem may_off {s : Sd} (h : s.good = true) (c : Nat) (hc : c < s.c) (q : Nat) (hq : q < 4) : s.may q c = (s.A q && decide ((s.setR c false).wh q < 0)) := by
  have := may_fin s ⟨q, hq⟩
  rw [h] at this
  simp only [Bool.not_true, Bool.false_or, Bool.and_eq_true, beq_iff_eq, Bool.or_eq_true, Bool.not_eq_true'] at this
  unfold Sd.c at hc
  cases t : s.two
  · rw [t] at hc; simp at hc; subst hc; exact this.1
  · rw [t] at hc; simp at hc
    match c, hc with
    | 0, _ => exact this.1
    | 1, _ => exact this.2.resolve_left (by rw [t]; simp)
theorem none_fin (s : Sd) : (!s.good || ((s.step 0 != 0 || s.setR 0 false == s) && (!s.two || s.step 1 != 0 || s.setR 1 false == s))) = true :=
  all (fun s => !s.good || ((s.step 0 != 0 || s.setR 0 false == s) && (!s.two || s.step 1 != 0 || s.setR 1 false == s))) (by decide +kernel) s
theorem none_off {s : Sd} (h : s.good = true) (c : Nat) (hc : c < s.c) (h0 : s.step c = 0) : s.setR c false = s := by
  have := none_fin s
  rw [h] at this
  simp only [Bool.not_true, Bool.false_or, Bool.and_eq_true, Bool.or_eq_true, bne_iff_ne, beq_iff_eq, Bool.not_eq_true'] at this
  unfold Sd.c at hc
  cases t : s.two
  · rw [t] at hc; simp at hc; subst hc; exact this.1.resolve_left (by rw [h0]; simp)
  · rw [t] at hc; simp at hc
    match c, hc, h0 with
    | 0, _, h0 => exact this.1.resolve_left (by rw [h0]; simp)
    | 1, _, h0 => exact this.2.resolve_left (by rw [t, h0]; simp)
theorem runs_off (s : Sd) (c : Nat) (p : Fin 4) : (s.setR c false).runs c p = s.runs c p := by
  unfold runs setR setL
  match c with
  | 0 => rfl
  | c + 1 => rfl
end Sd

theorem NL.set {w : World} {cap g : Nat} {l : List Int} (h : NL w (some ⟨g, 0, none⟩) cap l) {i : Nat} (hi : i < l.length) (x : Int) : NL (w.setCell ⟨g, i, none⟩ (.int .i64 x)) (some ⟨g, 0, none⟩) cap (l.set i x) := by
  rcases h with ⟨h, _⟩ | ⟨g', m, f, e, h3, h4, h5, h6, h8⟩
  · cases h
  · cases e
    refine Or.inr ⟨g, m, _, rfl, by rw [List.length_set]; exact h3, h4, h5.set i _, h6, fun j hj => ?_⟩
    rw [List.length_set] at hj
    by_cases e : j = i
    · subst e; rw [if_pos rfl]; simp [List.getD_eq_getElem?_getD, hj]
    · rw [if_neg e, h8 j hj]
      simp only [List.getD_eq_getElem?_getD]
      rw [List.getElem?_set_ne (fun q => e q.symm)]
theorem NL.at' {w : World} {cap : Nat} {a : Option Addr} {l : List Int} (h : NL w a cap l) (hl : 0 < l.length) : ∃ g, a = some ⟨g, 0, none⟩ ∧ l.length ≤ cap ∧ rowHas w g 3 l.length (fun i => .int .i64 (l.getD i 0)) := by
  rcases h with ⟨_, _, rfl⟩ | ⟨g', m, f, e, h3, h4, h5, h6, h8⟩
  · simp at hl
  · obtain ⟨m', g2, hm, hr, he⟩ := h5
    exact ⟨g', e, h3, m', g2, by omega, hr, fun i hi => by rw [he i (by omega), h8 i hi]⟩
/-- The document's: block b, its two lists. -/
structure RSdAt (w : World) (b gO cO gL cL : Nat) (s : Sd) : Prop where
  row : w.rowIs b 35 6 (s.rcell (some ⟨gO, 0, none⟩) cO (some ⟨gL, 0, none⟩) cL)
  on : NL w (some ⟨gO, 0, none⟩) cO s.rOn
  la : NL w (some ⟨gL, 0, none⟩) cL s.rLa
  ne : gO ≠ gL
/-- Its blocks. -/
abbrev RSdB (b gO gL : Nat) : Nat → Prop := fun k => k = b ∨ k = gO ∨ k = gL
namespace RSdAt
variable {w w' : World} {b gO cO gL cL : Nat} {s : Sd}
theorem touch {S : Nat → Prop} (h : RSdAt w b gO cO gL cL s) (t : Touch S w w') (hb : ¬ S b) (hO : ¬ S gO) (hL : ¬ S gL) : RSdAt w' b gO cO gL cL s :=
  ⟨t.row h.row hb, h.on.touch t (fun k hk => by obtain ⟨o, e⟩ := hk; cases e; exact hO), h.la.touch t (fun k hk => by obtain ⟨o, e⟩ := hk; cases e; exact hL), h.ne⟩
theorem nil (h : RSdAt w b gO cO gL cL s) (t : Touch Nil w w') : RSdAt w' b gO cO gL cL s := h.touch t id id id
theorem onR (h : RSdAt w b gO cO gL cL s) : s.c ≤ cO ∧ rowHas w gO 3 s.c (fun i => .int .i64 (s.rOn.getD i 0)) := by
  obtain ⟨g, e, h1, h2⟩ := h.on.at' (by rw [s.rOn_len]; have := s.c_ge; omega)
  cases e
  rw [s.rOn_len] at h1 h2
  exact ⟨h1, h2⟩
theorem laR (h : RSdAt w b gO cO gL cL s) : s.c ≤ cL ∧ rowHas w gL 3 s.c (fun i => .int .i64 (s.rLa.getD i 0)) := by
  obtain ⟨g, e, h1, h2⟩ := h.la.at' (by rw [s.rLa_len]; have := s.c_ge; omega)
  cases e
  rw [s.rLa_len] at h1 h2
  exact ⟨h1, h2⟩
theorem aC (h : RSdAt w b gO cO gL cL s) (i : Nat) (hi : i < 4) : w.cell? ⟨b, i, none⟩ = some (.bool (s.A i)) := by
  rw [h.row.cell (i := i) (by omega)]; unfold Sd.rcell; rw [if_pos hi]
theorem oC (h : RSdAt w b gO cO gL cL s) : w.cell? ⟨b, 4, none⟩ = some (.slice (some ⟨gO, 0, none⟩) s.c cO) := by
  rw [h.row.cell (i := 4) (by omega)]; rfl
theorem tC (h : RSdAt w b gO cO gL cL s) : w.cell? ⟨b, 5, none⟩ = some (.slice (some ⟨gL, 0, none⟩) s.c cL) := by
  rw [h.row.cell (i := 5) (by omega)]; rfl
theorem onC (h : RSdAt w b gO cO gL cL s) (i : Nat) (hi : i < s.c) : w.cell? ⟨gO, i, none⟩ = some (.int .i64 (s.on i)) := by
  rw [h.onR.2.cell hi, s.rOn_get i hi]
theorem laC (h : RSdAt w b gO cO gL cL s) (i : Nat) (hi : i < s.c) : w.cell? ⟨gL, i, none⟩ = some (.int .i64 (s.L i).1) := by
  rw [h.laR.2.cell hi, s.rLa_get i hi]
theorem neO (h : RSdAt w b gO cO gL cL s) : b ≠ gO := by
  obtain ⟨m, f, _, hr, _⟩ := h.onR.2
  exact rowIs_ne h.row hr (by decide)
theorem neL (h : RSdAt w b gO cO gL cL s) : b ≠ gL := by
  obtain ⟨m, f, _, hr, _⟩ := h.laR.2
  exact rowIs_ne h.row hr (by decide)
theorem setA (h : RSdAt w b gO cO gL cL s) (p : Nat) (hp : p < 4) (x : Bool) : RSdAt (w.setCell ⟨b, p, none⟩ (.bool x)) b gO cO gL cL (s.setA p x) := by
  have t := (Touch.refl (· = b) w).setCell (p := ⟨b, p, none⟩) rfl (.bool x)
  have h1 := h.neO
  have h2 := h.neL
  refine ⟨(h.row.set p _).congr fun i hi => ?_, ?_, ?_, h.ne⟩
  · unfold Sd.rcell
    rw [s.setA_c]
    by_cases e : i < 4
    · rw [if_pos e, s.setA_A p x hp i e]
      by_cases q : i = p
      · rw [if_pos q, if_pos e, if_pos q]
      · rw [if_neg q, if_pos e, if_neg q]
    · rw [if_neg e, if_neg (by omega), if_neg e]
  · rw [s.setA_rOn]
    exact h.on.touch t (fun k hk => by obtain ⟨o, e⟩ := hk; cases e; exact fun q => h1 q.symm)
  · rw [s.setA_rLa]
    exact h.la.touch t (fun k hk => by obtain ⟨o, e⟩ := hk; cases e; exact fun q => h2 q.symm)
theorem off (h : RSdAt w b gO cO gL cL s) (c : Nat) (hc : c < s.c) : RSdAt (w.setCell ⟨gO, c, none⟩ (.int .i64 (-1))) b gO cO gL cL (s.setR c false) := by
  have t := (Touch.refl (· = gO) w).setCell (p := ⟨gO, c, none⟩) rfl (.int .i64 (-1))
  refine ⟨((t.row h.row h.neO).congr fun i hi => ?_), ?_, ?_, h.ne⟩
  · unfold Sd.rcell; rw [s.setR_c, s.setR_A]
  · rw [s.rOn_off c hc]
    exact h.on.set (by rw [s.rOn_len]; exact hc) (-1)
  · rw [s.setR_rLa]
    exact h.la.touch t (fun k hk => by obtain ⟨o, e⟩ := hk; cases e; exact fun q => h.ne q.symm)
theorem runs (h : RSdAt w b gO cO gL cL s) (c : Nat) (hc : c < s.c) (p : Fin 4) : RSdAt ((w.setCell ⟨gO, c, none⟩ (.int .i64 p.1)).setCell ⟨gL, c, none⟩ (.int .i64 p.1)) b gO cO gL cL (s.runs c p) := by
  have t1 := (Touch.refl (· = gO) w).setCell (p := ⟨gO, c, none⟩) rfl (.int .i64 p.1)
  have t2 := (Touch.refl (· = gL) (w.setCell ⟨gO, c, none⟩ (.int .i64 p.1))).setCell (p := ⟨gL, c, none⟩) rfl (.int .i64 p.1)
  obtain ⟨e1, e2⟩ := s.runs_lists c hc p
  refine ⟨((t2.row (t1.row h.row h.neO) h.neL).congr fun i hi => ?_), ?_, ?_, h.ne⟩
  · unfold Sd.rcell Sd.runs; rw [Sd.setR_c, Sd.setL_c, Sd.setR_A, Sd.setL_A]
  · rw [e1]
    exact (h.on.set (by rw [s.rOn_len]; exact hc) p.1).touch t2 (fun k hk => by obtain ⟨o, e⟩ := hk; cases e; exact h.ne)
  · rw [e2]
    exact (h.la.touch t1 (fun k hk => by obtain ⟨o, e⟩ := hk; cases e; exact fun q => h.ne q.symm)).set (by rw [s.rLa_len]; exact hc) p.1
end RSdAt
end Go.Proofs.Ytlhppmhacdoilaa
