/-
  A process's tables: Get, Set.
-/
import Derived.Test.YtaofkedcdeocjaaSpB
namespace Go.Proofs.Ytaofkedcdeocjaa
open Go.ChangeShapes Go.WideShapes Go.ChangeAt Go.RowKit

theorem need_one {w : World} {q b p : Nat} {s : SS} (h : SpAt w q b p s) (page : Int) :
    Calls Try.prog 25 #[.pointer (some ⟨q, 0, none⟩), .slice (some ⟨w.heap.size, 0, none⟩) 1 1] (w.alloc (.cells #[.int .i64 page] 3)) fun e w' => e = .returned (.int .i64 (s.need [page])) ∧ Touch Nil w w' := by
  have t := (Touch.refl Nil w).alloc (.cells #[.int .i64 page] 3)
  refine (need_any (h.touch t (fun h => h)) (some ⟨w.heap.size, 0, none⟩) 1 1 [page] (by omega) (Or.inr ⟨w.heap.size, 0, rfl, by simp, fun i hi => ?_⟩) rfl).mono ?_
  · obtain rfl : i = 0 := by omega
    simp [go_sem]
  · rintro e w' ⟨rfl, t'⟩
    exact ⟨rfl, t.transNew t' (fun _ _ h => h)⟩
theorem need_le (s : SS) (page : Int) : s.need [page] ≤ 2 := by
  unfold SS.need
  simp only [List.foldl_cons, List.foldl_nil, needS]
  split
  · simp only [TT.lack]; split <;> split <;> omega
  · simp
theorem need_is {s : SS} {page : Int} (h : s.hasP page = true) : s.need [page] = (if s.up (page / 64).toNat = 0 then 1 else 0) + (if s.la ((page / 64).toNat * 8 + (page / 8 % 8).toNat) = 0 then 1 else 0) := by
  unfold SS.need
  simp [needS, h, TT.lack, SS.tt]

/-- A page's entry. -/
def SS.pl (S : SS) (page : Int) : Int := S.la ((page / 64).toNat * 8 + (page / 8 % 8).toNat) * 8 + page % 8
def getP (S : SS) (s : MS) (page : Int) : Int := if S.hasP page = true ∧ S.need [page] = 0 then s.rd (S.pl page) else 0

theorem place_q {w : World} {q b p : Nat} {S : SS} (h : SpAt w q b p S) (ok : S.ok) (page : Int) (h0 : 0 ≤ page) (h1 : page < 256) (n : Nat) :
    Calls Try.prog 59 #[.pointer (some ⟨q, 0, none⟩), .int .i64 page] (w.drewN n) fun e w' => e = .returned (.int .i64 (S.pl page)) ∧ ∃ m, w' = w.drewN m := by
  refine (place_any (h.drewN n) ok page h0 h1).mono ?_
  rintro e w' ⟨rfl, m, rfl⟩
  exact ⟨rfl, n + m, by rw [World.drewN_drewN]⟩

set_option maxHeartbeats 1000000 in
theorem get_any {w : World} {q p b c : Nat} {S : SS} {R : Nat → Int} {s : MS} (h : Sys w q p b c S R s) (ok : S.ok) (page : Int) :
    Calls Try.prog 18 #[.pointer (some ⟨q, 0, none⟩), .int .i64 page] w fun e w' => e = .returned (.int .u64 (getP S s page)) ∧ Touch Nil w w' := by
  have hH := fun wx (hx : SpAt wx q b p S) => shas_any hx page
  have hN := need_one h.sp page
  have hn2 := need_le S page
  cases hp : S.hasP page
  · have e : getP S s page = 0 := by unfold getP; rw [if_neg (by simp [hp])]
    rw [e]
    simp only [hp] at hH
    go_enter Try.func18, Try.ntmps18
    go_wp2_with (go_at_call 57; refine (hH _ h.sp).mono ?_; rintro e wq ⟨rfl, rfl⟩)
    go_ret
    exact ⟨rfl, Touch.refl _ _⟩
  · simp only [hp] at hH
    obtain ⟨_, h0, h256⟩ := (hasP_iff S page).1 hp
    by_cases hz : S.need [page] = 0
    · have e : getP S s page = s.rd (S.pl page) := by unfold getP; rw [if_pos ⟨hp, hz⟩]
      rw [e]
      clear e
      rw [hz] at hN
      have hl := ok.la ((page / 64).toNat * 8 + (page / 8 % 8).toNat)
      have hpl : S.pl page < 1000 := by unfold SS.pl; omega
      go_enter Try.func18, Try.ntmps18
      go_upto_region 3 with (first | (go_at_call 57; refine (hH _ h.sp).mono ?_; rintro e wq ⟨rfl, rfl⟩) | (go_at_call 25; with_reducible refine hN.mono ?_; rintro e w1 ⟨rfl, t1⟩))
      have h1 := h.nil t1
      have c0 := h1.sp.memC
      have hq := fun n => place_q h1.sp ok page h0 h256 n
      have hR : ∀ n, Calls Try.prog 46 #[.pointer (some ⟨b, 0, none⟩), .int .i64 (S.pl page)] (w1.drewN n) fun e w' => e = .returned (.tuple #[.int .u64 (s.rd (S.pl page)), .bool (s.hasW (S.pl page))]) ∧ ∃ m, w' = w1.drewN m := fun n => by
        refine (read_any (s := s) (c := c) (h1.me.touch ((Touch.refl Nil w1).drews n) (fun h => h) (fun h => h)) (S.pl page) (by omega)).mono ?_
        rintro e w' ⟨rfl, rfl⟩
        exact ⟨rfl, n, rfl⟩
      go_quiet ((first | (go_at_call 59; with_reducible exact hq _) | (go_at_call 46; with_reducible exact hR _)))
      go_wp2
      go_ret
      exact ⟨rfl, t1.drews _⟩
    · have e : getP S s page = 0 := by unfold getP; rw [if_neg (by simp [hz])]
      rw [e]
      have hz' : (0 : Int) < (S.need [page] : Int) := by omega
      generalize S.need [page] = nn at *
      go_enter Try.func18, Try.ntmps18
      go_wp2_with (first | (go_at_call 57; refine (hH _ h.sp).mono ?_; rintro e wq ⟨rfl, rfl⟩) | (go_at_call 25; with_reducible refine hN.mono ?_; rintro e w1 ⟨rfl, t1⟩))
      go_ret
      exact ⟨rfl, t1⟩

/-- A space, its pool, its memory, as plain functions. -/
structure YS where
  S : SS
  R : Nat → Int
  s : MS
def SS.setUp (S : SS) (i : Nat) (f : Int) : SS := { S with up := fun k => if k = i then f else S.up k }
def SS.setLa (S : SS) (i : Nat) (f : Int) : SS := { S with la := fun k => if k = i then f else S.la k }
/-- The upper table is there. -/
def YS.up1 (y : YS) (i : Nat) : YS :=
  if y.S.up i = 0 then ⟨y.S.setUp i y.s.least, rset y.R y.s.least 1, (y.s.mark y.s.least 1 y.S.own).roots y.S i y.s.least⟩ else y
/-- The last table is there. -/
def YS.la1 (y : YS) (i j : Nat) : YS :=
  if y.S.la (i * 8 + j) = 0 then ⟨y.S.setLa (i * 8 + j) y.s.least, rset y.R y.s.least 1, (y.s.mark y.s.least 1 y.S.own).write (y.S.up i * 8 + j) (opn y.s.least)⟩ else y
/-- A page's entry set. -/
def YS.set (y : YS) (page x : Int) : YS :=
  let z := (y.up1 (page / 64).toNat).la1 (page / 64).toNat (page / 8 % 8).toNat
  ⟨z.S, z.R, z.s.write (z.S.pl page) x⟩
def YS.may (y : YS) (page : Int) : Bool := y.S.hasP page && decide (y.S.need [page] ≤ y.s.left)

theorem SpAt.setUp {w : World} {q b p : Nat} {S : SS} (h : SpAt w q b p S) {i : Nat} (hi : i < 4) (f : Int) : SpAt (w.setCell ⟨q, 5 + i, none⟩ (.int .i64 f)) q b p (S.setUp i f) := by
  refine ⟨(h.row.set (5 + i) _).congr fun k hk => ?_⟩
  unfold SS.cell SS.setUp
  by_cases e : k = 5 + i
  · subst e
    rw [if_pos rfl, if_neg (by omega), if_neg (by omega), if_neg (by omega), if_neg (by omega), if_neg (by omega), if_pos (by omega)]
    simp
  · rw [if_neg e]
    repeat (split <;> try rfl)
    dsimp only
    rw [if_neg (by omega)]
theorem SpAt.setLa {w : World} {q b p : Nat} {S : SS} (h : SpAt w q b p S) {i : Nat} (hi : i < 32) (f : Int) : SpAt (w.setCell ⟨q, 9 + i, none⟩ (.int .i64 f)) q b p (S.setLa i f) := by
  refine ⟨(h.row.set (9 + i) _).congr fun k hk => ?_⟩
  unfold SS.cell SS.setLa
  by_cases e : k = 9 + i
  · subst e
    rw [if_pos rfl, if_neg (by omega), if_neg (by omega), if_neg (by omega), if_neg (by omega), if_neg (by omega), if_neg (by omega)]
    simp
  · rw [if_neg e]
    repeat (split <;> try rfl)
    dsimp only
    rw [if_neg (by omega)]
theorem write_left (s : MS) (a x : Int) : (s.write a x).left = s.left := by
  unfold MS.left MS.write; split <;> rfl
theorem least_lt {s : MS} (h : 1 ≤ s.left) (hn : s.n ≤ 64) : (0 : Int) ≤ s.least ∧ (s.least : Int) < 64 ∧ 15 ≤ s.least := by
  have := least_left h
  have := this.hi; have := (least_left h).lo
  omega
theorem up1_ok {y : YS} {i : Nat} (ok : y.S.ok) (hl : y.S.up i = 0 → 1 ≤ y.s.left) (hn : y.s.n ≤ 64) : (y.up1 i).S.ok := by
  unfold YS.up1
  split
  · have hf := least_lt (hl (by assumption)) hn
    refine ⟨ok.k, ok.u, fun k => ?_, ok.la⟩
    unfold SS.setUp
    by_cases e : k = i
    · simp only [if_pos e]; omega
    · simp only [if_neg e]; exact ok.up k
  · exact ok
theorem la1_ok {y : YS} {i j : Nat} (ok : y.S.ok) (hl : y.S.la (i * 8 + j) = 0 → 1 ≤ y.s.left) (hn : y.s.n ≤ 64) : (y.la1 i j).S.ok := by
  unfold YS.la1
  split
  · have hf := least_lt (hl (by assumption)) hn
    refine ⟨ok.k, ok.u, ok.up, fun k => ?_⟩
    unfold SS.setLa
    by_cases e : k = i * 8 + j
    · simp only [if_pos e]; omega
    · simp only [if_neg e]; exact ok.la k
  · exact ok
end Go.Proofs.Ytaofkedcdeocjaa
