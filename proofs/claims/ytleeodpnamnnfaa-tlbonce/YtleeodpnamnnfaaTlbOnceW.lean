/-
  The walk of TlbOnce.
-/
import Derived.Test.YtleeodpnamnnfaaTlbI
import Derived.Test.YtleeodpnamnnfaaSlices
import Derived.Deep.CutBlock
namespace Go.Proofs.Ytleeodpnamnnfaa
open Go.ChangeShapes Go.WideShapes Go.ChangeAt Go.RowKit

/-- No two for one page under one name. -/
def Uniq (l : List It) : Prop := l.Pairwise (fun a b => ¬ (a.pg = b.pg ∧ a.pc = b.pc))
theorem It.self (x : It) : x.serves x.pc x.pg = true := by simp [It.serves]
theorem dropPage_not {pc pg : Int} {l : List It} {y : It} (h : y ∈ dropPage pc pg l) : y.serves pc pg = false ∧ y ∈ l := by
  unfold dropPage drops at h
  rw [List.mem_filter] at h
  exact ⟨by simpa using h.2, h.1⟩
theorem uniq_put (x : It) (l : List It) (h : Uniq l) : Uniq (put x l) := by
  have h1 : Uniq (dropPage x.pc x.pg l ++ [x]) := by
    unfold Uniq
    rw [List.pairwise_append]
    refine ⟨List.Pairwise.filter _ h, List.pairwise_singleton _ _, fun a ha b hb => ?_⟩
    rw [List.mem_singleton] at hb
    subst hb
    rintro ⟨e1, e2⟩
    have := (dropPage_not ha).1
    simp [It.serves, e1, e2] at this
  unfold put
  split
  · exact h1
  · exact h1.sublist (List.drop_sublist _ _)
theorem put_mem {x y : It} {l : List It} (h : y ∈ put x l) : y = x ∨ y.serves x.pc x.pg = false := by
  have h1 : y ∈ dropPage x.pc x.pg l ++ [x] := by
    unfold put at h
    split at h
    · exact h
    · exact List.mem_of_mem_drop h
  rcases List.mem_append.1 h1 with h2 | h2
  · exact Or.inr (dropPage_not h2).1
  · exact Or.inl (by simpa using h2)
theorem put_last (x : It) (l : List It) : (put x l)[(put x l).length - 1]? = some x := by
  unfold put
  generalize dropPage x.pc x.pg l = k at *
  split
  · simp
  · rename_i hk
    rw [List.getElem?_drop, List.length_drop, List.length_append]
    simp only [List.length_singleton]
    rw [show 1 + (k.length + 1 - 1 - 1) = k.length by omega]
    simp
theorem put_mem_self (x : It) (l : List It) : x ∈ put x l := List.mem_of_getElem? (put_last x l)
theorem finds_put (x : It) (l : List It) : finds x.pc x.pg (put x l) = true :=
  List.any_eq_true.2 ⟨x, put_mem_self x l, x.self⟩
theorem found_put (x : It) (l : List It) : found x.pc x.pg (put x l) = x := by
  unfold found findI
  cases e : (put x l).find? (fun y => y.serves x.pc x.pg) with
  | none => exact absurd x.self (List.find?_eq_none.1 e x (put_mem_self x l))
  | some y =>
    have h1 := List.find?_some e
    rcases put_mem (List.mem_of_find?_eq_some e) with rfl | h2
    · rfl
    · simp only [h2] at h1; cases h1
theorem finds_drop (pc pg : Int) (l : List It) : finds pc pg (dropPage pc pg l) = false := by
  unfold finds
  rw [List.any_eq_false]
  intro y hy
  rw [(dropPage_not hy).1]; simp
theorem uniq_get {l : List It} (h : Uniq l) {i j : Nat} {a b : It} (ha : l[j]? = some a) (hb : l[i]? = some b) (hij : i < j) : (a.pg == b.pg) = false ∨ (a.pg == b.pg) = true ∧ (a.pc == b.pc) = false := by
  obtain ⟨h1, h2⟩ := List.getElem?_eq_some_iff.1 ha
  obtain ⟨h3, h4⟩ := List.getElem?_eq_some_iff.1 hb
  have := List.pairwise_iff_getElem.1 h i j h3 h1 hij
  rw [h2, h4] at this
  by_cases e : a.pg = b.pg
  · right
    refine ⟨by simp [e], ?_⟩
    simp
    intro e2
    exact this ⟨e.symm, e2.symm⟩
  · left; simp [e]

theorem box_ne {w w2 : World} {o : Obj} {S : Nat → Prop} (t : Touch S (w.alloc o) w2) : w.heap.size ≠ w2.heap.size := by
  have := t.size
  rw [World.size_alloc] at this
  omega
set_option maxHeartbeats 1000000 in
set_option maxRecDepth 10000 in
theorem tlbOnce_walk (a0 : Option Addr) (len0 cap0 : Nat) (z0 : List Int) (w : World) (r0 : Row .i64 w a0 len0 cap0 z0) :
    Calls Try.prog 6 #[.slice a0 len0 cap0] w fun e w' => e = .returned (.bool true) ∧ Below w.heap.size w w' := by
  obtain ⟨hm0, p0⟩ := r0.plain
  unfold maxLen at hm0
  clear r0
  go_enter Try.func6, Try.ntmps6
  go_upto_block 0 with (go_at_call 8; refine (st_new _).mono ?_; rintro e w1 ⟨rfl, hA, hS⟩)
  go_cut [4] (fun _ wx => ∃ gg l, St w wx w.heap.size gg l)
  case first =>
    go_wp2_with fail
    go_loopg [4] 50 (fun g i wr => ∃ k : Nat, g + k = 50 ∧ i = .int .i64 k ∧ ∃ gg l, St w wr w.heap.size gg l ∧ Uniq l)
    case atStart => exact ⟨0, by omega, rfl, none, [], hA, List.Pairwise.nil⟩
    case round =>
      clear hA hS
      obtain ⟨k, hgk, rfl, gg, l, hA, hU⟩ := hrel
      by_cases hgo : k < len0 ∧ k < 50
      · obtain ⟨hg1, hg2⟩ := hgo
        rcases p0 with p0 | ⟨b1, o1, rfl, hb1, hc1⟩
        · omega
        have c0 := Plain.cell hc1 hb1 (hA.t.below (Nat.le_refl _) (fun _ e => e.elim)) k (by omega)
        have f0 := bounds_i64 (hc1 k (by omega)).2
        obtain ⟨y0, hy⟩ : ∃ y, z0.getD k 0 = y := ⟨_, rfl⟩
        rw [hy] at c0 f0
        have k1 : (k : Int) < len0 := by omega
        have k2 : (k : Int) < 50 := by omega
        go_wp2_with fail
        with_reducible refine (item_any _ y0 (by omega) (by omega)).mono ?_
        rintro e w2 ⟨rfl, t2⟩
        generalize itemV y0 = x
        replace hA := hA.nil t2
        have hB : Bs (w2.alloc (bxO x 26)) w.heap.size gg [(w2.heap.size, x)] := Bs.new (L := []) (fun _ h => by cases h) hA.at' x 26
        replace hA := hA.alloc (bxO x 26)
        have q1 := finds_put x l
        have q2 := found_put x l
        have q3 := put_last x l
        have q4 := uniq_put x l hU
        have q5 := put_len x l hA.at'.1
        go_wp2_with fail
        with_reducible refine (st_put hA x).mono ?_
        rintro e w3 ⟨rfl, g3, hA3, t3, fr3⟩
        replace hB := hB.put t3 fr3
        clear hA t3 fr3
        generalize put x l = L at *
        have b3 := hB.six (.head _)
        go_wp2_with fail
        with_reducible refine (st_find hA3 x.pc x.pg).mono ?_
        rw [q1, q2]
        rintro e w4 ⟨rfl, hA4, t4⟩
        replace hB := (hB.nil t4).new hA4.at' x 26
        replace hA4 := hA4.alloc (bxO x 26)
        clear hA3 t4 b3
        have b4 := hB.six (.head _)
        have b5 := hB.six (.tail _ (.head _))
        go_wp2_with fail
        obtain ⟨m, hm⟩ : ∃ m, L.length = m + 1 := ⟨L.length - 1, by omega⟩
        with_reducible refine (st_list hA4).mono ?_
        rw [hm]
        rintro e w5 ⟨a5, cap5, rfl, hA5, hL5, hf5, ho5, t5⟩
        obtain ⟨b6, o6, rfl, hL6⟩ := LAt.row hL5 (by intro h; rw [h] at hm; simp at hm)
        obtain rfl : o6 = 0 := (ho5 _ rfl).1
        replace hB := hB.nil t5
        rw [hm, Nat.add_sub_cancel] at q3
        obtain ⟨d0, d1, d2, d3, d4, d5⟩ := hL6.six0 q3
        clear b4 b5 hA4 t5 hL5 hf5 ho5 q1 q2 q3
        have b4 := hB.six (.head _)
        have b5 := hB.six (.tail _ (.head _))
        have m0 : ¬ ((m : Int) + 1 = 0) := by omega
        have m1 : ¬ ((8 : Int) < (m : Int) + 1) := by omega
        have n0 : ((m : Int) + 1 == 0) = false := beq_eq_false_iff_ne.2 m0
        have n1 : decide ((8 : Int) < (m : Int) + 1) = false := decide_eq_false m1
        have m2 : (m : Int) < (m : Int) + 1 := by omega
        have m3 : IntKind.i64.wrap ((m : Int) + 1 - 1) = (m : Int) := by rw [IntKind.wrap_i64]; omega
        have m4 : 0 ≤ (m : Int) := by omega
        have m5 : IntKind.i64.wrap (m : Int) = (m : Int) := by rw [IntKind.wrap_i64]; omega
        go_upto_region 13 with fail
        go_quiet (fail)
        have hA7 := hA5.nil ((Touch.refl Nil w5).drews nq)
        have hL7 := hL6.touch ((Touch.refl Nil w5).drews nq) (by simp [Nil])
        clear d0 d1 d2 d3 d4 d5 b4 b5 hB hA5 hL6 m2 m3 m5
        generalize w5.drewN nq = wd at *
        go_upto_block 2 with fail
        go_wp2_with fail
        clear m0 m1 n0 n1 m4 c0 k1 k2
        go_loopg [81] (m + 1) (fun g i wr => ∃ j : Nat, g + j = m + 1 ∧ i = .int .i64 j ∧ Aside (Touch Nil wd wr))
        case atStart => exact ⟨0, by omega, rfl, Touch.refl _ _⟩
        case round =>
          obtain ⟨j, hgj, rfl, T1⟩ := hrel
          by_cases hlt : j < m + 1
          · have j1 : (j : Int) < (m : Int) + 1 := by omega
            have j2 : j ≤ cap5 := by have := hL7.1; omega
            have j3 : (j : Int) ≤ (m : Int) + 1 := by omega
            have hy : L[j]? = some L[j] := List.getElem?_eq_getElem (by omega)
            generalize L[j] = y at hy
            obtain ⟨c0, c1, c2, c3, c4, c5⟩ := (hL7.touch T1.out (by simp [Nil])).six0 hy
            go_wp2_with fail
            clear c0 c1 c2 c3 c4 c5
            go_loopg [90] j (fun g i ws => ∃ q : Nat, g + q = j ∧ i = .int .i64 q ∧ Aside (Touch Nil (wr.alloc (bxO y 26)) ws))
            case atStart => exact ⟨0, by omega, rfl, Touch.refl _ _⟩
            case round =>
              obtain ⟨q, hgq, rfl, T2⟩ := hrel
              have T3 : Touch Nil wd _ := (T1.out.alloc _).trans T2.out
              by_cases hqt : q < j
              · have j4 : (q : Int) < (j : Int) := by omega
                have hz : L[q]? = some L[q] := List.getElem?_eq_getElem (by omega)
                generalize L[q] = z at hz
                have hun := uniq_get q4 hy hz hqt
                obtain ⟨c0, c1, c2, c3, c4, c5⟩ := (hL7.touch T3 (by simp [Nil])).six0 hz
                obtain ⟨x0, x1, x2, x3, x4, x5⟩ := box6 (T2.out.alloc (.cells #[.int .i64 z.pc, .int .i64 z.pg, .int .i64 z.fr, .bool z.wr, .bool z.us, .bool z.gl] 26))
                have hne := box_ne T2.out
                rcases hun with e1 | ⟨e1, e2⟩
                · go_wp2
                  go_roundg (j - (q + 1))
                  case measure => omega
                  case rel => exact ⟨q + 1, by omega, by go_num, T2.out.alloc _⟩
                · go_wp2
                  go_roundg (j - (q + 1))
                  case measure => omega
                  case rel => exact ⟨q + 1, by omega, by go_num, T2.out.alloc _⟩
              · obtain rfl : q = j := by omega
                have j4 : ¬ ((q : Int) < (q : Int)) := by omega
                go_wp2
                go_roundg (m + 1 - (q + 1))
                case measure => omega
                case rel => exact ⟨q + 1, by omega, by go_num, T3⟩
          · obtain rfl : j = m + 1 := by omega
            have j1 : ¬ ((m : Int) + 1 < (m : Int) + 1) := by omega
            go_wp2
            go_roundg (50 - (k + 1))
            case measure => omega
            case rel => exact ⟨k + 1, by omega, by go_num, g3, L, hA7.nil T1.out, q4⟩
      · clear p0
        by_cases hl : k < len0
        · have k1 : (k : Int) < len0 := by omega
          have k2 : ¬ ((k : Int) < 50) := by omega
          go_wp2
          go_meet
          exact ⟨gg, l, hA⟩
        · have k1 : ¬ ((k : Int) < len0) := by omega
          go_wp2
          go_meet
          exact ⟨gg, l, hA⟩
  case rest =>
  clear hA hS
  obtain ⟨gg, l, hA⟩ := hcut
  clear p0
  go_wp2_with fail
  have h8 : l.length ≤ 8 := hA.at'.1
  have hlp := hA.at'.blt
  have hlg := hA.at'.glt
  with_reducible refine (st_list hA).mono ?_
  rintro e w2 ⟨a2, cap2, rfl, hA2, hL2, hf2, ho2, t2⟩
  have hnb : ∀ k, blk a2 k → ¬ own w.heap.size gg k := by
    intro k hk
    have h1 := hf2 k hk
    rintro (e | e)
    · omega
    · have := hlg k e; omega
  clear hA t2 hf2 ho2 hlp hlg
  go_wp2_with fail
  go_loopg [111] l.length (fun g i wr => ∃ j : Nat, g + j = l.length ∧ i = .int .i64 j ∧ ∃ M, Aside (St w wr w.heap.size gg M) ∧ Aside (∀ y ∈ M, y ∈ l.drop j) ∧ Aside (LAt 26 wr a2 cap2 l))
  case atStart => exact ⟨0, by omega, rfl, l, hA2, (fun y hy => by simpa using hy), hL2⟩
  case round =>
    obtain ⟨j, hgj, rfl, M, S1, hM, L1⟩ := hrel
    by_cases hlt : j < l.length
    · have j1 : (j : Int) < (l.length : Int) := by omega
      obtain ⟨b2, o2, rfl, L2⟩ := LAt.row L1.out (by intro h; rw [h] at hlt; simp at hlt)
      have hy : l[j]? = some l[j] := List.getElem?_eq_getElem hlt
      have hdr : l.drop j = l[j] :: l.drop (j + 1) := List.drop_eq_getElem_cons hlt
      generalize l[j] = y at hy hdr
      obtain ⟨c0, c1, c2, c3, c4, c5⟩ := L2.six hy
      have hn2 : Aside (∀ k, blk (some (⟨b2, o2, none⟩ : Addr)) k → ¬ own w.heap.size gg k) := hnb
      have f1 := finds_drop y.pc y.pg M
      go_wp2_with fail
      have S2 := S1.out.alloc (bxO y 26)
      have B2 : Bs (wr.alloc (bxO y 26)) w.heap.size gg [(wr.heap.size, y)] := Bs.new (L := []) (fun _ h => by cases h) S1.out.at' y 26
      have L3 := L1.out.touch ((Touch.refl Nil wr).alloc (bxO y 26)) (by simp [Nil])
      with_reducible refine (st_page S2 y.pc y.pg).mono ?_
      rintro e w3 ⟨rfl, S3, t3⟩
      have B3 := B2.drop t3
      have L4 := L3.touch t3 hn2.out
      have x0 := B3.six (.head _)
      go_wp2_with fail
      with_reducible refine (st_find S3 y.pc y.pg).mono ?_
      rw [f1]
      rintro e w4 ⟨rfl, S4, t4⟩
      generalize found y.pc y.pg (dropPage y.pc y.pg M) = z
      have S5 := S4.alloc (bxO z 26)
      have L5 := (L4.touch t4 (by simp [Nil])).touch ((Touch.refl Nil w4).alloc (bxO z 26)) (by simp [Nil])
      go_wp2
      go_roundg (l.length - (j + 1))
      case measure => omega
      case rel =>
        refine ⟨j + 1, by omega, by go_num, _, S5, fun u hu => ?_, L5⟩
        obtain ⟨h1, h2⟩ := dropPage_not hu
        have h3 := hM.out u h2
        rw [hdr, List.mem_cons] at h3
        rcases h3 with rfl | h3
        · rw [u.self] at h1; cases h1
        · exact h3
    · obtain rfl : j = l.length := by omega
      have j1 : ¬ ((l.length : Int) < (l.length : Int)) := by omega
      have hM0 : M = [] := by
        cases M with
        | nil => rfl
        | cons y r => have := hM.out y (.head _); simp at this
      have S2 := S1.out
      rw [hM0] at S2
      clear S1 hM L1
      have n3 : hasN 0 [] = false := rfl
      have n4 : forgetI 0 [] = [] := rfl
      go_wp2_with fail
      with_reducible refine (st_list S2).mono ?_
      rintro e w3 ⟨a3, cap3, rfl, S3, _, _, _, _⟩
      go_wp2_with fail
      with_reducible refine (st_forget S3 0).mono ?_
      rw [n3, n4]
      rintro e w4 ⟨rfl, S4, _⟩
      go_wp2_with fail
      refine (wakes6_any _).mono ?_
      rintro e w5 ⟨rfl, t5⟩
      go_wp2_with fail
      go_ret
      exact ⟨rfl, (S4.t.trans t5).below (Nat.le_refl _) (by simp [Nil])⟩
end Go.Proofs.Ytleeodpnamnnfaa
