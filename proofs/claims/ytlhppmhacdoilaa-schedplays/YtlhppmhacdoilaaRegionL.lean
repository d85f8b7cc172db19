/-
  A region that draws its order, whose stores write the very cells that its loads read: a load may be taken first where its cell is as it was for as
  long as no store has come up, and each store waits for it. ('wpAnyH' of the kit's OrdersHeld asks its condition behind every operation; here it is asked till one of X has come up.)
-/
import Derived.OrdersHeld
import Derived.Deep.RegionWith
namespace Go.Proofs.Ytlhppmhacdoilaa
open Go

section
variable {P : Program} {ops : Array Oper} {Q : Exit → Act → World → Prop} {md : Region.Mode} {S : World → Prop} {X : List Nat}

/-- One of these has come up. -/
def upAny (X : List Nat) (listed : Array Bool) : Bool := X.any fun j => listed.getD j false
/-- Each of these waits for number i. -/
def waitAll (md : Region.Mode) (ops : Array Oper) (X : List Nat) (i : Nat) : Bool := X.all fun x => match ops[x]? with
  | some o => o.after.any (fun e => Region.binds md e && e.on == i)
  | none => false

theorem upAny_set {X : List Nat} {listed : Array Bool} {j : Nat} (hj : j ∉ X) : upAny X (listed.setIfInBounds j true) = upAny X listed := by
  unfold upAny
  induction X with
  | nil => rfl
  | cons x X ih =>
    simp only [List.mem_cons, not_or] at hj
    simp only [List.any_cons, ih hj.2]
    congr 1
    simp only [Array.getD_eq_getD_getElem?, Array.getElem?_setIfInBounds, if_neg hj.1]
theorem upAny_mono {X : List Nat} {listed : Array Bool} (j : Nat) (h : upAny X listed = true) : upAny X (listed.setIfInBounds j true) = true := by
  unfold upAny at *
  rw [List.any_eq_true] at *
  obtain ⟨x, hx, hl⟩ := h
  refine ⟨x, hx, ?_⟩
  simp only [Array.getD_eq_getD_getElem?, Array.getElem?_setIfInBounds] at *
  split
  · rename_i e
    subst e
    cases hx : listed[j]? with
    | none => rw [hx] at hl; simp at hl
    | some b => simp [(Array.getElem?_eq_some_iff.1 hx).1]
  · exact hl

def wpAnyX (P : Program) (md : Region.Mode) (ops : Array Oper) (Q : Exit → Act → World → Prop) (S : World → Prop) (X : List Nat) : Nat → Array Bool → Act → World → Prop
  | 0, listed, a, w => Region.ready md ops listed = [] ∧ Q .normal a w
  | fuel + 1, listed, a, w =>
    (Region.ready md ops listed = [] → Q .normal a w) ∧
    ∀ i ∈ Region.ready md ops listed, wpOp P ops Q i (fun a' w' => (upAny X (listed.setIfInBounds i true) = true ∨ S w') ∧ wpAnyX P md ops Q S X fuel (listed.setIfInBounds i true) a' w') a w

theorem wpAny_of_X : ∀ (fuel : Nat) (listed : Array Bool) (a : Act) (w : World), wpAnyX P md ops Q S X fuel listed a w → wpAny P md ops Q fuel listed a w
  | 0, _, _, _, h => h
  | fuel + 1, _, _, _, h => ⟨h.1, fun i hi => wpOp_mono (fun a' w' h' => wpAny_of_X fuel _ a' w' h'.2) (h.2 i hi)⟩

theorem wpAnyX_first {S0 : World → Prop} {i : Nat} {oi : Oper} {v : Value} (hi : ops[i]? = some oi) (hsel : ∀ (j : Nat) (o : Oper) cs b, ops[j]? = some o → o.op ≠ .select cs b)
    (hQ : ∀ c a w, Q (.panic c) (a.put oi.dst v) w → Q (.panic c) a w) (hiX : i ∉ X) (h0 : (∀ w, S0 w) ∨ ((∀ w, S w → S0 w) ∧ waitAll md ops X i = true)) :
    ∀ (fuel : Nat) (listed : Array Bool) (a : Act) (w : World),
      (∀ j oj, ops[j]? = some oj → j ≠ i → listed.getD j true = false → (∀ e ∈ oj.after, Region.binds md e = true → e.on ≠ i) → oi.apart ops oj = true) →
      i ∈ Region.ready md ops listed → YieldsIf P ops S0 oi v a → ((∀ w, S0 w) ∨ upAny X listed = false) → (upAny X listed = true ∨ S w) →
      wpAnyX P md ops Q S X fuel (listed.setIfInBounds i true) (a.put oi.dst v) w → wpAnyX P md ops Q S X (fuel + 1) listed a w := by
  have hS0 : ∀ (listed : Array Bool) (w : World), ((∀ w, S0 w) ∨ upAny X listed = false) → (upAny X listed = true ∨ S w) → S0 w := fun listed w hu hS => by
    rcases hu with hu | hu
    · exact hu w
    · rcases h0 with h0 | ⟨h0, _⟩
      · exact h0 w
      · rcases hS with hS | hS
        · rw [hu] at hS; cases hS
        · exact h0 w hS
  intro fuel
  induction fuel with
  | zero =>
    intro listed a w _ hr hy hu hS H
    refine ⟨fun h => (by rw [h] at hr; cases hr), fun j hj => ?_⟩
    by_cases hji : j = i
    · subst hji; exact hy.wpOp hi (hS0 _ _ hu hS) ⟨hS.imp (upAny_mono _) id, H⟩
    · have := ready_mono hj hji
      rw [H.1] at this
      cases this
  | succ fuel ih =>
    intro listed a w hfree hr hy hu hS H
    refine ⟨fun h => (by rw [h] at hr; cases hr), fun j hj => ?_⟩
    by_cases hji : j = i
    · subst hji; exact hy.wpOp hi (hS0 _ _ hu hS) ⟨hS.imp (upAny_mono _) id, H⟩
    · have h1 := H.2 j (ready_mono hj hji)
      obtain ⟨hjun, oj, hoj, hall⟩ := mem_ready.1 hj
      have hnot : ∀ e ∈ oj.after, Region.binds md e = true → e.on ≠ i := fun e he hb heq => by
        have h1 := hall e he hb
        have h0 := (mem_ready.1 hr).1
        rw [heq] at h1
        rcases Nat.lt_or_ge i listed.size with h' | h'
        · simp [h'] at h0 h1; rw [h0] at h1; cases h1
        · simp [Array.getElem?_eq_none h'] at h1
      have h2 := wpOp_putIf hoj (hfree j oj hoj hji hjun hnot) (fun cs b => hsel i oi cs b hi) (fun cs b => hsel j oj cs b hoj) hQ hy h1
      have hfree' : ∀ k ok, ops[k]? = some ok → k ≠ i → (listed.setIfInBounds j true).getD k true = false →
          (∀ e ∈ ok.after, Region.binds md e = true → e.on ≠ i) → oi.apart ops ok = true := fun k ok hk hki hun hno => by
        refine hfree k ok hk hki ?_ hno
        by_cases hjk : j = k
        · subst hjk; exact hjun
        · rw [getD_set_ne true hjk] at hun; exact hun
      have hu' : (∀ w, S0 w) ∨ upAny X (listed.setIfInBounds j true) = false := by
        rcases hu with hu | hu
        · exact Or.inl hu
        · rcases h0 with h0 | ⟨_, hw⟩
          · exact Or.inl h0
          · right
            have hjX : j ∉ X := fun hjX => by
              unfold waitAll at hw
              rw [List.all_eq_true] at hw
              have := hw j hjX
              rw [hoj] at this
              simp only [Array.any_eq_true] at this
              obtain ⟨m, hm, he⟩ := this
              simp only [Bool.and_eq_true, beq_iff_eq] at he
              exact hnot _ (Array.getElem_mem hm) he.1 he.2
            rw [upAny_set hjX]; exact hu
      have hT : ∀ w', (upAny X ((listed.setIfInBounds i true).setIfInBounds j true) = true ∨ S w') → (upAny X (listed.setIfInBounds j true) = true ∨ S w') := fun w' h => by
        rw [Array.setIfInBounds_comm _ _ (Ne.symm hji), upAny_set hiX] at h
        exact h
      refine wpOp_mono (fun a' w' h3 => ⟨hT w' h3.2.1, ih (listed.setIfInBounds j true) a' w' hfree' (ready_mono hr (Ne.symm hji)) h3.1 hu' (hT w' h3.2.1) ?_⟩) h2
      rw [Array.setIfInBounds_comm _ _ hji]
      exact h3.2.2

/-- Take what yields in whatever world. -/
theorem wpAnyX_take {i : Nat} {oi : Oper} {v : Value} {fuel : Nat} {listed : Array Bool} {a : Act} {w : World} (hi : ops[i]? = some oi)
    (hs : Region.noSelect ops = true) (hf : Region.free md ops listed i = true) (hr : (Region.ready md ops listed).contains i = true) (hX : X.contains i = false)
    (hQ : ∀ c a w, Q (.panic c) (a.put oi.dst v) w → Q (.panic c) a w) (hT : upAny X listed = true ∨ S w) (hy : YieldsIf P ops (fun _ => True) oi v a)
    (h : wpAnyX P md ops Q S X fuel (listed.setIfInBounds i true) (a.put oi.dst v) w) : wpAnyX P md ops Q S X (fuel + 1) listed a w :=
  wpAnyX_first hi (Region.noSelect_spec hs) hQ (by simpa using hX) (Or.inl fun _ => trivial) fuel listed a w (Region.free_spec hi hf) (by simpa using hr) hy (Or.inl fun _ => trivial) hT h
/-- Take a load. -/
theorem wpAnyX_load {i : Nat} {oi : Oper} {v : Value} {fuel : Nat} {listed : Array Bool} {a : Act} {w : World} (hi : ops[i]? = some oi)
    (hs : Region.noSelect ops = true) (hf : Region.free md ops listed i = true) (hr : (Region.ready md ops listed).contains i = true) (hX : X.contains i = false) (hW : waitAll md ops X i = true) (hu : upAny X listed = false)
    (hQ : ∀ c a w, Q (.panic c) (a.put oi.dst v) w → Q (.panic c) a w) (hS : S w) (hy : YieldsIf P ops S oi v a)
    (h : wpAnyX P md ops Q S X fuel (listed.setIfInBounds i true) (a.put oi.dst v) w) : wpAnyX P md ops Q S X (fuel + 1) listed a w :=
  wpAnyX_first hi (Region.noSelect_spec hs) hQ (by simpa using hX) (Or.inr ⟨fun _ h => h, hW⟩) fuel listed a w (Region.free_spec hi hf) (by simpa using hr) hy (Or.inr hu) (Or.inr hS) h
/-- One alone may come up, ahead of all of X. -/
theorem wpAnyX_one {i : Nat} {oi : Oper} {fuel : Nat} {listed : Array Bool} {a : Act} {w : World} (hi : ops[i]? = some oi) (hr : Region.ready md ops listed = [i])
    (h : ∀ K' : Act → World → Prop, (∀ a w, S w → wpAnyX P md ops Q S X fuel (listed.setIfInBounds i true) a w → K' a w) → if Region.wanted oi (yielded ops a.tmps) = true then Oper.wp P oi a w K' Q else K' (a.put oi.dst undef) w) : wpAnyX P md ops Q S X (fuel + 1) listed a w :=
  ⟨fun e => (by rw [hr] at e; cases e), fun j hj => by
    rw [hr] at hj
    obtain rfl : j = i := by simpa using hj
    exact wpOp_step hi (fun K' hK => h K' (fun a w hS hW => hK a w ⟨Or.inr hS, hW⟩))⟩
/-- .. behind one of them, or one of them. -/
theorem wpAnyX_late {i : Nat} {oi : Oper} {fuel : Nat} {listed : Array Bool} {a : Act} {w : World} (hi : ops[i]? = some oi) (hr : Region.ready md ops listed = [i]) (hu : upAny X (listed.setIfInBounds i true) = true)
    (h : ∀ K' : Act → World → Prop, (∀ a w, wpAnyX P md ops Q S X fuel (listed.setIfInBounds i true) a w → K' a w) → if Region.wanted oi (yielded ops a.tmps) = true then Oper.wp P oi a w K' Q else K' (a.put oi.dst undef) w) : wpAnyX P md ops Q S X (fuel + 1) listed a w :=
  ⟨fun e => (by rw [hr] at e; cases e), fun j hj => by
    rw [hr] at hj
    obtain rfl : j = i := by simpa using hj
    exact wpOp_step hi (fun K' hK => h K' (fun a w hW => hK a w ⟨Or.inl hu, hW⟩))⟩
theorem wpAnyX_done {listed : Array Bool} {a : Act} {w : World} (hr : Region.ready md ops listed = []) (h : Q .normal a w) : ∀ fuel, wpAnyX P md ops Q S X fuel listed a w
  | 0 => ⟨hr, h⟩
  | _ + 1 => ⟨fun _ => h, by rw [hr]; simp⟩
theorem wp_region_X {id : Nat} {a : Act} {w : World} (hm : P.follows .mixedOrders = true)
    (h : wpAnyX P .any ops Q S X ops.size (Array.replicate ops.size false) a w.drew) : (Code.region id ops true).wp P Q a w :=
  wp_region_any hm (wpAny_of_X _ _ _ _ h)
end
end Go.Proofs.Ytlhppmhacdoilaa
