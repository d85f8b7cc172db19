/-
  Caches held against the document's own, row by row.
-/
import Derived.Test.YtjfdjlinjghddaaRCacheG
namespace Go.Proofs.Ytjfdjlinjghddaa
open Go.ChangeShapes Go.WideShapes Go.ChangeAt Go.RowKit

theorem Ints.touch {w w' : World} {a : Option Addr} {n : Nat} {f : Nat → Int} (h : Ints w a n f) (t : Touch Nil w w') : Ints w' a n f := by
  rcases h with h | ⟨b, o, h1, h2, h3⟩
  · exact Or.inl h
  · exact Or.inr ⟨b, o, h1, Nat.lt_of_lt_of_le h2 t.size, fun i hi => (World.cell?_of_block (t.block b h2 id)).trans (h3 i hi)⟩

set_option maxRecDepth 10000 in
set_option maxHeartbeats 4000000 in
theorem csame_any {w : World} {b lo hi r lo' : Nat} {q : CQ} (hC : CAt w b lo hi q) (hR : RCAt w r lo' q) :
    Calls Try.prog 24 #[.pointer (some ⟨b, 0, none⟩), .pointer (some ⟨r, 0, none⟩)] w fun e w' => e = .returned (.bool true) ∧ Touch Nil w w' := by
  go_enter Try.func24, Try.ntmps24
  go_wp2_with (first
    | (go_at_call 12; refine (cshared_any hC).mono ?_; rintro e w1 ⟨c1, cap1, rfl, _, r1, t1, _, _⟩; have i1 := Ints.of r1; replace hC := hC.touch t1 (fun _ _ _ e => e); replace hR := hR.touch t1 (fun _ _ _ e => e); have hT := t1)
    | (go_at_call 36; refine (rshared_any hR).mono ?_; rintro e w2 ⟨a2, cap2, rfl, i2, t2⟩; replace i1 := i1.touch t2; replace hC := hC.touch t2 (fun _ _ _ e => e); replace hR := hR.touch t2 (fun _ _ _ e => e); replace hT := hT.trans t2)
    | (go_at_call 13; refine (isame_t i1 i2 (by omega) (fun _ _ => rfl)).mono ?_; rintro e w3 ⟨rfl, t3⟩; replace hC := hC.touch t3 (fun _ _ _ e => e); replace hR := hR.touch t3 (fun _ _ _ e => e); replace hT := hT.trans t3))
  go_loopg [5] 5 (fun g i wr => ∃ k : Nat, g + k = 5 ∧ i = .int .i64 ((k : Int) - 1) ∧ CAt wr b lo hi q ∧ RCAt wr r lo' q ∧ Touch Nil w wr)
  case atStart => exact ⟨0, by omega, rfl, hC, hR, hT⟩
  case round =>
    clear hC hR hT
    obtain ⟨k, hgk, rfl, hC, hR, hT⟩ := hrel
    by_cases hlt : k < 5
    · have k1 : (k : Int) - 1 < 4 := by omega
      have v1 : IntKind.i64.wrap ((k : Int) - 1 + 1) = (k : Int) := by rw [IntKind.wrap_i64]; omega
      by_cases hw : q.hasC ((k : Int) - 1) = true
      · go_wp2_with (first
          | (go_at_call 11; refine (ctags_yes hC _ hw).mono ?_; rintro e w1 ⟨c1, cap1, rfl, _, r1, t1, _, _⟩; have i1 := Ints.of r1; replace hC := hC.touch t1 (fun _ _ _ e => e); replace hR := hR.touch t1 (fun _ _ _ e => e); replace hT := hT.trans t1)
          | (go_at_call 37; refine (rtagsC_yes hR _ hw).mono ?_; rintro e w2 ⟨a2, cap2, rfl, i2, t2⟩; replace i1 := i1.touch t2; replace hC := hC.touch t2 (fun _ _ _ e => e); replace hR := hR.touch t2 (fun _ _ _ e => e); replace hT := hT.trans t2)
          | (go_at_call 13; refine (isame_t i1 i2 (by omega) (fun _ _ => rfl)).mono ?_; rintro e w3 ⟨rfl, t3⟩; replace hC := hC.touch t3 (fun _ _ _ e => e); replace hR := hR.touch t3 (fun _ _ _ e => e); replace hT := hT.trans t3))
        go_roundg (4 - k)
        case measure => omega
        case rel => exact ⟨k + 1, by omega, by go_num, hC, hR, hT⟩
      · have hw' : q.hasC ((k : Int) - 1) = false := by simpa using hw
        go_wp2_with (first
          | (go_at_call 11; refine (ctags_no hC _ hw').mono ?_; rintro e w1 ⟨rfl, rfl⟩)
          | (go_at_call 37; refine (rtagsC_no hR _ hw').mono ?_; rintro e w2 ⟨rfl, rfl⟩)
          | (go_at_call 13; refine (isame_t (Ints.none _ (fun _ => 0)) (Ints.none _ (fun _ => 0)) (by omega) (fun _ _ => rfl)).mono ?_; rintro e w3 ⟨rfl, t3⟩; replace hC := hC.touch t3 (fun _ _ _ e => e); replace hR := hR.touch t3 (fun _ _ _ e => e); replace hT := hT.trans t3))
        go_roundg (4 - k)
        case measure => omega
        case rel => exact ⟨k + 1, by omega, by go_num, hC, hR, hT⟩
    · have hk : k = 5 := by omega
      subst hk
      go_wp2
      go_ret
      exact ⟨rfl, hT⟩
end Go.Proofs.Ytjfdjlinjghddaa
