/-
  The walk of SpacePlays, in pieces: its code's tails; what the walk holds ahead of its loop.
-/
import Derived.Test.YtoododpeoffieaaSpIx
import Derived.Test.YtoododpeoffieaaSpBx
import Derived.Test.YtoododpeoffieaaRefD
import Derived.Test.YtoododpeoffieaaSlices
import Derived.Deep.RegionHeld3
import Derived.Deep.QuietTactic
import Derived.BigQuiet
import Derived.Deep.LoopGhost
import Derived.Deep.CutBlock
namespace Go.Proofs.Ytoododpeoffieaa
open Go.ChangeShapes Go.WideShapes Go.ChangeAt Go.RowKit

/-- The configuration's block. -/
def CfR (w : World) (G : Nat) (N P : Int) (kpti inv : Bool) : Prop := w.rowIs G 24 4 (cfC N P kpti inv)
theorem CfR.cells {w : World} {G : Nat} {N P : Int} {kpti inv : Bool} (h : CfR w G N P kpti inv) : w.cell? ⟨G, 0, none⟩ = some (.int .i64 N) ∧ w.cell? ⟨G, 1, none⟩ = some (.int .i64 P) ∧ w.cell? ⟨G, 2, none⟩ = some (.bool kpti) ∧ w.cell? ⟨G, 3, none⟩ = some (.bool inv) :=
  ⟨World.rowIs.cell h (i := 0) (by omega), World.rowIs.cell h (i := 1) (by omega), World.rowIs.cell h (i := 2) (by omega), World.rowIs.cell h (i := 3) (by omega)⟩
theorem CfR.new (w : World) (N P : Int) (kpti inv : Bool) : CfR (w.alloc (.cells #[.int .i64 N, .int .i64 P, .bool kpti, .bool inv] 24)) w.heap.size N P kpti inv :=
  World.rowIs_alloc w #[.int .i64 N, .int .i64 P, .bool kpti, .bool inv] 24 (cfC N P kpti inv) (fun i hi => by
    have hi : i < 4 := hi
    match i, hi with
    | 0, _ | 1, _ | 2, _ | 3, _ => rfl)
theorem CfR.setN {w : World} {G : Nat} {N P : Int} {kpti inv : Bool} (h : CfR w G N P kpti inv) (x : Int) : CfR (w.setCell ⟨G, 0, none⟩ (.int .i64 x)) G x P kpti inv :=
  (World.rowIs.set h 0 _).congr fun i hi => by
    match i, hi with
    | 0, _ | 1, _ | 2, _ | 3, _ => rfl
theorem CfR.setP {w : World} {G : Nat} {N P : Int} {kpti inv : Bool} (h : CfR w G N P kpti inv) (x : Int) : CfR (w.setCell ⟨G, 1, none⟩ (.int .i64 x)) G N x kpti inv :=
  (World.rowIs.set h 1 _).congr fun i hi => by
    match i, hi with
    | 0, _ | 1, _ | 2, _ | 3, _ => rfl
/-- What the walk wants of the configuration once the switch is behind. -/
structure Pre (w wr : World) (G : Nat) (N P : Int) (kpti inv : Bool) : Prop where
  cf : CfR wr G N P kpti inv
  ge : w.heap.size ≤ G
  t : Touch Nil w wr

/-! ### The code's tails -/
def cR : Code → Code
  | .seq _ b => b
  | c => c
def cL : Code → Code
  | .seq a _ => a
  | c => c
noncomputable def spB : Code := Try.f3.body.getD .skip
noncomputable def spC7 : Code := cR (cR (cR spB))
abbrev spQ (w : World) : Exit → Act → World → Prop := bodyPost Try.prog Try.f3 (fun e w' => e = .returned (.bool true) ∧ Touch Nil w w')
end Go.Proofs.Ytoododpeoffieaa
/-
  The walk of SpacePlays: to the switch's end.
-/
namespace Go.Proofs.Ytoododpeoffieaa
open Go.ChangeShapes Go.WideShapes Go.ChangeAt Go.RowKit

set_option maxRecDepth 100000 in
set_option maxHeartbeats 8000000 in
theorem spStart (a0 a1 : Int) (a2 : Option Addr) (len2 cap2 : Nat) (w : World) (w0 : (Lit.int .i64 a0).wf = true)
    (h7 : ∀ (u3 u4 u5 u8 u9 u10 u11 u12 u13 u14 u15 u16 u17 u18 u19 u20 u21 u22 u23 u24 u25 u26 u27 u28 u29 u30 u31 u32 u33 u34 u35 u36 u37 u38 u39 u40 u41 u42 u43 u44 u45 u46 u47 u48 u49 u50 u51 u52 u53 u54 u55 u56 u57 u58 u59 u60 u61 u62 u63 u64 u65 u66 u67 u68 u69 u70 u71 u72 u73 u74 u75 u76 u77 u78 u79 u80 u81 u82 u83 u84 u85 u86 u87 u88 u89 u90 u91 u92 u93 u94 u95 u96 u97 u98 u99 u100 u101 u102 u103 u104 u105 u106 u107 u108 u109 u110 u111 u112 u113 u114 u115 u116 u117 u118 u119 u120 u121 u122 u123 u124 u125 u126 u127 u128 u129 u130 u131 u132 u133 u134 u135 u136 u137 u138 u139 u140 u141 u142 u143 u144 u145 u146 u147 u148 u149 u150 u151 u152 u153 u154 u155 u156 u157 u158 u159 u160 u161 u162 u163 u164 u165 u166 u167 u168 u169 u170 u171 u172 u173 u174 u175 u176 u177 u178 u179 u180 u181 u182 u183 u184 u185 u186 u187 u188 u189 u190 u191 u192 u193 u194 u195 u196 u197 u198 u199 u200 u201 u202 u203 u204 u205 u206 u207 u208 u209 u210 u211 u212 u213 u214 u215 u216 u217 u218 u219 u220 u221 u222 u223 u224 u225 u226 u227 u228 u229 u230 u231 u232 u233 u234 u235 u236 u237 u238 u239 u240 u241 u242 u243 u244 u245 u246 u247 u248 u249 u250 u251 u252 u253 u254 u255 u256 u257 u258 u259 u260 u261 u262 u263 u264 u265 u266 u267 u268 u269 u270 u271 u272 u273 u274 u275 u276 u277 u278 u279 u280 u281 u282 u283 u284 u285 u286 u287 u288 u289 u290 u291 u292 u293 u294 u295 u296 u297 u298 u299 u300 u301 u302 u303 u304 u305 u306 u307 u308 u309 u310 u311 u312 u313 u314 u315 u316 u317 u318 u319 u320 u321 u322 u323 u324 u325 u326 u327 u328 u329 u330 u331 u332 u333 u334 u335 u336 u337 u338 u339 u340 u341 u342 u343 u344 u345 u346 u347 u348 u349 u350 u351 u352 u353 u354 u355 u356 u357 u358 u359 u360 u361 u362 u363 u364 u365 u366 u367 u368 u369 u370 u371 u372 u373 u374 u375 u376 u377 u378 : Value) (G : Nat) (N P : Int) (kpti inv : Bool) (wx : World), Pre w wx G N P kpti inv → Code.wp Try.prog spC7 (spQ w) ⟨(List.toArray ((.int .i64 a0) :: (.int .i64 a1) :: (.slice a2 len2 cap2) :: u3 :: u4 :: u5 :: (.bool false) :: (.pointer (some ⟨G, 0, none⟩)) :: u8 :: u9 :: u10 :: u11 :: u12 :: u13 :: u14 :: u15 :: u16 :: u17 :: u18 :: u19 :: u20 :: u21 :: u22 :: u23 :: u24 :: u25 :: u26 :: u27 :: u28 :: u29 :: u30 :: u31 :: u32 :: u33 :: u34 :: u35 :: u36 :: u37 :: u38 :: u39 :: u40 :: u41 :: u42 :: u43 :: u44 :: u45 :: u46 :: u47 :: u48 :: u49 :: u50 :: u51 :: u52 :: u53 :: u54 :: u55 :: u56 :: u57 :: u58 :: u59 :: u60 :: u61 :: u62 :: u63 :: u64 :: u65 :: u66 :: u67 :: u68 :: u69 :: u70 :: u71 :: u72 :: u73 :: u74 :: u75 :: u76 :: u77 :: u78 :: u79 :: u80 :: u81 :: u82 :: u83 :: u84 :: u85 :: u86 :: u87 :: u88 :: u89 :: u90 :: u91 :: u92 :: u93 :: u94 :: u95 :: u96 :: u97 :: u98 :: u99 :: u100 :: u101 :: u102 :: u103 :: u104 :: u105 :: u106 :: u107 :: u108 :: u109 :: u110 :: u111 :: u112 :: u113 :: u114 :: u115 :: u116 :: u117 :: u118 :: u119 :: u120 :: u121 :: u122 :: u123 :: u124 :: u125 :: u126 :: u127 :: u128 :: u129 :: u130 :: u131 :: u132 :: u133 :: u134 :: u135 :: u136 :: u137 :: u138 :: u139 :: u140 :: u141 :: u142 :: u143 :: u144 :: u145 :: u146 :: u147 :: u148 :: u149 :: u150 :: u151 :: u152 :: u153 :: u154 :: u155 :: u156 :: u157 :: u158 :: u159 :: u160 :: u161 :: u162 :: u163 :: u164 :: u165 :: u166 :: u167 :: u168 :: u169 :: u170 :: u171 :: u172 :: u173 :: u174 :: u175 :: u176 :: u177 :: u178 :: u179 :: u180 :: u181 :: u182 :: u183 :: u184 :: u185 :: u186 :: u187 :: u188 :: u189 :: u190 :: u191 :: u192 :: u193 :: u194 :: u195 :: u196 :: u197 :: u198 :: u199 :: u200 :: u201 :: u202 :: u203 :: u204 :: u205 :: u206 :: u207 :: u208 :: u209 :: u210 :: u211 :: u212 :: u213 :: u214 :: u215 :: u216 :: u217 :: u218 :: u219 :: u220 :: u221 :: u222 :: u223 :: u224 :: u225 :: u226 :: u227 :: u228 :: u229 :: u230 :: u231 :: u232 :: u233 :: u234 :: u235 :: u236 :: u237 :: u238 :: u239 :: u240 :: u241 :: u242 :: u243 :: u244 :: u245 :: u246 :: u247 :: u248 :: u249 :: u250 :: u251 :: u252 :: u253 :: u254 :: u255 :: u256 :: u257 :: u258 :: u259 :: u260 :: u261 :: u262 :: u263 :: u264 :: u265 :: u266 :: u267 :: u268 :: u269 :: u270 :: u271 :: u272 :: u273 :: u274 :: u275 :: u276 :: u277 :: u278 :: u279 :: u280 :: u281 :: u282 :: u283 :: u284 :: u285 :: u286 :: u287 :: u288 :: u289 :: u290 :: u291 :: u292 :: u293 :: u294 :: u295 :: u296 :: u297 :: u298 :: u299 :: u300 :: u301 :: u302 :: u303 :: u304 :: u305 :: u306 :: u307 :: u308 :: u309 :: u310 :: u311 :: u312 :: u313 :: u314 :: u315 :: u316 :: u317 :: u318 :: u319 :: u320 :: u321 :: u322 :: u323 :: u324 :: u325 :: u326 :: u327 :: u328 :: u329 :: u330 :: u331 :: u332 :: u333 :: u334 :: u335 :: u336 :: u337 :: u338 :: u339 :: u340 :: u341 :: u342 :: u343 :: u344 :: u345 :: u346 :: u347 :: u348 :: u349 :: u350 :: u351 :: u352 :: u353 :: u354 :: u355 :: u356 :: u357 :: u358 :: u359 :: u360 :: u361 :: u362 :: u363 :: u364 :: u365 :: u366 :: u367 :: u368 :: u369 :: u370 :: u371 :: u372 :: u373 :: u374 :: u375 :: u376 :: u377 :: u378 :: [])), []⟩ wx) :
    Calls Try.prog 3 #[.int .i64 a0, .int .i64 a1, .slice a2 len2 cap2] w fun e w' => e = .returned (.bool true) ∧ Touch Nil w w' := by
  replace h7 : Hid _ := h7
  go_enter Try.func3, Try.ntmps3
  refine wp_seq_k (fun K0 h0 => ?_)
  replace h0 : Hid _ := h0
  go_wp2_with fail
  refine h0.out _ _ ?_
  refine wp_seq_k (fun K1 h1 => ?_)
  replace h1 : Hid _ := h1
  go_wp2_with fail
  with_reducible refine (conf_any a0 w0 w).mono ?_
  rintro e x1 ⟨N, P, kpti, inv, rfl, _, _, t1⟩
  have hR := CfR.new x1 N P kpti inv
  have tA := t1.alloc (.cells #[.int .i64 N, .int .i64 P, .bool kpti, .bool inv] 24)
  have gG := t1.size
  unfold cfV
  go_wp2_with fail
  clear t1
  generalize x1.alloc (.cells #[.int .i64 N, .int .i64 P, .bool kpti, .bool inv] 24) = W1 at *
  obtain ⟨G, hG⟩ : ∃ G, x1.heap.size = G := ⟨_, rfl⟩
  rw [hG] at hR gG ⊢
  clear hG
  refine h1.out _ _ ?_
  refine wp_seq_k (fun K2 h2 => ?_)
  replace h2 : Hid _ := h2
  go_wp2_with fail
  with_reducible refine (within_any a1 12 W1 (by decide) (by decide)).mono ?_
  rintro e wq ⟨rfl, rfl⟩
  obtain ⟨c0, c1, _, _⟩ := hR.cells
  have f0 : W1.frozen? ⟨G, 0, none⟩ = false := World.rowIs.frozen hR 0
  have f1 : W1.frozen? ⟨G, 1, none⟩ = false := World.rowIs.frozen hR 1
  obtain ⟨v, hv⟩ : ∃ v, a1 % 12 = v := ⟨_, rfl⟩
  rw [hv]
  clear hv
  rcases (by omega : v = 0 ∨ v = 1 ∨ ¬ (v = 0 ∨ v = 1)) with hv | hv | hv
  · subst hv
    go_wp2_with fail
    refine h2.out _ _ ?_
    exact h7.out _ _ _ _ _ _ _ _ _ _ _ _ _ _ _ _ _ _ _ _ _ _ _ _ _ _ _ _ _ _ _ _ _ _ _ _ _ _ _ _ _ _ _ _ _ _ _ _ _ _ _ _ _ _ _ _ _ _ _ _ _ _ _ _ _ _ _ _ _ _ _ _ _ _ _ _ _ _ _ _ _ _ _ _ _ _ _ _ _ _ _ _ _ _ _ _ _ _ _ _ _ _ _ _ _ _ _ _ _ _ _ _ _ _ _ _ _ _ _ _ _ _ _ _ _ _ _ _ _ _ _ _ _ _ _ _ _ _ _ _ _ _ _ _ _ _ _ _ _ _ _ _ _ _ _ _ _ _ _ _ _ _ _ _ _ _ _ _ _ _ _ _ _ _ _ _ _ _ _ _ _ _ _ _ _ _ _ _ _ _ _ _ _ _ _ _ _ _ _ _ _ _ _ _ _ _ _ _ _ _ _ _ _ _ _ _ _ _ _ _ _ _ _ _ _ _ _ _ _ _ _ _ _ _ _ _ _ _ _ _ _ _ _ _ _ _ _ _ _ _ _ _ _ _ _ _ _ _ _ _ _ _ _ _ _ _ _ _ _ _ _ _ _ _ _ _ _ _ _ _ _ _ _ _ _ _ _ _ _ _ _ _ _ _ _ _ _ _ _ _ _ _ _ _ _ _ _ _ _ _ _ _ _ _ _ _ _ _ _ _ _ _ _ _ _ _ _ _ _ _ _ _ _ _ _ _ _ _ _ _ _ _ _ _ _ _ _ _ _ _ _ _ _ _ _ _ _ _ _ _ _ _ _ _ _ _ _ _ _ _ _ _ _ _ _ _ _ _ _ _ ⟨hR.setN a1, gG, tA.setNew (p := ⟨G, 0, none⟩) gG _⟩
  · subst hv
    go_wp2_with fail
    refine h2.out _ _ ?_
    exact h7.out _ _ _ _ _ _ _ _ _ _ _ _ _ _ _ _ _ _ _ _ _ _ _ _ _ _ _ _ _ _ _ _ _ _ _ _ _ _ _ _ _ _ _ _ _ _ _ _ _ _ _ _ _ _ _ _ _ _ _ _ _ _ _ _ _ _ _ _ _ _ _ _ _ _ _ _ _ _ _ _ _ _ _ _ _ _ _ _ _ _ _ _ _ _ _ _ _ _ _ _ _ _ _ _ _ _ _ _ _ _ _ _ _ _ _ _ _ _ _ _ _ _ _ _ _ _ _ _ _ _ _ _ _ _ _ _ _ _ _ _ _ _ _ _ _ _ _ _ _ _ _ _ _ _ _ _ _ _ _ _ _ _ _ _ _ _ _ _ _ _ _ _ _ _ _ _ _ _ _ _ _ _ _ _ _ _ _ _ _ _ _ _ _ _ _ _ _ _ _ _ _ _ _ _ _ _ _ _ _ _ _ _ _ _ _ _ _ _ _ _ _ _ _ _ _ _ _ _ _ _ _ _ _ _ _ _ _ _ _ _ _ _ _ _ _ _ _ _ _ _ _ _ _ _ _ _ _ _ _ _ _ _ _ _ _ _ _ _ _ _ _ _ _ _ _ _ _ _ _ _ _ _ _ _ _ _ _ _ _ _ _ _ _ _ _ _ _ _ _ _ _ _ _ _ _ _ _ _ _ _ _ _ _ _ _ _ _ _ _ _ _ _ _ _ _ _ _ _ _ _ _ _ _ _ _ _ _ _ _ _ _ _ _ _ _ _ _ _ _ _ _ _ _ _ _ _ _ _ _ _ _ _ _ _ _ _ _ _ _ _ _ _ _ _ _ _ _ _ _ _ ⟨hR.setP _, gG, tA.setNew (p := ⟨G, 1, none⟩) gG _⟩
  · have e0 : (v == 0) = false := by simp; omega
    have e1 : (v == 1) = false := by simp; omega
    go_wp2_with fail
    refine h2.out _ _ ?_
    exact h7.out _ _ _ _ _ _ _ _ _ _ _ _ _ _ _ _ _ _ _ _ _ _ _ _ _ _ _ _ _ _ _ _ _ _ _ _ _ _ _ _ _ _ _ _ _ _ _ _ _ _ _ _ _ _ _ _ _ _ _ _ _ _ _ _ _ _ _ _ _ _ _ _ _ _ _ _ _ _ _ _ _ _ _ _ _ _ _ _ _ _ _ _ _ _ _ _ _ _ _ _ _ _ _ _ _ _ _ _ _ _ _ _ _ _ _ _ _ _ _ _ _ _ _ _ _ _ _ _ _ _ _ _ _ _ _ _ _ _ _ _ _ _ _ _ _ _ _ _ _ _ _ _ _ _ _ _ _ _ _ _ _ _ _ _ _ _ _ _ _ _ _ _ _ _ _ _ _ _ _ _ _ _ _ _ _ _ _ _ _ _ _ _ _ _ _ _ _ _ _ _ _ _ _ _ _ _ _ _ _ _ _ _ _ _ _ _ _ _ _ _ _ _ _ _ _ _ _ _ _ _ _ _ _ _ _ _ _ _ _ _ _ _ _ _ _ _ _ _ _ _ _ _ _ _ _ _ _ _ _ _ _ _ _ _ _ _ _ _ _ _ _ _ _ _ _ _ _ _ _ _ _ _ _ _ _ _ _ _ _ _ _ _ _ _ _ _ _ _ _ _ _ _ _ _ _ _ _ _ _ _ _ _ _ _ _ _ _ _ _ _ _ _ _ _ _ _ _ _ _ _ _ _ _ _ _ _ _ _ _ _ _ _ _ _ _ _ _ _ _ _ _ _ _ _ _ _ _ _ _ _ _ _ _ _ _ _ _ _ _ _ _ _ _ _ _ _ _ _ _ _ ⟨hR, gG, tA⟩
end Go.Proofs.Ytoododpeoffieaa
/-
  The walk of SpacePlays: New, Boot of both, the pool: up to the loop.
-/
namespace Go.Proofs.Ytoododpeoffieaa
open Go.ChangeShapes Go.WideShapes Go.ChangeAt Go.RowKit

noncomputable def spC24 : Code := cR (cR (cR (cR (cR (cR (cR (cR (cR (cR (cR spC7))))))))))
theorem rmap_n (s : MS) (g : Bool) (j m : Nat) : (s.rmap g j m).n = s.n := rfl
theorem boot_n {n : Nat} (h : 24 ≤ n) (h64 : n ≤ 64) (kpti : Bool) : ((MS.fresh n).boot kpti).n = n := by
  rw [MS.boot_eq (show 24 ≤ (MS.fresh n).n from h) (show (MS.fresh n).n ≤ 64 from h64)]
  unfold MS.layGate
  rw [MS.write_n, MS.write_n, rmap_n, MS.markAll_n]; rfl
theorem markAll_W (s : MS) : s.markAll.W = s.W := by
  have : ∀ (c : Int) (l : List Nat) (s : MS), (s.markL c l).W = s.W := by
    intro c l
    induction l with
    | nil => intro s; rfl
    | cons f l ih => intro s; show ((s.mark (f : Int) c (-1)).markL c l).W = _; rw [ih]; unfold MS.mark; split <;> rfl
  have h1 : ∀ (s : MS) (f c o : Int), (s.mark f c o).W = s.W := fun s f c o => by unfold MS.mark; split <;> rfl
  unfold MS.markAll
  rw [h1, this, this, h1]
theorem boot_free {n : Nat} (h : 24 ≤ n) (h64 : n ≤ 64) (kpti : Bool) : ((MS.fresh n).boot kpti).free0 := by
  intro f f0 f1 _ o ho
  rw [MS.boot_eq (show 24 ≤ (MS.fresh n).n from h) (show (MS.fresh n).n ≤ 64 from h64)]
  have wr : ∀ (s : MS) (a x : Int), a < 120 → 0 ≤ a → (s.write a x).W (f * 8 + o) = s.W (f * 8 + o) := fun s a x ha h0 => by
    unfold MS.write; split
    · show (if _ then _ else _) = _
      rw [if_neg (by omega)]
    · rfl
  unfold MS.layGate
  rw [wr _ _ _ (by omega) (by omega), wr _ _ _ (by omega) (by omega)]
  show (if _ then _ else if _ then _ else (MS.fresh n).markAll.W (f * 8 + o)) = (0 : Int)
  rw [if_neg (by omega), if_neg (show ¬ (32 ≤ f * 8 + o ∧ f * 8 + o < 32 + (MS.fresh n).n) by show ¬ (_ ∧ _ < 32 + n); omega), markAll_W]
  rfl
/-- Fixed's block. -/
theorem fx_new (w : World) : (w.alloc (.cells #[.int .i64 3, .int .i64 13] 33)).rowIs w.heap.size 33 2 fxC :=
  World.rowIs_alloc w #[.int .i64 3, .int .i64 13] 33 fxC (fun i hi => by
    have hi : i < 2 := hi
    match i, hi with
    | 0, _ | 1, _ => rfl)
set_option maxRecDepth 100000 in
set_option maxHeartbeats 8000000 in
theorem spMid (a0 a1 : Int) (a2 : Option Addr) (len2 cap2 : Nat) (w : World)
    (h24 : ∀ (u3 u4 u5 u8 u11 u13 u15 u16 u17 u18 u19 u20 u21 u22 u23 u24 u25 u26 u27 u28 u29 u30 u31 u32 u33 u34 u35 u36 u37 u38 u39 u40 u41 u42 u43 u44 u45 u46 u47 u48 u49 u50 u51 u52 u53 u54 u55 u56 u57 u58 u59 u60 u61 u62 u63 u64 u65 u66 u67 u68 u69 u70 u71 u72 u73 u74 u75 u76 u77 u78 u79 u80 u81 u82 u83 u84 u85 u86 u87 u88 u89 u90 u91 u92 u93 u94 u95 u96 u97 u98 u99 u100 u101 u102 u103 u104 u105 u106 u107 u108 u109 u110 u111 u112 u113 u114 u115 u116 u117 u118 u119 u120 u121 u122 u123 u124 u125 u126 u127 u128 u129 u130 u131 u132 u133 u134 u135 u136 u137 u138 u139 u140 u141 u142 u143 u144 u145 u146 u147 u148 u149 u150 u151 u152 u153 u154 u155 u156 u157 u158 u159 u160 u161 u162 u163 u164 u165 u166 u167 u168 u169 u170 u171 u172 u173 u174 u175 u176 u177 u178 u179 u180 u181 u182 u183 u184 u185 u186 u187 u188 u189 u190 u191 u192 u193 u194 u195 u196 u197 u198 u199 u200 u201 u202 u203 u204 u205 u206 u207 u208 u209 u210 u211 u212 u213 u214 u215 u216 u217 u218 u219 u220 u221 u222 u223 u224 u225 u226 u227 u228 u229 u230 u231 u232 u233 u234 u235 u236 u237 u238 u239 u240 u241 u242 u243 u244 u245 u246 u247 u248 u249 u250 u251 u252 u253 u254 u255 u256 u257 u258 u259 u260 u261 u262 u263 u264 u265 u266 u267 u268 u269 u270 u271 u272 u273 u274 u275 u276 u277 u278 u279 u280 u281 u282 u283 u284 u285 u286 u287 u288 u289 u290 u291 u292 u293 u294 u295 u296 u297 u298 u299 u300 u301 u302 u303 u304 u305 u306 u307 u308 u309 u310 u311 u312 u313 u314 u315 u316 u317 u318 u319 u320 u321 u322 u323 u324 u325 u326 u327 u328 u329 u330 u331 u332 u333 u334 u335 u336 u337 u338 u339 u340 u341 u342 u343 u344 u345 u346 u347 u348 u349 u350 u351 u352 u353 u354 u355 u356 u357 u358 u359 u360 u361 u362 u363 u364 u365 u366 u367 u368 u369 u370 u371 u372 u373 u374 u375 u376 u377 u378 : Value) (G b c p W : Nat) (y : RW) (cw cc co cr F : Nat) (N P : Int) (kpti inv : Bool) (s : MS) (wx : World), y.kpti = kpti → Al w wx b c p W y cw cc co cr G F N P kpti inv none 0 none 0 (fun _ => 0) s [] → Code.wp Try.prog spC24 (spQ w) ⟨(List.toArray ((.int .i64 a0) :: (.int .i64 a1) :: (.slice a2 len2 cap2) :: u3 :: u4 :: u5 :: (.bool false) :: (.pointer (some ⟨G, 0, none⟩)) :: u8 :: (.pointer (some ⟨b, 0, none⟩)) :: (.pointer (some ⟨W, 0, none⟩)) :: u11 :: (.pointer (some ⟨F, 0, none⟩)) :: u13 :: (.pointer (some ⟨p, 0, none⟩)) :: u15 :: u16 :: u17 :: u18 :: u19 :: u20 :: u21 :: u22 :: u23 :: u24 :: u25 :: u26 :: u27 :: u28 :: u29 :: u30 :: u31 :: u32 :: u33 :: u34 :: u35 :: u36 :: u37 :: u38 :: u39 :: u40 :: u41 :: u42 :: u43 :: u44 :: u45 :: u46 :: u47 :: u48 :: u49 :: u50 :: u51 :: u52 :: u53 :: u54 :: u55 :: u56 :: u57 :: u58 :: u59 :: u60 :: u61 :: u62 :: u63 :: u64 :: u65 :: u66 :: u67 :: u68 :: u69 :: u70 :: u71 :: u72 :: u73 :: u74 :: u75 :: u76 :: u77 :: u78 :: u79 :: u80 :: u81 :: u82 :: u83 :: u84 :: u85 :: u86 :: u87 :: u88 :: u89 :: u90 :: u91 :: u92 :: u93 :: u94 :: u95 :: u96 :: u97 :: u98 :: u99 :: u100 :: u101 :: u102 :: u103 :: u104 :: u105 :: u106 :: u107 :: u108 :: u109 :: u110 :: u111 :: u112 :: u113 :: u114 :: u115 :: u116 :: u117 :: u118 :: u119 :: u120 :: u121 :: u122 :: u123 :: u124 :: u125 :: u126 :: u127 :: u128 :: u129 :: u130 :: u131 :: u132 :: u133 :: u134 :: u135 :: u136 :: u137 :: u138 :: u139 :: u140 :: u141 :: u142 :: u143 :: u144 :: u145 :: u146 :: u147 :: u148 :: u149 :: u150 :: u151 :: u152 :: u153 :: u154 :: u155 :: u156 :: u157 :: u158 :: u159 :: u160 :: u161 :: u162 :: u163 :: u164 :: u165 :: u166 :: u167 :: u168 :: u169 :: u170 :: u171 :: u172 :: u173 :: u174 :: u175 :: u176 :: u177 :: u178 :: u179 :: u180 :: u181 :: u182 :: u183 :: u184 :: u185 :: u186 :: u187 :: u188 :: u189 :: u190 :: u191 :: u192 :: u193 :: u194 :: u195 :: u196 :: u197 :: u198 :: u199 :: u200 :: u201 :: u202 :: u203 :: u204 :: u205 :: u206 :: u207 :: u208 :: u209 :: u210 :: u211 :: u212 :: u213 :: u214 :: u215 :: u216 :: u217 :: u218 :: u219 :: u220 :: u221 :: u222 :: u223 :: u224 :: u225 :: u226 :: u227 :: u228 :: u229 :: u230 :: u231 :: u232 :: u233 :: u234 :: u235 :: u236 :: u237 :: u238 :: u239 :: u240 :: u241 :: u242 :: u243 :: u244 :: u245 :: u246 :: u247 :: u248 :: u249 :: u250 :: u251 :: u252 :: u253 :: u254 :: u255 :: u256 :: u257 :: u258 :: u259 :: u260 :: u261 :: u262 :: u263 :: u264 :: u265 :: u266 :: u267 :: u268 :: u269 :: u270 :: u271 :: u272 :: u273 :: u274 :: u275 :: u276 :: u277 :: u278 :: u279 :: u280 :: u281 :: u282 :: u283 :: u284 :: u285 :: u286 :: u287 :: u288 :: u289 :: u290 :: u291 :: u292 :: u293 :: u294 :: u295 :: u296 :: u297 :: u298 :: u299 :: u300 :: u301 :: u302 :: u303 :: u304 :: u305 :: u306 :: u307 :: u308 :: u309 :: u310 :: u311 :: u312 :: u313 :: u314 :: u315 :: u316 :: u317 :: u318 :: u319 :: u320 :: u321 :: u322 :: u323 :: u324 :: u325 :: u326 :: u327 :: u328 :: u329 :: u330 :: u331 :: u332 :: u333 :: u334 :: u335 :: u336 :: u337 :: u338 :: u339 :: u340 :: u341 :: u342 :: u343 :: u344 :: u345 :: u346 :: u347 :: u348 :: u349 :: u350 :: u351 :: u352 :: u353 :: u354 :: u355 :: u356 :: u357 :: u358 :: u359 :: u360 :: u361 :: u362 :: u363 :: u364 :: u365 :: u366 :: u367 :: u368 :: u369 :: u370 :: u371 :: u372 :: u373 :: u374 :: u375 :: u376 :: u377 :: u378 :: [])), []⟩ wx)
    (u3 u4 u5 u8 u9 u10 u11 u12 u13 u14 u15 u16 u17 u18 u19 u20 u21 u22 u23 u24 u25 u26 u27 u28 u29 u30 u31 u32 u33 u34 u35 u36 u37 u38 u39 u40 u41 u42 u43 u44 u45 u46 u47 u48 u49 u50 u51 u52 u53 u54 u55 u56 u57 u58 u59 u60 u61 u62 u63 u64 u65 u66 u67 u68 u69 u70 u71 u72 u73 u74 u75 u76 u77 u78 u79 u80 u81 u82 u83 u84 u85 u86 u87 u88 u89 u90 u91 u92 u93 u94 u95 u96 u97 u98 u99 u100 u101 u102 u103 u104 u105 u106 u107 u108 u109 u110 u111 u112 u113 u114 u115 u116 u117 u118 u119 u120 u121 u122 u123 u124 u125 u126 u127 u128 u129 u130 u131 u132 u133 u134 u135 u136 u137 u138 u139 u140 u141 u142 u143 u144 u145 u146 u147 u148 u149 u150 u151 u152 u153 u154 u155 u156 u157 u158 u159 u160 u161 u162 u163 u164 u165 u166 u167 u168 u169 u170 u171 u172 u173 u174 u175 u176 u177 u178 u179 u180 u181 u182 u183 u184 u185 u186 u187 u188 u189 u190 u191 u192 u193 u194 u195 u196 u197 u198 u199 u200 u201 u202 u203 u204 u205 u206 u207 u208 u209 u210 u211 u212 u213 u214 u215 u216 u217 u218 u219 u220 u221 u222 u223 u224 u225 u226 u227 u228 u229 u230 u231 u232 u233 u234 u235 u236 u237 u238 u239 u240 u241 u242 u243 u244 u245 u246 u247 u248 u249 u250 u251 u252 u253 u254 u255 u256 u257 u258 u259 u260 u261 u262 u263 u264 u265 u266 u267 u268 u269 u270 u271 u272 u273 u274 u275 u276 u277 u278 u279 u280 u281 u282 u283 u284 u285 u286 u287 u288 u289 u290 u291 u292 u293 u294 u295 u296 u297 u298 u299 u300 u301 u302 u303 u304 u305 u306 u307 u308 u309 u310 u311 u312 u313 u314 u315 u316 u317 u318 u319 u320 u321 u322 u323 u324 u325 u326 u327 u328 u329 u330 u331 u332 u333 u334 u335 u336 u337 u338 u339 u340 u341 u342 u343 u344 u345 u346 u347 u348 u349 u350 u351 u352 u353 u354 u355 u356 u357 u358 u359 u360 u361 u362 u363 u364 u365 u366 u367 u368 u369 u370 u371 u372 u373 u374 u375 u376 u377 u378 : Value) (G : Nat) (N P : Int) (kpti inv : Bool) (wx : World) (hp : Pre w wx G N P kpti inv) : Code.wp Try.prog spC7 (spQ w) ⟨(List.toArray ((.int .i64 a0) :: (.int .i64 a1) :: (.slice a2 len2 cap2) :: u3 :: u4 :: u5 :: (.bool false) :: (.pointer (some ⟨G, 0, none⟩)) :: u8 :: u9 :: u10 :: u11 :: u12 :: u13 :: u14 :: u15 :: u16 :: u17 :: u18 :: u19 :: u20 :: u21 :: u22 :: u23 :: u24 :: u25 :: u26 :: u27 :: u28 :: u29 :: u30 :: u31 :: u32 :: u33 :: u34 :: u35 :: u36 :: u37 :: u38 :: u39 :: u40 :: u41 :: u42 :: u43 :: u44 :: u45 :: u46 :: u47 :: u48 :: u49 :: u50 :: u51 :: u52 :: u53 :: u54 :: u55 :: u56 :: u57 :: u58 :: u59 :: u60 :: u61 :: u62 :: u63 :: u64 :: u65 :: u66 :: u67 :: u68 :: u69 :: u70 :: u71 :: u72 :: u73 :: u74 :: u75 :: u76 :: u77 :: u78 :: u79 :: u80 :: u81 :: u82 :: u83 :: u84 :: u85 :: u86 :: u87 :: u88 :: u89 :: u90 :: u91 :: u92 :: u93 :: u94 :: u95 :: u96 :: u97 :: u98 :: u99 :: u100 :: u101 :: u102 :: u103 :: u104 :: u105 :: u106 :: u107 :: u108 :: u109 :: u110 :: u111 :: u112 :: u113 :: u114 :: u115 :: u116 :: u117 :: u118 :: u119 :: u120 :: u121 :: u122 :: u123 :: u124 :: u125 :: u126 :: u127 :: u128 :: u129 :: u130 :: u131 :: u132 :: u133 :: u134 :: u135 :: u136 :: u137 :: u138 :: u139 :: u140 :: u141 :: u142 :: u143 :: u144 :: u145 :: u146 :: u147 :: u148 :: u149 :: u150 :: u151 :: u152 :: u153 :: u154 :: u155 :: u156 :: u157 :: u158 :: u159 :: u160 :: u161 :: u162 :: u163 :: u164 :: u165 :: u166 :: u167 :: u168 :: u169 :: u170 :: u171 :: u172 :: u173 :: u174 :: u175 :: u176 :: u177 :: u178 :: u179 :: u180 :: u181 :: u182 :: u183 :: u184 :: u185 :: u186 :: u187 :: u188 :: u189 :: u190 :: u191 :: u192 :: u193 :: u194 :: u195 :: u196 :: u197 :: u198 :: u199 :: u200 :: u201 :: u202 :: u203 :: u204 :: u205 :: u206 :: u207 :: u208 :: u209 :: u210 :: u211 :: u212 :: u213 :: u214 :: u215 :: u216 :: u217 :: u218 :: u219 :: u220 :: u221 :: u222 :: u223 :: u224 :: u225 :: u226 :: u227 :: u228 :: u229 :: u230 :: u231 :: u232 :: u233 :: u234 :: u235 :: u236 :: u237 :: u238 :: u239 :: u240 :: u241 :: u242 :: u243 :: u244 :: u245 :: u246 :: u247 :: u248 :: u249 :: u250 :: u251 :: u252 :: u253 :: u254 :: u255 :: u256 :: u257 :: u258 :: u259 :: u260 :: u261 :: u262 :: u263 :: u264 :: u265 :: u266 :: u267 :: u268 :: u269 :: u270 :: u271 :: u272 :: u273 :: u274 :: u275 :: u276 :: u277 :: u278 :: u279 :: u280 :: u281 :: u282 :: u283 :: u284 :: u285 :: u286 :: u287 :: u288 :: u289 :: u290 :: u291 :: u292 :: u293 :: u294 :: u295 :: u296 :: u297 :: u298 :: u299 :: u300 :: u301 :: u302 :: u303 :: u304 :: u305 :: u306 :: u307 :: u308 :: u309 :: u310 :: u311 :: u312 :: u313 :: u314 :: u315 :: u316 :: u317 :: u318 :: u319 :: u320 :: u321 :: u322 :: u323 :: u324 :: u325 :: u326 :: u327 :: u328 :: u329 :: u330 :: u331 :: u332 :: u333 :: u334 :: u335 :: u336 :: u337 :: u338 :: u339 :: u340 :: u341 :: u342 :: u343 :: u344 :: u345 :: u346 :: u347 :: u348 :: u349 :: u350 :: u351 :: u352 :: u353 :: u354 :: u355 :: u356 :: u357 :: u358 :: u359 :: u360 :: u361 :: u362 :: u363 :: u364 :: u365 :: u366 :: u367 :: u368 :: u369 :: u370 :: u371 :: u372 :: u373 :: u374 :: u375 :: u376 :: u377 :: u378 :: [])), []⟩ wx := by
  replace h24 : Hid _ := h24
  obtain ⟨hR, gG, tA⟩ := hp
  obtain ⟨c0, c1, c2, c3⟩ := hR.cells
  conv => arg 2; whnf
  refine wp_seq_k (fun K1 h1 => ?_)
  replace h1 : Hid _ := h1
  go_wp2_with fail
  with_reducible refine (within_any N 70 _ (by decide) (by decide)).mono ?_
  rintro e wq ⟨rfl, rfl⟩
  go_wp2_with fail
  refine h1.out _ _ ?_
  refine wp_seq_k (fun K2 h2 => ?_)
  replace h2 : Hid _ := h2
  have hN := new_any (N % 70) wx
  go_wp2_with fail
  with_reducible refine hN.mono ?_
  rintro e x2 ⟨rfl, hM, t2, s2⟩
  clear hN c0 c1 c2 c3
  have hR2 : CfR x2 G N P kpti inv := t2.row hR id
  obtain ⟨c0, c1, c2, c3⟩ := hR2.cells
  have T2 := tA.trans t2
  have gM := tA.size
  clear hR tA t2 s2
  generalize wx.heap.size = c at *
  go_wp2_with fail
  refine h2.out _ _ ?_
  refine wp_seq_k (fun K3 h3 => ?_)
  replace h3 : Hid _ := h3
  by_cases hfit : (24 ≤ N ∧ N ≤ 64) ∧ 1 ≤ P ∧ P ≤ 2
  · obtain ⟨⟨n24, n64⟩, hP⟩ := hfit
    have hm : MS.many (N % 70) = N.toNat := by unfold MS.many; omega
    rw [hm] at hM
    have hmod : N % 70 = N := by omega
    have hB := rboot_yes N P kpti inv n24 n64 hP x2
    unfold cfV at hB
    go_wp2_with fail
    with_reducible refine hB.mono ?_
    rintro e x3 ⟨W, y, cw, cc, co, cr, rfl, hyk, hbt⟩
    have hR3 : CfR x3 G N P kpti inv := hbt.t.row hR2 id
    have hM3 := hM.touch hbt.t id id
    have T3 := T2.trans hbt.t
    clear hB c0 c1 c2 c3 hm hR2 hM
    obtain ⟨c0, c1, c2, c3⟩ := hR3.cells
    have hS := boot_yes hM3 P kpti inv (show 24 ≤ (MS.fresh N.toNat).n by show 24 ≤ N.toNat; omega) hP
    rw [show (((MS.fresh N.toNat).n : Nat) : Int) = N by show ((N.toNat : Nat) : Int) = N; omega] at hS
    unfold cfV at hS
    have bn := boot_n (n := N.toNat) (by omega) (by omega) kpti
    have bf := boot_free (n := N.toNat) (by omega) (by omega) kpti
    generalize (MS.fresh N.toNat).boot kpti = s at *
    go_wp2_with fail
    refine h3.out _ _ ?_
    refine wp_seq_k (fun K4 h4 => ?_)
    replace h4 : Hid _ := h4
    go_wp2_with fail
    refine h4.out _ _ ?_
    refine wp_seq_k (fun K5 h5 => ?_)
    replace h5 : Hid _ := h5
    go_wp2_with fail
    with_reducible refine hS.mono ?_
    rintro e x4 ⟨rfl, hM4, t4⟩
    have hR4 : CfR x4 G N P kpti inv := t4.row hR3 (fun e => by subst e; exact absurd ((Ty.of hR3).one (Ty.has hM3.row)) (by decide))
    have tc : Touch Nil w x4 := T3.transNew t4 (fun i hi e => by omega)
    have cR := hM3.row.lt
    have hBt : RBt w x4 W y cw cc co cr s := by
      have RN : ∀ k t, Ty x3 k t → t ≠ 69 → k ≠ c := fun k t hk hne e => by subst e; exact hne (hk.one (Ty.has hM3.row))
      obtain ⟨b1, b2, b3, b4⟩ := hbt
      have sz := T2.size
      refine ⟨b1.touch t4 (RN _ _ (Ty.of b1) (by decide)), b2.far t4 (fun k hk => ?_), by omega, tc⟩
      rcases hk with e | e | e | e | e | e
      · subst e; exact RN _ _ (Ty.of b2.me.top) (by decide)
      · subst e; exact RN _ _ (Ty.of b2.po.top) (by decide)
      · subst e; exact RN _ _ (Ty.of b2.po.row) (by decide)
      · subst e; exact RN _ _ (Ty.of b2.me.rw') (by decide)
      · subst e; exact RN _ _ (Ty.of b2.me.rc) (by decide)
      · subst e; exact RN _ _ (Ty.of b2.me.ro) (by decide)
    clear c0 c1 c2 c3 hS hbt hR3 hM3 t4 T3 T2
    have fN := fx_new x4
    have tF := (Touch.refl Nil x4).alloc (.cells #[.int .i64 3, .int .i64 13] 33)
    have sF : x4.heap.size < (x4.alloc (.cells #[.int .i64 3, .int .i64 13] 33)).heap.size := by simp
    go_wp2_with fail
    have hR5 : CfR (x4.alloc (.cells #[.int .i64 3, .int .i64 13] 33)) G N P kpti inv := tF.row hR4 id
    have hM5 := hM4.touch tF id id
    have wo5 := hBt.wo.touch tF id
    have rm5 := hBt.rm.nil tF
    have ge5 := hBt.ge
    have gF := tc.size
    have T5 := tc.trans tF
    clear hR4 hM4 hBt tF tc
    generalize x4.alloc (.cells #[.int .i64 3, .int .i64 13] 33) = x5 at *
    generalize x4.heap.size = F at *
    obtain ⟨c0, c1, c2, c3⟩ := hR5.cells
    have e0 : x5.cell? ⟨F, 0, none⟩ = some (.int .i64 3) := World.rowIs.cell fN (i := 0) (by omega)
    have e1 : x5.cell? ⟨F, 1, none⟩ = some (.int .i64 13) := World.rowIs.cell fN (i := 1) (by omega)
    refine h5.out _ _ ?_
    refine wp_seq_k (fun K6 h6 => ?_)
    replace h6 : Hid _ := h6
    have hNN : (N != N) = false := by simp
    go_wp2_with fail
    refine h6.out _ _ ?_
    refine wp_seq_k (fun K7 h7 => ?_)
    replace h7 : Hid _ := h7
    go_wp2_with fail
    refine h7.out _ _ ?_
    refine wp_seq_k (fun K8 h8 => ?_)
    replace h8 : Hid _ := h8
    go_wp2_with fail
    refine h8.out _ _ ?_
    refine wp_seq_k (fun K9 h9 => ?_)
    replace h9 : Hid _ := h9
    have m4 := wo5.memC
    go_wp2_with fail
    with_reducible refine (same_any hM5 rm5.me).mono ?_
    rintro e x6 ⟨rfl, hdr⟩
    have T6 : Touch Nil x5 x6 := hdr.touch
    go_wp2_with fail
    refine h9.out _ _ ?_
    refine wp_seq_k (fun K10 h10 => ?_)
    replace h10 : Hid _ := h10
    go_wp2_with fail
    with_reducible refine (pnew_any (c + 1)).mono ?_
    rintro e x7 ⟨rfl, hP7, t7, s7⟩
    have T57 := T6.trans t7
    have hAl : Al w x7 (c + 1) c x6.heap.size W y cw cc co cr G F N P kpti inv none 0 none 0 (fun _ => 0) s [] := by
      have g5 := T5.size
      have g6 := T6.size
      refine ⟨⟨⟨hM5.touch T57 id id, hP7, (fun i hi => by cases hi)⟩, ⟨wo5.touch T57 id, rm5.nil T57, (fun i hi => by cases hi)⟩, Many.nil (by rw [bn]; omega) bf (fun j => (by show (0 : Int) ≤ 1; omega)) ⟨fun i => Int.le_refl _, fun i _ => rfl⟩, (fun j k i i' hi => by cases hi), ⟨⟨by omega, by omega, by omega, by omega, by omega, by omega⟩, fun k hk => ?_, (fun i hi => by cases hi)⟩, T5.trans T57⟩, ⟨T57.row hR5 id, T57.row fN id, PL.nil _ _, PL.nil _ _, ⟨by omega, by omega, fun k hk => (by obtain ⟨o, e⟩ := hk; cases e), fun k hk => (by obtain ⟨o, e⟩ := hk; cases e)⟩⟩⟩
      rcases hk with e | e | e | e <;> omega
    generalize x6.heap.size = p at *
    go_wp2_with fail
    refine h10.out _ _ ?_
    refine wp_seq_k (fun K11 h11 => ?_)
    replace h11 : Hid _ := h11
    go_wp2_with fail
    refine h11.out _ _ ?_
    exact h24.out _ _ _ _ _ _ _ _ _ _ _ _ _ _ _ _ _ _ _ _ _ _ _ _ _ _ _ _ _ _ _ _ _ _ _ _ _ _ _ _ _ _ _ _ _ _ _ _ _ _ _ _ _ _ _ _ _ _ _ _ _ _ _ _ _ _ _ _ _ _ _ _ _ _ _ _ _ _ _ _ _ _ _ _ _ _ _ _ _ _ _ _ _ _ _ _ _ _ _ _ _ _ _ _ _ _ _ _ _ _ _ _ _ _ _ _ _ _ _ _ _ _ _ _ _ _ _ _ _ _ _ _ _ _ _ _ _ _ _ _ _ _ _ _ _ _ _ _ _ _ _ _ _ _ _ _ _ _ _ _ _ _ _ _ _ _ _ _ _ _ _ _ _ _ _ _ _ _ _ _ _ _ _ _ _ _ _ _ _ _ _ _ _ _ _ _ _ _ _ _ _ _ _ _ _ _ _ _ _ _ _ _ _ _ _ _ _ _ _ _ _ _ _ _ _ _ _ _ _ _ _ _ _ _ _ _ _ _ _ _ _ _ _ _ _ _ _ _ _ _ _ _ _ _ _ _ _ _ _ _ _ _ _ _ _ _ _ _ _ _ _ _ _ _ _ _ _ _ _ _ _ _ _ _ _ _ _ _ _ _ _ _ _ _ _ _ _ _ _ _ _ _ _ _ _ _ _ _ _ _ _ _ _ _ _ _ _ _ _ _ _ _ _ _ _ _ _ _ _ _ _ _ _ _ _ _ _ _ _ _ _ _ _ _ _ _ _ _ _ _ _ _ _ _ _ _ _ _ _ _ _ _ _ _ _ _ _ _ _ _ _ _ _ _ _ _ _ _ _ _ _ _ _ _ _ _ _ hyk hAl
  · have nf : ∀ n, fitB n N P = false := fun n => by
      unfold fitB
      rw [Bool.eq_false_iff]
      intro e
      simp only [Bool.and_eq_true, decide_eq_true_eq] at e
      omega
    have hB := rboot_no N P kpti inv (nf _) x2
    unfold cfV at hB
    go_wp2_with fail
    with_reducible refine hB.mono ?_
    rintro e x3 ⟨rfl, t3⟩
    have hR3 : CfR x3 G N P kpti inv := t3.row hR2 id
    have hM3 := hM.touch t3 id id
    have T3 := T2.trans t3
    clear hB c0 c1 c2 c3 hR2 hM
    obtain ⟨c0, c1, c2, c3⟩ := hR3.cells
    have hS := boot_no hM3 N P kpti inv (nf _)
    unfold cfV at hS
    go_wp2_with fail
    refine h3.out _ _ ?_
    refine wp_seq_k (fun K4 h4 => ?_)
    replace h4 : Hid _ := h4
    go_wp2_with fail
    refine h4.out _ _ ?_
    refine wp_seq_k (fun K5 h5 => ?_)
    replace h5 : Hid _ := h5
    go_wp2_with fail
    with_reducible refine hS.mono ?_
    rintro e x4 ⟨rfl, t4⟩
    have hR4 : CfR x4 G N P kpti inv := t4.row hR3 id
    have T4 := T3.trans t4
    clear hS hR3 hM3 t3 t4 T3 T2 c0 c1 c2 c3
    have tF := (Touch.refl Nil x4).alloc (.cells #[.int .i64 0, .int .i64 0] 33)
    have hF := heap_alloc_new x4 (.cells #[.int .i64 0, .int .i64 0] 33)
    go_wp2_with fail
    have hR5 : CfR (x4.alloc (.cells #[.int .i64 0, .int .i64 0] 33)) G N P kpti inv := tF.row hR4 id
    have T5 := T4.trans tF
    have e0 : (x4.alloc (.cells #[.int .i64 0, .int .i64 0] 33)).cell? ⟨x4.heap.size, 0, none⟩ = some (.int .i64 0) := by unfold World.cell?; rw [hF]; rfl
    have e1 : (x4.alloc (.cells #[.int .i64 0, .int .i64 0] 33)).cell? ⟨x4.heap.size, 1, none⟩ = some (.int .i64 0) := by unfold World.cell?; rw [hF]; rfl
    clear tF hF hR4 T4
    generalize x4.alloc (.cells #[.int .i64 0, .int .i64 0] 33) = x5 at *
    generalize x4.heap.size = F at *
    obtain ⟨c0, c1, c2, c3⟩ := hR5.cells
    refine h5.out _ _ ?_
    refine wp_seq_k (fun K6 h6 => ?_)
    replace h6 : Hid _ := h6
    by_cases hN : N % 70 = N
    · have hNN : ((N % 70) != N) = false := by rw [hN]; simp
      go_wp2_with fail
      refine h6.out _ _ ?_
      refine wp_seq_k (fun K7 h7 => ?_)
      replace h7 : Hid _ := h7
      go_wp2_with fail
      refine h7.out _ _ ?_
      refine wp_seq_k (fun K8 h8 => ?_)
      replace h8 : Hid _ := h8
      go_wp2_with fail
      with_reducible refine (wakes9 _).mono ?_
      rintro e x9 ⟨rfl, t9⟩
      have T9 := T5.trans t9
      go_wp2_with fail
      go_ret
      exact ⟨rfl, T9⟩
    · have hNN : ((N % 70) != N) = true := by simpa using hN
      go_wp2_with fail
      with_reducible refine (wakes9 _).mono ?_
      rintro e x9 ⟨rfl, t9⟩
      have T9 := T5.trans t9
      go_wp2_with fail
      go_ret
      exact ⟨rfl, T9⟩
end Go.Proofs.Ytoododpeoffieaa
/-
  The walk of SpacePlays: a round that makes a space.
-/
namespace Go.Proofs.Ytoododpeoffieaa
open Go.ChangeShapes Go.WideShapes Go.ChangeAt Go.RowKit

def cB : Code → Code
  | .block _ c => c
  | .loop c => c
  | c => c
noncomputable def spBody : Code := cB (cB (cR (cL (cR (cR spC24)))))
theorem Rl.afterP {w0 w w4 : World} {b c p W : Nat} {y : RW} {cw cc co cr : Nat} {R : Nat → Int} {s : MS} {I : List Itm} {S : Nat → Prop} (h : Rl w0 w b c p W y cw cc co cr R s I) (t : Touch S w w4) (hs : ∀ k, S k → PH.fp b c p I k) : RH w4 W y cw cc co cr R s I :=
  h.rh.far t (fun k hk e => h.noP (hs k e) hk)
set_option maxRecDepth 100000 in
/-- The kept state behind a round. -/
def SpK (K : Act → World → Prop) (a0 a1 : Int) (a2 : Option Addr) (len2 cap2 : Nat) (w : World) (G b c p W : Nat) (y : RW) (cw cc co cr F : Nat) (N P : Int) (kpti inv : Bool) (k : Nat) : Prop :=
  ∀ (u3 u4 u5 u6 u8 u11 u13 u18 u19 u20 u21 u22 u23 u24 u25 u26 u27 u28 u29 u30 u31 u32 u33 u34 u35 u36 u37 u38 u39 u40 u41 u42 u43 u44 u45 u46 u47 u48 u49 u50 u51 u52 u53 u54 u55 u56 u57 u58 u59 u60 u61 u62 u63 u64 u65 u66 u67 u68 u69 u70 u71 u72 u73 u74 u75 u76 u77 u78 u79 u80 u81 u82 u83 u84 u85 u86 u87 u88 u89 u90 u91 u92 u93 u94 u95 u96 u97 u98 u99 u100 u101 u102 u103 u104 u105 u106 u107 u108 u109 u110 u111 u112 u113 u114 u115 u116 u117 u118 u119 u120 u121 u122 u123 u124 u125 u126 u127 u128 u129 u130 u131 u132 u133 u134 u135 u136 u137 u138 u139 u140 u141 u142 u143 u144 u145 u146 u147 u148 u149 u150 u151 u152 u153 u154 u155 u156 u157 u158 u159 u160 u161 u162 u163 u164 u165 u166 u167 u168 u169 u170 u171 u172 u173 u174 u175 u176 u177 u178 u179 u180 u181 u182 u183 u184 u185 u186 u187 u188 u189 u190 u191 u192 u193 u194 u195 u196 u197 u198 u199 u200 u201 u202 u203 u204 u205 u206 u207 u208 u209 u210 u211 u212 u213 u214 u215 u216 u217 u218 u219 u220 u221 u222 u223 u224 u225 u226 u227 u228 u229 u230 u231 u232 u233 u234 u235 u236 u237 u238 u239 u240 u241 u242 u243 u244 u245 u246 u247 u248 u249 u250 u251 u252 u253 u254 u255 u256 u257 u258 u259 u260 u261 u262 u263 u264 u265 u266 u267 u268 u269 u270 u271 u272 u273 u274 u275 u276 u277 u278 u279 u280 u281 u282 u283 u284 u285 u286 u287 u288 u289 u290 u291 u292 u293 u294 u295 u296 u297 u298 u299 u300 u301 u302 u303 u304 u305 u306 u307 u308 u309 u310 u311 u312 u313 u314 u315 u316 u317 u318 u319 u320 u321 u322 u323 u324 u325 u326 u327 u328 u329 u330 u331 u332 u333 u334 u335 u336 u337 u338 u339 u340 u341 u342 u343 u344 u345 u346 u347 u348 u349 u350 u351 u352 u353 u354 u355 u356 u357 u358 u359 u360 u361 u362 u363 u364 u365 u366 u367 u368 u369 u370 u371 u372 u373 u374 u375 u376 u377 u378 : Value) (ga' : Option Addr) (ca' : Nat) (gb' : Option Addr) (cb' : Nat) (R' : Nat → Int) (s' : MS) (I' : List Itm) (n' : Nat) (wx : World), n' = I'.length → Al w wx b c p W y cw cc co cr G F N P kpti inv ga' ca' gb' cb' R' s' I' → 3 * I'.length ≤ k + 3 → K ⟨(List.toArray ((.int .i64 a0) :: (.int .i64 a1) :: (.slice a2 len2 cap2) :: u3 :: u4 :: u5 :: u6 :: (.pointer (some ⟨G, 0, none⟩)) :: u8 :: (.pointer (some ⟨b, 0, none⟩)) :: (.pointer (some ⟨W, 0, none⟩)) :: u11 :: (.pointer (some ⟨F, 0, none⟩)) :: u13 :: (.pointer (some ⟨p, 0, none⟩)) :: (.slice ga' n' ca') :: (.slice gb' n' cb') :: (.int .i64 ((k : Int) + 3)) :: u18 :: u19 :: u20 :: u21 :: u22 :: u23 :: u24 :: u25 :: u26 :: u27 :: u28 :: u29 :: u30 :: u31 :: u32 :: u33 :: u34 :: u35 :: u36 :: u37 :: u38 :: u39 :: u40 :: u41 :: u42 :: u43 :: u44 :: u45 :: u46 :: u47 :: u48 :: u49 :: u50 :: u51 :: u52 :: u53 :: u54 :: u55 :: u56 :: u57 :: u58 :: u59 :: u60 :: u61 :: u62 :: u63 :: u64 :: u65 :: u66 :: u67 :: u68 :: u69 :: u70 :: u71 :: u72 :: u73 :: u74 :: u75 :: u76 :: u77 :: u78 :: u79 :: u80 :: u81 :: u82 :: u83 :: u84 :: u85 :: u86 :: u87 :: u88 :: u89 :: u90 :: u91 :: u92 :: u93 :: u94 :: u95 :: u96 :: u97 :: u98 :: u99 :: u100 :: u101 :: u102 :: u103 :: u104 :: u105 :: u106 :: u107 :: u108 :: u109 :: u110 :: u111 :: u112 :: u113 :: u114 :: u115 :: u116 :: u117 :: u118 :: u119 :: u120 :: u121 :: u122 :: u123 :: u124 :: u125 :: u126 :: u127 :: u128 :: u129 :: u130 :: u131 :: u132 :: u133 :: u134 :: u135 :: u136 :: u137 :: u138 :: u139 :: u140 :: u141 :: u142 :: u143 :: u144 :: u145 :: u146 :: u147 :: u148 :: u149 :: u150 :: u151 :: u152 :: u153 :: u154 :: u155 :: u156 :: u157 :: u158 :: u159 :: u160 :: u161 :: u162 :: u163 :: u164 :: u165 :: u166 :: u167 :: u168 :: u169 :: u170 :: u171 :: u172 :: u173 :: u174 :: u175 :: u176 :: u177 :: u178 :: u179 :: u180 :: u181 :: u182 :: u183 :: u184 :: u185 :: u186 :: u187 :: u188 :: u189 :: u190 :: u191 :: u192 :: u193 :: u194 :: u195 :: u196 :: u197 :: u198 :: u199 :: u200 :: u201 :: u202 :: u203 :: u204 :: u205 :: u206 :: u207 :: u208 :: u209 :: u210 :: u211 :: u212 :: u213 :: u214 :: u215 :: u216 :: u217 :: u218 :: u219 :: u220 :: u221 :: u222 :: u223 :: u224 :: u225 :: u226 :: u227 :: u228 :: u229 :: u230 :: u231 :: u232 :: u233 :: u234 :: u235 :: u236 :: u237 :: u238 :: u239 :: u240 :: u241 :: u242 :: u243 :: u244 :: u245 :: u246 :: u247 :: u248 :: u249 :: u250 :: u251 :: u252 :: u253 :: u254 :: u255 :: u256 :: u257 :: u258 :: u259 :: u260 :: u261 :: u262 :: u263 :: u264 :: u265 :: u266 :: u267 :: u268 :: u269 :: u270 :: u271 :: u272 :: u273 :: u274 :: u275 :: u276 :: u277 :: u278 :: u279 :: u280 :: u281 :: u282 :: u283 :: u284 :: u285 :: u286 :: u287 :: u288 :: u289 :: u290 :: u291 :: u292 :: u293 :: u294 :: u295 :: u296 :: u297 :: u298 :: u299 :: u300 :: u301 :: u302 :: u303 :: u304 :: u305 :: u306 :: u307 :: u308 :: u309 :: u310 :: u311 :: u312 :: u313 :: u314 :: u315 :: u316 :: u317 :: u318 :: u319 :: u320 :: u321 :: u322 :: u323 :: u324 :: u325 :: u326 :: u327 :: u328 :: u329 :: u330 :: u331 :: u332 :: u333 :: u334 :: u335 :: u336 :: u337 :: u338 :: u339 :: u340 :: u341 :: u342 :: u343 :: u344 :: u345 :: u346 :: u347 :: u348 :: u349 :: u350 :: u351 :: u352 :: u353 :: u354 :: u355 :: u356 :: u357 :: u358 :: u359 :: u360 :: u361 :: u362 :: u363 :: u364 :: u365 :: u366 :: u367 :: u368 :: u369 :: u370 :: u371 :: u372 :: u373 :: u374 :: u375 :: u376 :: u377 :: u378 :: [])), []⟩ wx
set_option maxRecDepth 100000 in
set_option maxHeartbeats 16000000 in
theorem spNew {K : Act → World → Prop} {Q : Exit → Act → World → Prop} (a0 a1 : Int) (a2 : Option Addr) (len2 cap2 : Nat) (z2 : List Int) (w : World) (p2 : Plain .i64 w a2 len2 z2)
    (u3 u4 u5 u6 u8 u11 u13 u18 u19 u20 u21 u22 u23 u24 u25 u26 u27 u28 u29 u30 u31 u32 u33 u34 u35 u36 u37 u38 u39 u40 u41 u42 u43 u44 u45 u46 u47 u48 u49 u50 u51 u52 u53 u54 u55 u56 u57 u58 u59 u60 u61 u62 u63 u64 u65 u66 u67 u68 u69 u70 u71 u72 u73 u74 u75 u76 u77 u78 u79 u80 u81 u82 u83 u84 u85 u86 u87 u88 u89 u90 u91 u92 u93 u94 u95 u96 u97 u98 u99 u100 u101 u102 u103 u104 u105 u106 u107 u108 u109 u110 u111 u112 u113 u114 u115 u116 u117 u118 u119 u120 u121 u122 u123 u124 u125 u126 u127 u128 u129 u130 u131 u132 u133 u134 u135 u136 u137 u138 u139 u140 u141 u142 u143 u144 u145 u146 u147 u148 u149 u150 u151 u152 u153 u154 u155 u156 u157 u158 u159 u160 u161 u162 u163 u164 u165 u166 u167 u168 u169 u170 u171 u172 u173 u174 u175 u176 u177 u178 u179 u180 u181 u182 u183 u184 u185 u186 u187 u188 u189 u190 u191 u192 u193 u194 u195 u196 u197 u198 u199 u200 u201 u202 u203 u204 u205 u206 u207 u208 u209 u210 u211 u212 u213 u214 u215 u216 u217 u218 u219 u220 u221 u222 u223 u224 u225 u226 u227 u228 u229 u230 u231 u232 u233 u234 u235 u236 u237 u238 u239 u240 u241 u242 u243 u244 u245 u246 u247 u248 u249 u250 u251 u252 u253 u254 u255 u256 u257 u258 u259 u260 u261 u262 u263 u264 u265 u266 u267 u268 u269 u270 u271 u272 u273 u274 u275 u276 u277 u278 u279 u280 u281 u282 u283 u284 u285 u286 u287 u288 u289 u290 u291 u292 u293 u294 u295 u296 u297 u298 u299 u300 u301 u302 u303 u304 u305 u306 u307 u308 u309 u310 u311 u312 u313 u314 u315 u316 u317 u318 u319 u320 u321 u322 u323 u324 u325 u326 u327 u328 u329 u330 u331 u332 u333 u334 u335 u336 u337 u338 u339 u340 u341 u342 u343 u344 u345 u346 u347 u348 u349 u350 u351 u352 u353 u354 u355 u356 u357 u358 u359 u360 u361 u362 u363 u364 u365 u366 u367 u368 u369 u370 u371 u372 u373 u374 u375 u376 u377 u378 : Value) (G b c p W : Nat) (y : RW) (cw cc co cr F : Nat) (N P : Int) (kpti inv : Bool) (k : Nat) (ga : Option Addr) (ca : Nat) (gb : Option Addr) (cb : Nat) (R : Nat → Int) (s : MS) (I : List Itm) (wr : World)
    (hK : SpK K a0 a1 a2 len2 cap2 w G b c p W y cw cc co cr F N P kpti inv k) (hyk : y.kpti = kpti) (hA : Al w wr b c p W y cw cc co cr G F N P kpti inv ga ca gb cb R s I) (hIk : 3 * I.length ≤ k) (hk3 : k % 3 = 0) (g1 : k + 2 < len2) (g2 : k < 75) (hnew : I.length = 0 ∨ z2.getD k 0 % 12 = 0) :
    Code.wp Try.prog spBody (Exit.then K Q) ⟨(List.toArray ((.int .i64 a0) :: (.int .i64 a1) :: (.slice a2 len2 cap2) :: u3 :: u4 :: u5 :: u6 :: (.pointer (some ⟨G, 0, none⟩)) :: u8 :: (.pointer (some ⟨b, 0, none⟩)) :: (.pointer (some ⟨W, 0, none⟩)) :: u11 :: (.pointer (some ⟨F, 0, none⟩)) :: u13 :: (.pointer (some ⟨p, 0, none⟩)) :: (.slice ga I.length ca) :: (.slice gb I.length cb) :: (.int .i64 k) :: u18 :: u19 :: u20 :: u21 :: u22 :: u23 :: u24 :: u25 :: u26 :: u27 :: u28 :: u29 :: u30 :: u31 :: u32 :: u33 :: u34 :: u35 :: u36 :: u37 :: u38 :: u39 :: u40 :: u41 :: u42 :: u43 :: u44 :: u45 :: u46 :: u47 :: u48 :: u49 :: u50 :: u51 :: u52 :: u53 :: u54 :: u55 :: u56 :: u57 :: u58 :: u59 :: u60 :: u61 :: u62 :: u63 :: u64 :: u65 :: u66 :: u67 :: u68 :: u69 :: u70 :: u71 :: u72 :: u73 :: u74 :: u75 :: u76 :: u77 :: u78 :: u79 :: u80 :: u81 :: u82 :: u83 :: u84 :: u85 :: u86 :: u87 :: u88 :: u89 :: u90 :: u91 :: u92 :: u93 :: u94 :: u95 :: u96 :: u97 :: u98 :: u99 :: u100 :: u101 :: u102 :: u103 :: u104 :: u105 :: u106 :: u107 :: u108 :: u109 :: u110 :: u111 :: u112 :: u113 :: u114 :: u115 :: u116 :: u117 :: u118 :: u119 :: u120 :: u121 :: u122 :: u123 :: u124 :: u125 :: u126 :: u127 :: u128 :: u129 :: u130 :: u131 :: u132 :: u133 :: u134 :: u135 :: u136 :: u137 :: u138 :: u139 :: u140 :: u141 :: u142 :: u143 :: u144 :: u145 :: u146 :: u147 :: u148 :: u149 :: u150 :: u151 :: u152 :: u153 :: u154 :: u155 :: u156 :: u157 :: u158 :: u159 :: u160 :: u161 :: u162 :: u163 :: u164 :: u165 :: u166 :: u167 :: u168 :: u169 :: u170 :: u171 :: u172 :: u173 :: u174 :: u175 :: u176 :: u177 :: u178 :: u179 :: u180 :: u181 :: u182 :: u183 :: u184 :: u185 :: u186 :: u187 :: u188 :: u189 :: u190 :: u191 :: u192 :: u193 :: u194 :: u195 :: u196 :: u197 :: u198 :: u199 :: u200 :: u201 :: u202 :: u203 :: u204 :: u205 :: u206 :: u207 :: u208 :: u209 :: u210 :: u211 :: u212 :: u213 :: u214 :: u215 :: u216 :: u217 :: u218 :: u219 :: u220 :: u221 :: u222 :: u223 :: u224 :: u225 :: u226 :: u227 :: u228 :: u229 :: u230 :: u231 :: u232 :: u233 :: u234 :: u235 :: u236 :: u237 :: u238 :: u239 :: u240 :: u241 :: u242 :: u243 :: u244 :: u245 :: u246 :: u247 :: u248 :: u249 :: u250 :: u251 :: u252 :: u253 :: u254 :: u255 :: u256 :: u257 :: u258 :: u259 :: u260 :: u261 :: u262 :: u263 :: u264 :: u265 :: u266 :: u267 :: u268 :: u269 :: u270 :: u271 :: u272 :: u273 :: u274 :: u275 :: u276 :: u277 :: u278 :: u279 :: u280 :: u281 :: u282 :: u283 :: u284 :: u285 :: u286 :: u287 :: u288 :: u289 :: u290 :: u291 :: u292 :: u293 :: u294 :: u295 :: u296 :: u297 :: u298 :: u299 :: u300 :: u301 :: u302 :: u303 :: u304 :: u305 :: u306 :: u307 :: u308 :: u309 :: u310 :: u311 :: u312 :: u313 :: u314 :: u315 :: u316 :: u317 :: u318 :: u319 :: u320 :: u321 :: u322 :: u323 :: u324 :: u325 :: u326 :: u327 :: u328 :: u329 :: u330 :: u331 :: u332 :: u333 :: u334 :: u335 :: u336 :: u337 :: u338 :: u339 :: u340 :: u341 :: u342 :: u343 :: u344 :: u345 :: u346 :: u347 :: u348 :: u349 :: u350 :: u351 :: u352 :: u353 :: u354 :: u355 :: u356 :: u357 :: u358 :: u359 :: u360 :: u361 :: u362 :: u363 :: u364 :: u365 :: u366 :: u367 :: u368 :: u369 :: u370 :: u371 :: u372 :: u373 :: u374 :: u375 :: u376 :: u377 :: u378 :: [])), []⟩ wr := by
  replace hK : Hid _ := hK
  conv => arg 2; whnf
  obtain ⟨_, p2⟩ := p2
  rcases p2 with p2 | ⟨b0, o0, rfl, hb0, hc0⟩
  · omega
  have c0 := Plain.cell hc0 hb0 (hA.rl.t.below (Nat.le_refl _) (fun _ e => e.elim)) k (by omega)
  generalize z2.getD k 0 = y0 at c0 hnew
  have k1 : (k : Int) + 2 < len2 := by omega
  have k2 : (k : Int) < 75 := by omega
  have k5 : (k : Int) < len2 := by omega
  refine wp_seq_k (fun K1 h1 => ?_)
  replace h1 : Hid _ := h1
  go_wp2_with fail
  refine h1.out _ _ ?_
  refine wp_seq_k (fun K2 h2 => ?_)
  replace h2 : Hid _ := h2
  go_wp2_with fail
  with_reducible refine (within_any y0 12 wr (by decide) (by decide)).mono ?_
  rintro e wq ⟨rfl, rfl⟩
  generalize y0 % 12 = v at *
  have hcs : (((I.length : Int) == 0) = true) ∨ ((((I.length : Int) == 0) = false) ∧ v = 0) := by
    by_cases e : I.length = 0
    · exact Or.inl (by simp [e])
    · exact Or.inr ⟨by simp; intro q; exact e (by simp [q]), hnew.resolve_left e⟩
  obtain ⟨f0, f1, f2, f3⟩ : wr.cell? ⟨G, 0, none⟩ = some (.int .i64 N) ∧ wr.cell? ⟨G, 1, none⟩ = some (.int .i64 P) ∧ wr.cell? ⟨G, 2, none⟩ = some (.bool kpti) ∧ wr.cell? ⟨G, 3, none⟩ = some (.bool inv) := CfR.cells hA.ex.cf
  have e0 : wr.cell? ⟨F, 0, none⟩ = some (.int .i64 3) := World.rowIs.cell hA.ex.fx (i := 0) (by omega)
  have e1 : wr.cell? ⟨F, 1, none⟩ = some (.int .i64 13) := World.rowIs.cell hA.ex.fx (i := 1) (by omega)
  have hbnd : (I.length : Int) ≤ 25 := by omega
  by_cases hroom : (if kpti = true then 2 else 1) ≤ s.left
  · have hN := new_yes hA.rl.ph.po hA.rl.ph.me N P kpti inv (I.length : Int) hroom
    unfold cfV at hN
    have hroom' : (if y.kpti = true then 2 else 1) ≤ s.left := by rw [hyk]; exact hroom
    rcases hcs with q1 | ⟨q1, rfl⟩
    all_goals
      go_wp2_with fail
      with_reducible refine hN.mono ?_
      rintro e w4 ⟨q, rfl, hq, yp, t4⟩
      have r4 := hA.rl.afterP t4 (fun z hz => by
        rcases hz with e | e
        · exact Or.inr (Or.inr (Or.inl e))
        · exact Or.inr (Or.inl e))
      go_wp2_with fail
      with_reducible refine (rnew_yes r4.wo r4.rm (I.length : Int) hroom').mono ?_
      rintro e w5 ⟨o, x, a, cap, l, rfl, ho, hxW, ds, ha, t5⟩
      rw [hyk] at ds
      obtain ⟨rl5, ex5⟩ := hA.new hroom hq yp t4 ho ds ha t5
      clear hN r4 yp t4 t5 ds c0 f0 f1 f2 f3 e0 e1
      have tA := (Touch.refl Nil w5).alloc (.cells #[.pointer (some ⟨q, 0, none⟩)] 47)
      have hcA : (w5.alloc (.cells #[.pointer (some ⟨q, 0, none⟩)] 47)).cell? ⟨w5.heap.size, 0, none⟩ = some (pv q) := by
        unfold World.cell?; rw [heap_alloc_new]; rfl
      obtain ⟨g', ca', w6, hr6, rl6, ex6⟩ := EX.appA (rl5.nil tA) (ex5.far tA (fun _ _ => id)) (by simp; omega) q w5.heap.size hcA
      have tB := (Touch.refl Nil w6).alloc (.cells #[.pointer (some ⟨o, 0, none⟩)] 50)
      have hcB : (w6.alloc (.cells #[.pointer (some ⟨o, 0, none⟩)] 50)).cell? ⟨w6.heap.size, 0, none⟩ = some (pv o) := by
        unfold World.cell?; rw [heap_alloc_new]; rfl
      obtain ⟨gb', cb', w7, hr7, rl7, ex7⟩ := EX.appB (rl6.nil tB) (ex6.far tB (fun _ _ => id)) (by simp; omega) o w6.heap.size hcB
      rw [List.length_map] at hr6 hr7
      have hFin : Al w w7 b c p W y cw cc co cr G F N P kpti inv (some ⟨g', 0, none⟩) ca' (some ⟨gb', 0, none⟩) cb' _ _ (I ++ [⟨q, o, x, a, cap, l, (YS.new (I.length : Int) kpti R s).S⟩]) := ⟨rl7, by rw [List.map_append, List.map_append]; exact ex7⟩
      clear rl5 ex5 tA hcA rl6 ex6 tB hcB rl7 ex7 hA
      go_wp2_with (first
        | (refine Lib.wpList_append_run_sl _ rfl _ _ 45 rfl _ _ rfl rfl hr6 ?_)
        | (refine Lib.wpList_append_run_sl _ rfl _ _ 46 rfl _ _ rfl rfl hr7 ?_))
      refine h2.out _ _ ?_
      go_wp2_with fail
      exact hK.out _ _ _ _ _ _ _ _ _ _ _ _ _ _ _ _ _ _ _ _ _ _ _ _ _ _ _ _ _ _ _ _ _ _ _ _ _ _ _ _ _ _ _ _ _ _ _ _ _ _ _ _ _ _ _ _ _ _ _ _ _ _ _ _ _ _ _ _ _ _ _ _ _ _ _ _ _ _ _ _ _ _ _ _ _ _ _ _ _ _ _ _ _ _ _ _ _ _ _ _ _ _ _ _ _ _ _ _ _ _ _ _ _ _ _ _ _ _ _ _ _ _ _ _ _ _ _ _ _ _ _ _ _ _ _ _ _ _ _ _ _ _ _ _ _ _ _ _ _ _ _ _ _ _ _ _ _ _ _ _ _ _ _ _ _ _ _ _ _ _ _ _ _ _ _ _ _ _ _ _ _ _ _ _ _ _ _ _ _ _ _ _ _ _ _ _ _ _ _ _ _ _ _ _ _ _ _ _ _ _ _ _ _ _ _ _ _ _ _ _ _ _ _ _ _ _ _ _ _ _ _ _ _ _ _ _ _ _ _ _ _ _ _ _ _ _ _ _ _ _ _ _ _ _ _ _ _ _ _ _ _ _ _ _ _ _ _ _ _ _ _ _ _ _ _ _ _ _ _ _ _ _ _ _ _ _ _ _ _ _ _ _ _ _ _ _ _ _ _ _ _ _ _ _ _ _ _ _ _ _ _ _ _ _ _ _ _ _ _ _ _ _ _ _ _ _ _ _ _ _ _ _ _ _ _ _ _ _ _ _ _ _ _ _ _ _ _ _ _ _ _ _ _ _ _ _ _ _ _ _ _ _ _ _ _ _ _ _ _ _ _ _ _ _ _ _ _ (by simp) hFin (by simp; omega)
  · have hN := new_no hA.rl.ph.po hA.rl.ph.me N P kpti inv (I.length : Int) #[.int .i64 3, .int .i64 13] rfl (by omega)
    unfold cfV at hN
    have hroom' : ¬ (if y.kpti = true then 2 else 1) ≤ s.left := by rw [hyk]; exact hroom
    rcases hcs with q1 | ⟨q1, rfl⟩
    all_goals
      go_wp2_with fail
      with_reducible refine hN.mono ?_
      rintro e w4 ⟨rfl, t4⟩
      have hA4 := hA.nil t4
      go_wp2_with fail
      with_reducible refine (rnew_no hA4.rl.rh.wo hA4.rl.rh.rm (I.length : Int) hroom').mono ?_
      rintro e w5 ⟨rfl, t5⟩
      have hFin := hA4.nil t5
      clear hN hA4 t4 t5 c0 f0 f1 f2 f3 e0 e1 hA
      go_wp2_with fail
      refine h2.out _ _ ?_
      go_wp2_with fail
      exact hK.out _ _ _ _ _ _ _ _ _ _ _ _ _ _ _ _ _ _ _ _ _ _ _ _ _ _ _ _ _ _ _ _ _ _ _ _ _ _ _ _ _ _ _ _ _ _ _ _ _ _ _ _ _ _ _ _ _ _ _ _ _ _ _ _ _ _ _ _ _ _ _ _ _ _ _ _ _ _ _ _ _ _ _ _ _ _ _ _ _ _ _ _ _ _ _ _ _ _ _ _ _ _ _ _ _ _ _ _ _ _ _ _ _ _ _ _ _ _ _ _ _ _ _ _ _ _ _ _ _ _ _ _ _ _ _ _ _ _ _ _ _ _ _ _ _ _ _ _ _ _ _ _ _ _ _ _ _ _ _ _ _ _ _ _ _ _ _ _ _ _ _ _ _ _ _ _ _ _ _ _ _ _ _ _ _ _ _ _ _ _ _ _ _ _ _ _ _ _ _ _ _ _ _ _ _ _ _ _ _ _ _ _ _ _ _ _ _ _ _ _ _ _ _ _ _ _ _ _ _ _ _ _ _ _ _ _ _ _ _ _ _ _ _ _ _ _ _ _ _ _ _ _ _ _ _ _ _ _ _ _ _ _ _ _ _ _ _ _ _ _ _ _ _ _ _ _ _ _ _ _ _ _ _ _ _ _ _ _ _ _ _ _ _ _ _ _ _ _ _ _ _ _ _ _ _ _ _ _ _ _ _ _ _ _ _ _ _ _ _ _ _ _ _ _ _ _ _ _ _ _ _ _ _ _ _ _ _ _ _ _ _ _ _ _ _ _ _ _ _ _ _ _ _ _ _ _ _ _ _ _ _ _ _ _ _ _ _ _ _ _ _ _ _ _ _ _ _ rfl hFin (by omega)
end Go.Proofs.Ytoododpeoffieaa
/-
  The walk of SpacePlays: a round that sets a page, once its space and its page are told.
-/
namespace Go.Proofs.Ytoododpeoffieaa
open Go.ChangeShapes Go.WideShapes Go.ChangeAt Go.RowKit

theorem getP_way {Y : YS} (h : YInv Y) (page : Int) : (if (0 ≤ page ∧ page < 256) ∧ Y.S.up (page / 64).toNat ≠ 0 ∧ Y.S.la (pk page) ≠ 0 then Y.s.rd (Y.S.la (pk page) * 8 + page % 8) else 0) = getP Y.S Y.s page := by
  have hk : Y.S.kern ≠ 0 := by have : 15 ≤ Y.S.kern := h.kern.1; omega
  unfold getP
  by_cases hp : 0 ≤ page ∧ page < 256
  · have hP : Y.S.hasP page = true := (hasP_iff _ _).2 ⟨hk, hp.1, hp.2⟩
    obtain ⟨n1, n2⟩ := h.need0 page
    by_cases hl : Y.S.la (pk page) = 0
    · rw [if_neg (fun q => q.2.2 hl), if_neg (fun q => n2 hP hl q.2)]
    · have hu : Y.S.up (page / 64).toNat ≠ 0 := by rw [← pk_div]; exact h.laUp _ hl
      rw [if_pos ⟨hp, hu, hl⟩, if_pos ⟨hP, n1 hl⟩]; rfl
  · have hP : Y.S.hasP page = false := by rw [Bool.eq_false_iff, Ne, hasP_iff]; omega
    rw [if_neg (fun q => hp q.1), if_neg (fun q => by rw [hP] at q; cases q.1)]
noncomputable def spC45 : Code := cR (cR (cR (cR (cB (cL (cR spBody))))))
noncomputable def spC48 : Code := cR (cR spC45)
/-- Need's six pages. -/
def sixP (page : Int) : List Int := [page, 0, 65, 130, page + 8, page]
set_option maxRecDepth 100000 in
set_option maxHeartbeats 16000000 in
theorem spSet2 {Q : Exit → Act → World → Prop} (a0 a1 : Int) (a2 : Option Addr) (len2 cap2 : Nat) (w : World)
    (u3 u4 u5 u6 u8 u11 u13 u18 u19 u20 u21 u22 u25 u26 u27 u28 u29 u30 u31 u32 u33 u34 u35 u36 u37 u38 u39 u40 u41 u42 u43 u44 u45 u46 u47 u48 u49 u50 u51 u52 u53 u54 u55 u56 u57 u58 u59 u60 u61 u62 u63 u64 u65 u66 u67 u68 u69 u70 u71 u72 u73 u74 u75 u76 u77 u78 u79 u80 u81 u82 u83 u84 u85 u86 u87 u88 u89 u90 u91 u92 u93 u94 u95 u96 u97 u98 u99 u100 u101 u102 u103 u104 u105 u106 u107 u108 u109 u110 u111 u112 u113 u114 u115 u116 u117 u118 u119 u120 u121 u122 u123 u124 u125 u126 u127 u128 u129 u130 u131 u132 u133 u134 u135 u136 u137 u138 u139 u140 u141 u142 u143 u144 u145 u146 u147 u148 u149 u150 u151 u152 u153 u154 u155 u156 u157 u158 u159 u160 u161 u162 u163 u164 u165 u166 u167 u168 u169 u170 u171 u172 u173 u174 u175 u176 u177 u178 u179 u180 u181 u182 u183 u184 u185 u186 u187 u188 u189 u190 u191 u192 u193 u194 u195 u196 u197 u198 u199 u200 u201 u202 u203 u204 u205 u206 u207 u208 u209 u210 u211 u212 u213 u214 u215 u216 u217 u218 u219 u220 u221 u222 u223 u224 u225 u226 u227 u228 u229 u230 u231 u232 u233 u234 u235 u236 u237 u238 u239 u240 u241 u242 u243 u244 u245 u246 u247 u248 u249 u250 u251 u252 u253 u254 u255 u256 u257 u258 u259 u260 u261 u262 u263 u264 u265 u266 u267 u268 u269 u270 u271 u272 u273 u274 u275 u276 u277 u278 u279 u280 u281 u282 u283 u284 u285 u286 u287 u288 u289 u290 u291 u292 u293 u294 u295 u296 u297 u298 u299 u300 u301 u302 u303 u304 u305 u306 u307 u308 u309 u310 u311 u312 u313 u314 u315 u316 u317 u318 u319 u320 u321 u322 u323 u324 u325 u326 u327 u328 u329 u330 u331 u332 u333 u334 u335 u336 u337 u338 u339 u340 u341 u342 u343 u344 u345 u346 u347 u348 u349 u350 u351 u352 u353 u354 u355 u356 u357 u358 u359 u360 u361 u362 u363 u364 u365 u366 u367 u368 u369 u370 u371 u372 u373 u374 u375 u376 u377 u378 : Value) (G b c p W : Nat) (y : RW) (cw cc co cr F : Nat) (N P : Int) (kpti inv : Bool) (k kk n : Nat) (page : Int) (gA gB : Nat) (ca cb : Nat) (R : Nat → Int) (s : MS) (I : List Itm) (i : Itm) (wr : World)
    (h48 : ∀ (u3 u4 u5 u6 u8 u11 u13 u18 u19 u20 u21 u22 u25 u26 u27 u28 u29 u30 u31 u32 u33 u34 u35 u36 u37 u38 u39 u40 u41 u42 u43 u44 u45 u46 u47 u48 u49 u50 u51 u52 u53 u54 u55 u56 u57 u58 u59 u60 u61 u62 u63 u64 u65 u66 u67 u68 u69 u70 u71 u72 u73 u74 u75 u76 u77 u78 u79 u80 u81 u82 u83 u84 u85 u86 u87 u88 u89 u90 u91 u92 u93 u94 u95 u96 u97 u98 u99 u100 u101 u102 u103 u104 u105 u106 u107 u108 u109 u110 u111 u112 u113 u114 u115 u116 u117 u118 u119 u120 u121 u122 u123 u124 u125 u126 u127 u128 u129 u130 u131 u132 u133 u134 u135 u136 u137 u138 u139 u140 u141 u142 u143 u144 u145 u146 u147 u148 u149 u150 u151 u152 u153 u154 u155 u156 u157 u158 u159 u160 u161 u162 u163 u164 u165 u166 u167 u168 u169 u170 u171 u172 u173 u174 u175 u176 u177 u178 u179 u180 u181 u182 u183 u184 u185 u186 u187 u188 u189 u190 u191 u192 u193 u194 u195 u196 u197 u198 u199 u200 u201 u202 u203 u204 u205 u206 u207 u208 u209 u210 u211 u212 u213 u214 u215 u216 u217 u218 u219 u220 u221 u222 u223 u224 u225 u226 u227 u228 u229 u230 u231 u232 u233 u234 u235 u236 u237 u238 u239 u240 u241 u242 u243 u244 u245 u246 u247 u248 u249 u250 u251 u252 u253 u254 u255 u256 u257 u258 u259 u260 u261 u262 u263 u264 u265 u266 u267 u268 u269 u270 u271 u272 u273 u274 u275 u276 u277 u278 u279 u280 u281 u282 u283 u284 u285 u286 u287 u288 u289 u290 u291 u292 u293 u294 u295 u296 u297 u298 u299 u300 u301 u302 u303 u304 u305 u306 u307 u308 u309 u310 u311 u312 u313 u314 u315 u316 u317 u318 u319 u320 u321 u322 u323 u324 u325 u326 u327 u328 u329 u330 u331 u332 u333 u334 u335 u336 u337 u338 u339 u340 u341 u342 u343 u344 u345 u346 u347 u348 u349 u350 u351 u352 u353 u354 u355 u356 u357 u358 u359 u360 u361 u362 u363 u364 u365 u366 u367 u368 u369 u370 u371 u372 u373 u374 u375 u376 u377 u378 : Value) (wx : World), Al w wx b c p W y cw cc co cr G F N P kpti inv (some ⟨gA, 0, none⟩) ca (some ⟨gB, 0, none⟩) cb R s I → Code.wp Try.prog spC48 Q ⟨(List.toArray ((.int .i64 a0) :: (.int .i64 a1) :: (.slice a2 len2 cap2) :: u3 :: u4 :: u5 :: u6 :: (.pointer (some ⟨G, 0, none⟩)) :: u8 :: (.pointer (some ⟨b, 0, none⟩)) :: (.pointer (some ⟨W, 0, none⟩)) :: u11 :: (.pointer (some ⟨F, 0, none⟩)) :: u13 :: (.pointer (some ⟨p, 0, none⟩)) :: (.slice (some ⟨gA, 0, none⟩) n ca) :: (.slice (some ⟨gB, 0, none⟩) n cb) :: (.int .i64 k) :: u18 :: u19 :: u20 :: u21 :: u22 :: (.int .i64 kk) :: (.int .i64 page) :: u25 :: u26 :: u27 :: u28 :: u29 :: u30 :: u31 :: u32 :: u33 :: u34 :: u35 :: u36 :: u37 :: u38 :: u39 :: u40 :: u41 :: u42 :: u43 :: u44 :: u45 :: u46 :: u47 :: u48 :: u49 :: u50 :: u51 :: u52 :: u53 :: u54 :: u55 :: u56 :: u57 :: u58 :: u59 :: u60 :: u61 :: u62 :: u63 :: u64 :: u65 :: u66 :: u67 :: u68 :: u69 :: u70 :: u71 :: u72 :: u73 :: u74 :: u75 :: u76 :: u77 :: u78 :: u79 :: u80 :: u81 :: u82 :: u83 :: u84 :: u85 :: u86 :: u87 :: u88 :: u89 :: u90 :: u91 :: u92 :: u93 :: u94 :: u95 :: u96 :: u97 :: u98 :: u99 :: u100 :: u101 :: u102 :: u103 :: u104 :: u105 :: u106 :: u107 :: u108 :: u109 :: u110 :: u111 :: u112 :: u113 :: u114 :: u115 :: u116 :: u117 :: u118 :: u119 :: u120 :: u121 :: u122 :: u123 :: u124 :: u125 :: u126 :: u127 :: u128 :: u129 :: u130 :: u131 :: u132 :: u133 :: u134 :: u135 :: u136 :: u137 :: u138 :: u139 :: u140 :: u141 :: u142 :: u143 :: u144 :: u145 :: u146 :: u147 :: u148 :: u149 :: u150 :: u151 :: u152 :: u153 :: u154 :: u155 :: u156 :: u157 :: u158 :: u159 :: u160 :: u161 :: u162 :: u163 :: u164 :: u165 :: u166 :: u167 :: u168 :: u169 :: u170 :: u171 :: u172 :: u173 :: u174 :: u175 :: u176 :: u177 :: u178 :: u179 :: u180 :: u181 :: u182 :: u183 :: u184 :: u185 :: u186 :: u187 :: u188 :: u189 :: u190 :: u191 :: u192 :: u193 :: u194 :: u195 :: u196 :: u197 :: u198 :: u199 :: u200 :: u201 :: u202 :: u203 :: u204 :: u205 :: u206 :: u207 :: u208 :: u209 :: u210 :: u211 :: u212 :: u213 :: u214 :: u215 :: u216 :: u217 :: u218 :: u219 :: u220 :: u221 :: u222 :: u223 :: u224 :: u225 :: u226 :: u227 :: u228 :: u229 :: u230 :: u231 :: u232 :: u233 :: u234 :: u235 :: u236 :: u237 :: u238 :: u239 :: u240 :: u241 :: u242 :: u243 :: u244 :: u245 :: u246 :: u247 :: u248 :: u249 :: u250 :: u251 :: u252 :: u253 :: u254 :: u255 :: u256 :: u257 :: u258 :: u259 :: u260 :: u261 :: u262 :: u263 :: u264 :: u265 :: u266 :: u267 :: u268 :: u269 :: u270 :: u271 :: u272 :: u273 :: u274 :: u275 :: u276 :: u277 :: u278 :: u279 :: u280 :: u281 :: u282 :: u283 :: u284 :: u285 :: u286 :: u287 :: u288 :: u289 :: u290 :: u291 :: u292 :: u293 :: u294 :: u295 :: u296 :: u297 :: u298 :: u299 :: u300 :: u301 :: u302 :: u303 :: u304 :: u305 :: u306 :: u307 :: u308 :: u309 :: u310 :: u311 :: u312 :: u313 :: u314 :: u315 :: u316 :: u317 :: u318 :: u319 :: u320 :: u321 :: u322 :: u323 :: u324 :: u325 :: u326 :: u327 :: u328 :: u329 :: u330 :: u331 :: u332 :: u333 :: u334 :: u335 :: u336 :: u337 :: u338 :: u339 :: u340 :: u341 :: u342 :: u343 :: u344 :: u345 :: u346 :: u347 :: u348 :: u349 :: u350 :: u351 :: u352 :: u353 :: u354 :: u355 :: u356 :: u357 :: u358 :: u359 :: u360 :: u361 :: u362 :: u363 :: u364 :: u365 :: u366 :: u367 :: u368 :: u369 :: u370 :: u371 :: u372 :: u373 :: u374 :: u375 :: u376 :: u377 :: u378 :: [])), []⟩ wx)
    (hn : I.length = n) (hkk : I[kk]? = some i) (hpg : -1000000000000000000 ≤ page ∧ page ≤ 1000000000000000000) (hA : Al w wr b c p W y cw cc co cr G F N P kpti inv (some ⟨gA, 0, none⟩) ca (some ⟨gB, 0, none⟩) cb R s I) :
    Code.wp Try.prog spC45 Q ⟨(List.toArray ((.int .i64 a0) :: (.int .i64 a1) :: (.slice a2 len2 cap2) :: u3 :: u4 :: u5 :: u6 :: (.pointer (some ⟨G, 0, none⟩)) :: u8 :: (.pointer (some ⟨b, 0, none⟩)) :: (.pointer (some ⟨W, 0, none⟩)) :: u11 :: (.pointer (some ⟨F, 0, none⟩)) :: u13 :: (.pointer (some ⟨p, 0, none⟩)) :: (.slice (some ⟨gA, 0, none⟩) n ca) :: (.slice (some ⟨gB, 0, none⟩) n cb) :: (.int .i64 k) :: u18 :: u19 :: u20 :: u21 :: u22 :: (.int .i64 kk) :: (.int .i64 page) :: u25 :: u26 :: u27 :: u28 :: u29 :: u30 :: u31 :: u32 :: u33 :: u34 :: u35 :: u36 :: u37 :: u38 :: u39 :: u40 :: u41 :: u42 :: u43 :: u44 :: u45 :: u46 :: u47 :: u48 :: u49 :: u50 :: u51 :: u52 :: u53 :: u54 :: u55 :: u56 :: u57 :: u58 :: u59 :: u60 :: u61 :: u62 :: u63 :: u64 :: u65 :: u66 :: u67 :: u68 :: u69 :: u70 :: u71 :: u72 :: u73 :: u74 :: u75 :: u76 :: u77 :: u78 :: u79 :: u80 :: u81 :: u82 :: u83 :: u84 :: u85 :: u86 :: u87 :: u88 :: u89 :: u90 :: u91 :: u92 :: u93 :: u94 :: u95 :: u96 :: u97 :: u98 :: u99 :: u100 :: u101 :: u102 :: u103 :: u104 :: u105 :: u106 :: u107 :: u108 :: u109 :: u110 :: u111 :: u112 :: u113 :: u114 :: u115 :: u116 :: u117 :: u118 :: u119 :: u120 :: u121 :: u122 :: u123 :: u124 :: u125 :: u126 :: u127 :: u128 :: u129 :: u130 :: u131 :: u132 :: u133 :: u134 :: u135 :: u136 :: u137 :: u138 :: u139 :: u140 :: u141 :: u142 :: u143 :: u144 :: u145 :: u146 :: u147 :: u148 :: u149 :: u150 :: u151 :: u152 :: u153 :: u154 :: u155 :: u156 :: u157 :: u158 :: u159 :: u160 :: u161 :: u162 :: u163 :: u164 :: u165 :: u166 :: u167 :: u168 :: u169 :: u170 :: u171 :: u172 :: u173 :: u174 :: u175 :: u176 :: u177 :: u178 :: u179 :: u180 :: u181 :: u182 :: u183 :: u184 :: u185 :: u186 :: u187 :: u188 :: u189 :: u190 :: u191 :: u192 :: u193 :: u194 :: u195 :: u196 :: u197 :: u198 :: u199 :: u200 :: u201 :: u202 :: u203 :: u204 :: u205 :: u206 :: u207 :: u208 :: u209 :: u210 :: u211 :: u212 :: u213 :: u214 :: u215 :: u216 :: u217 :: u218 :: u219 :: u220 :: u221 :: u222 :: u223 :: u224 :: u225 :: u226 :: u227 :: u228 :: u229 :: u230 :: u231 :: u232 :: u233 :: u234 :: u235 :: u236 :: u237 :: u238 :: u239 :: u240 :: u241 :: u242 :: u243 :: u244 :: u245 :: u246 :: u247 :: u248 :: u249 :: u250 :: u251 :: u252 :: u253 :: u254 :: u255 :: u256 :: u257 :: u258 :: u259 :: u260 :: u261 :: u262 :: u263 :: u264 :: u265 :: u266 :: u267 :: u268 :: u269 :: u270 :: u271 :: u272 :: u273 :: u274 :: u275 :: u276 :: u277 :: u278 :: u279 :: u280 :: u281 :: u282 :: u283 :: u284 :: u285 :: u286 :: u287 :: u288 :: u289 :: u290 :: u291 :: u292 :: u293 :: u294 :: u295 :: u296 :: u297 :: u298 :: u299 :: u300 :: u301 :: u302 :: u303 :: u304 :: u305 :: u306 :: u307 :: u308 :: u309 :: u310 :: u311 :: u312 :: u313 :: u314 :: u315 :: u316 :: u317 :: u318 :: u319 :: u320 :: u321 :: u322 :: u323 :: u324 :: u325 :: u326 :: u327 :: u328 :: u329 :: u330 :: u331 :: u332 :: u333 :: u334 :: u335 :: u336 :: u337 :: u338 :: u339 :: u340 :: u341 :: u342 :: u343 :: u344 :: u345 :: u346 :: u347 :: u348 :: u349 :: u350 :: u351 :: u352 :: u353 :: u354 :: u355 :: u356 :: u357 :: u358 :: u359 :: u360 :: u361 :: u362 :: u363 :: u364 :: u365 :: u366 :: u367 :: u368 :: u369 :: u370 :: u371 :: u372 :: u373 :: u374 :: u375 :: u376 :: u377 :: u378 :: [])), []⟩ wr := by
  replace h48 : Hid _ := h48
  conv => arg 2; whnf
  have hi := List.mem_of_getElem? hkk
  have hkn : kk < n := by rw [← hn]; exact (List.getElem?_eq_some_iff.1 hkk).1
  have k6 : (kk : Int) < n := by omega
  have pw : IntKind.i64.wrap (page + 8) = page + 8 := by rw [IntKind.wrap_i64]; omega
  have hb := heap_alloc_new wr (.cells #[.int .i64 page, .int .i64 0, .int .i64 65, .int .i64 130, .int .i64 (page + 8), .int .i64 page] 3)
  have tL := (Touch.refl Nil wr).alloc (.cells #[.int .i64 page, .int .i64 0, .int .i64 65, .int .i64 130, .int .i64 (page + 8), .int .i64 page] 3)
  have lL : wr.heap.size < (wr.alloc (.cells #[.int .i64 page, .int .i64 0, .int .i64 65, .int .i64 130, .int .i64 (page + 8), .int .i64 page] 3)).heap.size := by simp
  refine wp_seq_k (fun K1 h1 => ?_)
  replace h1 : Hid _ := h1
  go_wp2_with fail
  have hA1 := hA.nil tL
  clear hA tL
  generalize wr.alloc (.cells #[.int .i64 page, .int .i64 0, .int .i64 65, .int .i64 130, .int .i64 (page + 8), .int .i64 page] 3) = w1 at *
  generalize wr.heap.size = B at *
  refine h1.out _ _ ?_
  refine wp_seq_k (fun K2 h2 => ?_)
  replace h2 : Hid _ := h2
  obtain ⟨sy, ds, yi, vi⟩ := hA1.rl.sys hi
  have kern0 : i.S.kern ≠ 0 := by have : 15 ≤ i.S.kern := yi.kern.1; omega
  have us0 : 0 ≤ i.S.user ∧ i.S.user < 64 := by have h1 : 15 ≤ i.S.user := yi.user.1; have h2 : i.S.user < s.n := yi.user.2.1; have h3 := hA1.rl.many.n; omega
  have us1 : 0 ≤ i.x.user ∧ i.x.user < 64 := by rw [ds.user]; exact us0
  have way : ∀ q : Int, 0 ≤ q → q < 256 → Way s i.x.user q (i.S.up (q / 64).toNat) (i.S.la (pk q)) := fun q q0 q1 => by rw [ds.user]; exact vi.way q0 q1
  have cel : ∀ wx, Touch Nil w1 wx → ∀ j, j < 6 → wx.cell? ⟨B, 0 + j, none⟩ = some (.int .i64 ((sixP page).getD j 0)) := fun wx t j hj => by
    have h := (t.block B lL id).trans hb
    unfold World.cell?
    rw [h]
    rcases (by omega : j = 0 ∨ j = 1 ∨ j = 2 ∨ j = 3 ∨ j = 4 ∨ j = 5) with rfl | rfl | rfl | rfl | rfl | rfl <;> rfl
  have hN1 := fun wx (t : Touch Nil w1 wx) => need_any ((hA1.nil t).rl.sys hi).1.sp (some ⟨B, 0, none⟩) 6 6 (sixP page) (by omega) (Or.inr ⟨B, 0, rfl, Nat.lt_of_lt_of_le lL t.size, cel wx t⟩) rfl
  have hN2 := fun wx (t : Touch Nil w1 wx) => rneed_any (S := i.S) ((hA1.nil t).rl.sys hi).2.1.sp ((hA1.nil t).rl.sys hi).2.1.wo ((hA1.nil t).rl.sys hi).2.1.rm.me kern0 us1 yi.ok yi.laUp way (some ⟨B, 0, none⟩) 6 6 (sixP page) (by omega) (Or.inr ⟨B, 0, rfl, Nat.lt_of_lt_of_le lL t.size, cel wx t⟩) rfl
  have CE : ∀ wx R s I, Al w wx b c p W y cw cc co cr G F N P kpti inv (some ⟨gA, 0, none⟩) ca (some ⟨gB, 0, none⟩) cb R s I → ∀ i', I[kk]? = some i' → wx.cell? ⟨gA, kk, none⟩ = some (.pointer (some ⟨i'.q, 0, none⟩)) ∧ wx.cell? ⟨gB, kk, none⟩ = some (.pointer (some ⟨i'.o, 0, none⟩)) := fun wx R s I h i' hi' => by
    have hlt : kk < I.length := (List.getElem?_eq_some_iff.1 hi').1
    obtain ⟨g', e', _, _, _, cA⟩ := h.ex.pa.cells.resolve_left (by intro q; have := congrArg List.length q; simp at this; rw [this] at hlt; simp at hlt)
    obtain ⟨g'', e'', _, _, _, cB⟩ := h.ex.pb.cells.resolve_left (by intro q; have := congrArg List.length q; simp at this; rw [this] at hlt; simp at hlt)
    cases e'; cases e''
    have a := cA kk (by simpa using hlt)
    have b := cB kk (by simpa using hlt)
    simp [List.getD_eq_getElem?_getD, hi'] at a b
    exact ⟨a, b⟩
  have CN := fun wx (t : Touch Nil w1 wx) => CE wx R s I (hA1.nil t) i hkk
  have tD := (Touch.refl Nil w1).drew
  have hd := CN _ tD
  obtain ⟨nd, hnd⟩ : ∃ nd : Int, Hid (((i.S.need (sixP page) : Nat) : Int) = nd) := ⟨_, rfl⟩
  rw [hnd.out] at hN1 hN2
  go_upto_region 46 with fail
  go_region_held3 (fun wx => wx.cell? ⟨gA, kk, none⟩ = some (.pointer (some ⟨i.q, 0, none⟩)) ∧ wx.cell? ⟨gB, kk, none⟩ = some (.pointer (some ⟨i.o, 0, none⟩)))
    (first | exact hd | exact CN _ (tD.trans t5) | exact CN _ ((tD.trans t5).trans t6))
    (first
      | (go_at_call 16; refine (hN1 _ tD).mono ?_; rintro e w5 ⟨hx, t5⟩; subst hx)
      | (go_at_call 17; refine (hN2 _ (tD.trans t5)).mono ?_; rintro e w6 ⟨hx, t6⟩; subst hx))
  all_goals
    have hA6 := hA1.nil ((tD.trans t5).trans t6)
    clear CN CE hN1 hN2 cel hd t5 t6 tD way us1 us0 kern0 yi vi ds sy hA1
    go_wp2_with fail
    refine h2.out _ _ ?_
    exact h48.out _ _ _ _ _ _ _ _ _ _ _ _ _ _ _ _ _ _ _ _ _ _ _ _ _ _ _ _ _ _ _ _ _ _ _ _ _ _ _ _ _ _ _ _ _ _ _ _ _ _ _ _ _ _ _ _ _ _ _ _ _ _ _ _ _ _ _ _ _ _ _ _ _ _ _ _ _ _ _ _ _ _ _ _ _ _ _ _ _ _ _ _ _ _ _ _ _ _ _ _ _ _ _ _ _ _ _ _ _ _ _ _ _ _ _ _ _ _ _ _ _ _ _ _ _ _ _ _ _ _ _ _ _ _ _ _ _ _ _ _ _ _ _ _ _ _ _ _ _ _ _ _ _ _ _ _ _ _ _ _ _ _ _ _ _ _ _ _ _ _ _ _ _ _ _ _ _ _ _ _ _ _ _ _ _ _ _ _ _ _ _ _ _ _ _ _ _ _ _ _ _ _ _ _ _ _ _ _ _ _ _ _ _ _ _ _ _ _ _ _ _ _ _ _ _ _ _ _ _ _ _ _ _ _ _ _ _ _ _ _ _ _ _ _ _ _ _ _ _ _ _ _ _ _ _ _ _ _ _ _ _ _ _ _ _ _ _ _ _ _ _ _ _ _ _ _ _ _ _ _ _ _ _ _ _ _ _ _ _ _ _ _ _ _ _ _ _ _ _ _ _ _ _ _ _ _ _ _ _ _ _ _ _ _ _ _ _ _ _ _ _ _ _ _ _ _ _ _ _ _ _ _ _ _ _ _ _ _ _ _ _ _ _ _ _ _ _ _ _ _ _ _ _ _ _ _ _ _ _ _ _ _ _ _ _ _ _ hA6
end Go.Proofs.Ytoododpeoffieaa
/-
  The walk of SpacePlays: a round that sets a page: Set, Get of both.
-/
namespace Go.Proofs.Ytoododpeoffieaa
open Go.ChangeShapes Go.WideShapes Go.ChangeAt Go.RowKit

section
variable {w0 w w4 : World} {b c p W : Nat} {y : RW} {cw cc co cr : Nat} {G F : Nat} {N P : Int} {kpti inv : Bool} {ga gb : Option Addr} {ca cb : Nat} {R : Nat → Int} {s : MS} {I : List Itm}
/-- A call that leaves one space's plain state as it was. -/
theorem Al.same (h : Al w0 w b c p W y cw cc co cr G F N P kpti inv ga ca gb cb R s I) {k : Nat} {i : Itm} (hk : I[k]? = some i) (yp : Sys w4 i.q p b c i.S R s) (t4 : Touch (fun z => z = i.q ∨ z = p ∨ z = c) w w4) :
    Al w0 w4 b c p W y cw cc co cr G F N P kpti inv ga ca gb cb R s I := by
  have hi := List.mem_of_getElem? hk
  have inP : ∀ z, (z = i.q ∨ z = p ∨ z = c) → PH.fp b c p I z := fun z hz => by
    rcases hz with e | e | e
    · exact Or.inr (Or.inr (Or.inr ⟨i, hi, e⟩))
    · exact Or.inr (Or.inr (Or.inl e))
    · exact Or.inr (Or.inl e)
  refine ⟨⟨⟨yp.me, yp.po, fun z hz => ?_⟩, h.rl.afterP t4 inP, h.rl.many, h.rl.qne, h.rl.ge, h.rl.t.transNew t4 (fun n hn e => ?_)⟩, h.ex.far t4 (fun z hz e => h.ex.noP h.rl.ph hz (inP z e))⟩
  · obtain ⟨j, hj⟩ := List.getElem?_of_mem hz
    by_cases e : j = k
    · subst e
      rw [hk] at hj
      cases hj; exact yp.sp
    · obtain ⟨q1, _, _⟩ := h.rl.qne j k z i hj hk e
      refine (h.rl.ph.sp z hz).touch t4 (fun e => ?_)
      rcases e with e | e | e
      · exact q1 e
      · have v := h.rl.ph.sp z hz
        rw [e] at v
        exact absurd ((Ty.of v.row).one (Ty.of h.rl.ph.po.row)) (by decide)
      · have v := h.rl.ph.sp z hz
        rw [e] at v
        exact absurd ((Ty.of v.row).one (Ty.has h.rl.ph.me.row)) (by decide)
  · obtain ⟨g1, g2, g3⟩ := h.rl.ge.2.2 i hi
    rcases e with e | e | e
    · omega
    · have := h.rl.ge.1.2.2.1; omega
    · have := h.rl.ge.1.2.1; omega
theorem Al.get (h : Al w0 w b c p W y cw cc co cr G F N P kpti inv ga ca gb cb R s I) {i : Itm} (hi : i ∈ I) (page : Int) :
    Calls Try.prog 20 #[.pointer (some ⟨i.q, 0, none⟩), .int .i64 page] w fun e w' => e = .returned (.int .u64 (getP i.S s page)) ∧ Touch Nil w w' := by
  obtain ⟨sy, ds, yi, vi⟩ := h.rl.sys hi
  exact get_any sy yi.ok page
theorem Al.rget (h : Al w0 w b c p W y cw cc co cr G F N P kpti inv ga ca gb cb R s I) {i : Itm} (hi : i ∈ I) (page : Int) :
    Calls Try.prog 21 #[.pointer (some ⟨i.o, 0, none⟩), .int .i64 page] w fun e w' => e = .returned (.int .u64 (getP i.S s page)) ∧ Touch Nil w w' := by
  obtain ⟨sy, ds, yi, vi⟩ := h.rl.sys hi
  have us0 : 0 ≤ i.S.user ∧ i.S.user < 64 := yi.ok.u
  have hg := rget_any ds.sp ds.wo ds.rm.me page (i.S.up (page / 64).toNat) (i.S.la (pk page)) (by rw [ds.user]; exact us0) (yi.ok.up _) (yi.ok.la _) (fun q0 q1 => by rw [ds.user]; exact vi.way q0 q1)
  rw [getP_way yi page] at hg
  exact hg
/-- The two lists' pointers. -/
theorem EX.ptrs {gA gB : Nat} (h : EX w0 w G F N P kpti inv (some ⟨gA, 0, none⟩) ca (some ⟨gB, 0, none⟩) cb (I.map Itm.q) (I.map Itm.o)) {k : Nat} {i : Itm} (hk : I[k]? = some i) :
    w.cell? ⟨gA, k, none⟩ = some (.pointer (some ⟨i.q, 0, none⟩)) ∧ w.cell? ⟨gB, k, none⟩ = some (.pointer (some ⟨i.o, 0, none⟩)) := by
  have hlt : k < I.length := (List.getElem?_eq_some_iff.1 hk).1
  obtain ⟨g', e', _, _, _, cA⟩ := h.pa.cells.resolve_left (by intro q; have := congrArg List.length q; simp at this; rw [this] at hlt; simp at hlt)
  obtain ⟨g'', e'', _, _, _, cB⟩ := h.pb.cells.resolve_left (by intro q; have := congrArg List.length q; simp at this; rw [this] at hlt; simp at hlt)
  cases e'; cases e''
  have a := cA k (by simpa using hlt)
  have b := cB k (by simpa using hlt)
  simp [List.getD_eq_getElem?_getD, hk] at a b
  exact ⟨a, b⟩
end
noncomputable def spC51 : Code := cR (cR spC48)
set_option maxRecDepth 100000 in
set_option maxHeartbeats 16000000 in
theorem spSet3 {Q : Exit → Act → World → Prop} (a0 a1 : Int) (a2 : Option Addr) (len2 cap2 : Nat) (z2 : List Int) (w : World) (p2 : Plain .i64 w a2 len2 z2)
    (u3 u4 u5 u6 u8 u11 u13 u18 u19 u20 u21 u22 u25 u26 u27 u28 u29 u30 u31 u32 u33 u34 u35 u36 u37 u38 u39 u40 u41 u42 u43 u44 u45 u46 u47 u48 u49 u50 u51 u52 u53 u54 u55 u56 u57 u58 u59 u60 u61 u62 u63 u64 u65 u66 u67 u68 u69 u70 u71 u72 u73 u74 u75 u76 u77 u78 u79 u80 u81 u82 u83 u84 u85 u86 u87 u88 u89 u90 u91 u92 u93 u94 u95 u96 u97 u98 u99 u100 u101 u102 u103 u104 u105 u106 u107 u108 u109 u110 u111 u112 u113 u114 u115 u116 u117 u118 u119 u120 u121 u122 u123 u124 u125 u126 u127 u128 u129 u130 u131 u132 u133 u134 u135 u136 u137 u138 u139 u140 u141 u142 u143 u144 u145 u146 u147 u148 u149 u150 u151 u152 u153 u154 u155 u156 u157 u158 u159 u160 u161 u162 u163 u164 u165 u166 u167 u168 u169 u170 u171 u172 u173 u174 u175 u176 u177 u178 u179 u180 u181 u182 u183 u184 u185 u186 u187 u188 u189 u190 u191 u192 u193 u194 u195 u196 u197 u198 u199 u200 u201 u202 u203 u204 u205 u206 u207 u208 u209 u210 u211 u212 u213 u214 u215 u216 u217 u218 u219 u220 u221 u222 u223 u224 u225 u226 u227 u228 u229 u230 u231 u232 u233 u234 u235 u236 u237 u238 u239 u240 u241 u242 u243 u244 u245 u246 u247 u248 u249 u250 u251 u252 u253 u254 u255 u256 u257 u258 u259 u260 u261 u262 u263 u264 u265 u266 u267 u268 u269 u270 u271 u272 u273 u274 u275 u276 u277 u278 u279 u280 u281 u282 u283 u284 u285 u286 u287 u288 u289 u290 u291 u292 u293 u294 u295 u296 u297 u298 u299 u300 u301 u302 u303 u304 u305 u306 u307 u308 u309 u310 u311 u312 u313 u314 u315 u316 u317 u318 u319 u320 u321 u322 u323 u324 u325 u326 u327 u328 u329 u330 u331 u332 u333 u334 u335 u336 u337 u338 u339 u340 u341 u342 u343 u344 u345 u346 u347 u348 u349 u350 u351 u352 u353 u354 u355 u356 u357 u358 u359 u360 u361 u362 u363 u364 u365 u366 u367 u368 u369 u370 u371 u372 u373 u374 u375 u376 u377 u378 : Value) (G b c p W : Nat) (y : RW) (cw cc co cr F : Nat) (N P : Int) (kpti inv : Bool) (k kk n : Nat) (page : Int) (gA gB : Nat) (ca cb : Nat) (R : Nat → Int) (s : MS) (I : List Itm) (i : Itm) (wr : World)
    (h51 : ∀ (u3 u4 u5 u6 u8 u11 u13 u18 u19 u20 u21 u22 u25 u27 u28 u29 u30 u31 u32 u33 u34 u35 u36 u37 u38 u39 u40 u41 u42 u43 u44 u45 u46 u47 u48 u49 u50 u51 u52 u53 u54 u55 u56 u57 u58 u59 u60 u61 u62 u63 u64 u65 u66 u67 u68 u69 u70 u71 u72 u73 u74 u75 u76 u77 u78 u79 u80 u81 u82 u83 u84 u85 u86 u87 u88 u89 u90 u91 u92 u93 u94 u95 u96 u97 u98 u99 u100 u101 u102 u103 u104 u105 u106 u107 u108 u109 u110 u111 u112 u113 u114 u115 u116 u117 u118 u119 u120 u121 u122 u123 u124 u125 u126 u127 u128 u129 u130 u131 u132 u133 u134 u135 u136 u137 u138 u139 u140 u141 u142 u143 u144 u145 u146 u147 u148 u149 u150 u151 u152 u153 u154 u155 u156 u157 u158 u159 u160 u161 u162 u163 u164 u165 u166 u167 u168 u169 u170 u171 u172 u173 u174 u175 u176 u177 u178 u179 u180 u181 u182 u183 u184 u185 u186 u187 u188 u189 u190 u191 u192 u193 u194 u195 u196 u197 u198 u199 u200 u201 u202 u203 u204 u205 u206 u207 u208 u209 u210 u211 u212 u213 u214 u215 u216 u217 u218 u219 u220 u221 u222 u223 u224 u225 u226 u227 u228 u229 u230 u231 u232 u233 u234 u235 u236 u237 u238 u239 u240 u241 u242 u243 u244 u245 u246 u247 u248 u249 u250 u251 u252 u253 u254 u255 u256 u257 u258 u259 u260 u261 u262 u263 u264 u265 u266 u267 u268 u269 u270 u271 u272 u273 u274 u275 u276 u277 u278 u279 u280 u281 u282 u283 u284 u285 u286 u287 u288 u289 u290 u291 u292 u293 u294 u295 u296 u297 u298 u299 u300 u301 u302 u303 u304 u305 u306 u307 u308 u309 u310 u311 u312 u313 u314 u315 u316 u317 u318 u319 u320 u321 u322 u323 u324 u325 u326 u327 u328 u329 u330 u331 u332 u333 u334 u335 u336 u337 u338 u339 u340 u341 u342 u343 u344 u345 u346 u347 u348 u349 u350 u351 u352 u353 u354 u355 u356 u357 u358 u359 u360 u361 u362 u363 u364 u365 u366 u367 u368 u369 u370 u371 u372 u373 u374 u375 u376 u377 u378 : Value) (x2 : Int) (R' : Nat → Int) (s' : MS) (I' : List Itm) (i' : Itm) (wx : World), I'.length = n → I'[kk]? = some i' → Al w wx b c p W y cw cc co cr G F N P kpti inv (some ⟨gA, 0, none⟩) ca (some ⟨gB, 0, none⟩) cb R' s' I' → Code.wp Try.prog spC51 Q ⟨(List.toArray ((.int .i64 a0) :: (.int .i64 a1) :: (.slice a2 len2 cap2) :: u3 :: u4 :: u5 :: u6 :: (.pointer (some ⟨G, 0, none⟩)) :: u8 :: (.pointer (some ⟨b, 0, none⟩)) :: (.pointer (some ⟨W, 0, none⟩)) :: u11 :: (.pointer (some ⟨F, 0, none⟩)) :: u13 :: (.pointer (some ⟨p, 0, none⟩)) :: (.slice (some ⟨gA, 0, none⟩) n ca) :: (.slice (some ⟨gB, 0, none⟩) n cb) :: (.int .i64 k) :: u18 :: u19 :: u20 :: u21 :: u22 :: (.int .i64 kk) :: (.int .i64 page) :: u25 :: (.int .u64 x2) :: u27 :: u28 :: u29 :: u30 :: u31 :: u32 :: u33 :: u34 :: u35 :: u36 :: u37 :: u38 :: u39 :: u40 :: u41 :: u42 :: u43 :: u44 :: u45 :: u46 :: u47 :: u48 :: u49 :: u50 :: u51 :: u52 :: u53 :: u54 :: u55 :: u56 :: u57 :: u58 :: u59 :: u60 :: u61 :: u62 :: u63 :: u64 :: u65 :: u66 :: u67 :: u68 :: u69 :: u70 :: u71 :: u72 :: u73 :: u74 :: u75 :: u76 :: u77 :: u78 :: u79 :: u80 :: u81 :: u82 :: u83 :: u84 :: u85 :: u86 :: u87 :: u88 :: u89 :: u90 :: u91 :: u92 :: u93 :: u94 :: u95 :: u96 :: u97 :: u98 :: u99 :: u100 :: u101 :: u102 :: u103 :: u104 :: u105 :: u106 :: u107 :: u108 :: u109 :: u110 :: u111 :: u112 :: u113 :: u114 :: u115 :: u116 :: u117 :: u118 :: u119 :: u120 :: u121 :: u122 :: u123 :: u124 :: u125 :: u126 :: u127 :: u128 :: u129 :: u130 :: u131 :: u132 :: u133 :: u134 :: u135 :: u136 :: u137 :: u138 :: u139 :: u140 :: u141 :: u142 :: u143 :: u144 :: u145 :: u146 :: u147 :: u148 :: u149 :: u150 :: u151 :: u152 :: u153 :: u154 :: u155 :: u156 :: u157 :: u158 :: u159 :: u160 :: u161 :: u162 :: u163 :: u164 :: u165 :: u166 :: u167 :: u168 :: u169 :: u170 :: u171 :: u172 :: u173 :: u174 :: u175 :: u176 :: u177 :: u178 :: u179 :: u180 :: u181 :: u182 :: u183 :: u184 :: u185 :: u186 :: u187 :: u188 :: u189 :: u190 :: u191 :: u192 :: u193 :: u194 :: u195 :: u196 :: u197 :: u198 :: u199 :: u200 :: u201 :: u202 :: u203 :: u204 :: u205 :: u206 :: u207 :: u208 :: u209 :: u210 :: u211 :: u212 :: u213 :: u214 :: u215 :: u216 :: u217 :: u218 :: u219 :: u220 :: u221 :: u222 :: u223 :: u224 :: u225 :: u226 :: u227 :: u228 :: u229 :: u230 :: u231 :: u232 :: u233 :: u234 :: u235 :: u236 :: u237 :: u238 :: u239 :: u240 :: u241 :: u242 :: u243 :: u244 :: u245 :: u246 :: u247 :: u248 :: u249 :: u250 :: u251 :: u252 :: u253 :: u254 :: u255 :: u256 :: u257 :: u258 :: u259 :: u260 :: u261 :: u262 :: u263 :: u264 :: u265 :: u266 :: u267 :: u268 :: u269 :: u270 :: u271 :: u272 :: u273 :: u274 :: u275 :: u276 :: u277 :: u278 :: u279 :: u280 :: u281 :: u282 :: u283 :: u284 :: u285 :: u286 :: u287 :: u288 :: u289 :: u290 :: u291 :: u292 :: u293 :: u294 :: u295 :: u296 :: u297 :: u298 :: u299 :: u300 :: u301 :: u302 :: u303 :: u304 :: u305 :: u306 :: u307 :: u308 :: u309 :: u310 :: u311 :: u312 :: u313 :: u314 :: u315 :: u316 :: u317 :: u318 :: u319 :: u320 :: u321 :: u322 :: u323 :: u324 :: u325 :: u326 :: u327 :: u328 :: u329 :: u330 :: u331 :: u332 :: u333 :: u334 :: u335 :: u336 :: u337 :: u338 :: u339 :: u340 :: u341 :: u342 :: u343 :: u344 :: u345 :: u346 :: u347 :: u348 :: u349 :: u350 :: u351 :: u352 :: u353 :: u354 :: u355 :: u356 :: u357 :: u358 :: u359 :: u360 :: u361 :: u362 :: u363 :: u364 :: u365 :: u366 :: u367 :: u368 :: u369 :: u370 :: u371 :: u372 :: u373 :: u374 :: u375 :: u376 :: u377 :: u378 :: [])), []⟩ wx)
    (hn : I.length = n) (hkk : I[kk]? = some i) (hA : Al w wr b c p W y cw cc co cr G F N P kpti inv (some ⟨gA, 0, none⟩) ca (some ⟨gB, 0, none⟩) cb R s I) (g1 : k + 2 < len2) (g2 : k < 75) :
    Code.wp Try.prog spC48 Q ⟨(List.toArray ((.int .i64 a0) :: (.int .i64 a1) :: (.slice a2 len2 cap2) :: u3 :: u4 :: u5 :: u6 :: (.pointer (some ⟨G, 0, none⟩)) :: u8 :: (.pointer (some ⟨b, 0, none⟩)) :: (.pointer (some ⟨W, 0, none⟩)) :: u11 :: (.pointer (some ⟨F, 0, none⟩)) :: u13 :: (.pointer (some ⟨p, 0, none⟩)) :: (.slice (some ⟨gA, 0, none⟩) n ca) :: (.slice (some ⟨gB, 0, none⟩) n cb) :: (.int .i64 k) :: u18 :: u19 :: u20 :: u21 :: u22 :: (.int .i64 kk) :: (.int .i64 page) :: u25 :: u26 :: u27 :: u28 :: u29 :: u30 :: u31 :: u32 :: u33 :: u34 :: u35 :: u36 :: u37 :: u38 :: u39 :: u40 :: u41 :: u42 :: u43 :: u44 :: u45 :: u46 :: u47 :: u48 :: u49 :: u50 :: u51 :: u52 :: u53 :: u54 :: u55 :: u56 :: u57 :: u58 :: u59 :: u60 :: u61 :: u62 :: u63 :: u64 :: u65 :: u66 :: u67 :: u68 :: u69 :: u70 :: u71 :: u72 :: u73 :: u74 :: u75 :: u76 :: u77 :: u78 :: u79 :: u80 :: u81 :: u82 :: u83 :: u84 :: u85 :: u86 :: u87 :: u88 :: u89 :: u90 :: u91 :: u92 :: u93 :: u94 :: u95 :: u96 :: u97 :: u98 :: u99 :: u100 :: u101 :: u102 :: u103 :: u104 :: u105 :: u106 :: u107 :: u108 :: u109 :: u110 :: u111 :: u112 :: u113 :: u114 :: u115 :: u116 :: u117 :: u118 :: u119 :: u120 :: u121 :: u122 :: u123 :: u124 :: u125 :: u126 :: u127 :: u128 :: u129 :: u130 :: u131 :: u132 :: u133 :: u134 :: u135 :: u136 :: u137 :: u138 :: u139 :: u140 :: u141 :: u142 :: u143 :: u144 :: u145 :: u146 :: u147 :: u148 :: u149 :: u150 :: u151 :: u152 :: u153 :: u154 :: u155 :: u156 :: u157 :: u158 :: u159 :: u160 :: u161 :: u162 :: u163 :: u164 :: u165 :: u166 :: u167 :: u168 :: u169 :: u170 :: u171 :: u172 :: u173 :: u174 :: u175 :: u176 :: u177 :: u178 :: u179 :: u180 :: u181 :: u182 :: u183 :: u184 :: u185 :: u186 :: u187 :: u188 :: u189 :: u190 :: u191 :: u192 :: u193 :: u194 :: u195 :: u196 :: u197 :: u198 :: u199 :: u200 :: u201 :: u202 :: u203 :: u204 :: u205 :: u206 :: u207 :: u208 :: u209 :: u210 :: u211 :: u212 :: u213 :: u214 :: u215 :: u216 :: u217 :: u218 :: u219 :: u220 :: u221 :: u222 :: u223 :: u224 :: u225 :: u226 :: u227 :: u228 :: u229 :: u230 :: u231 :: u232 :: u233 :: u234 :: u235 :: u236 :: u237 :: u238 :: u239 :: u240 :: u241 :: u242 :: u243 :: u244 :: u245 :: u246 :: u247 :: u248 :: u249 :: u250 :: u251 :: u252 :: u253 :: u254 :: u255 :: u256 :: u257 :: u258 :: u259 :: u260 :: u261 :: u262 :: u263 :: u264 :: u265 :: u266 :: u267 :: u268 :: u269 :: u270 :: u271 :: u272 :: u273 :: u274 :: u275 :: u276 :: u277 :: u278 :: u279 :: u280 :: u281 :: u282 :: u283 :: u284 :: u285 :: u286 :: u287 :: u288 :: u289 :: u290 :: u291 :: u292 :: u293 :: u294 :: u295 :: u296 :: u297 :: u298 :: u299 :: u300 :: u301 :: u302 :: u303 :: u304 :: u305 :: u306 :: u307 :: u308 :: u309 :: u310 :: u311 :: u312 :: u313 :: u314 :: u315 :: u316 :: u317 :: u318 :: u319 :: u320 :: u321 :: u322 :: u323 :: u324 :: u325 :: u326 :: u327 :: u328 :: u329 :: u330 :: u331 :: u332 :: u333 :: u334 :: u335 :: u336 :: u337 :: u338 :: u339 :: u340 :: u341 :: u342 :: u343 :: u344 :: u345 :: u346 :: u347 :: u348 :: u349 :: u350 :: u351 :: u352 :: u353 :: u354 :: u355 :: u356 :: u357 :: u358 :: u359 :: u360 :: u361 :: u362 :: u363 :: u364 :: u365 :: u366 :: u367 :: u368 :: u369 :: u370 :: u371 :: u372 :: u373 :: u374 :: u375 :: u376 :: u377 :: u378 :: [])), []⟩ wr := by
  replace h51 : Hid _ := h51
  conv => arg 2; whnf
  obtain ⟨_, p2⟩ := p2
  rcases p2 with p2 | ⟨b0, o0, rfl, hb0, hc0⟩
  · omega
  have c2 := Plain.cell hc0 hb0 (hA.rl.t.below (Nat.le_refl _) (fun _ e => e.elim)) (k + 2) (by omega)
  generalize z2.getD (k + 2) 0 = y2 at c2
  have k1 : (k : Int) + 2 < len2 := by omega
  have k2 : IntKind.i64.wrap ((k : Int) + 2) = (k : Int) + 2 := by rw [IntKind.wrap_i64]; omega
  have k3 : (0 : Int) ≤ (k : Int) + 2 := by omega
  have hi := List.mem_of_getElem? hkk
  have hkn : kk < n := by rw [← hn]; exact (List.getElem?_eq_some_iff.1 hkk).1
  have k6 : (kk : Int) < n := by omega
  refine wp_seq_k (fun K1 h1 => ?_)
  replace h1 : Hid _ := h1
  go_wp2_with fail
  clear c2 hc0
  refine h1.out _ _ ?_
  refine wp_seq_k (fun K2 h2 => ?_)
  replace h2 : Hid _ := h2
  generalize IntKind.u64.wrap y2 = x2
  have tD := (Touch.refl Nil wr).drew
  have hA0 := hA.nil tD
  have hd := hA0.ex.ptrs hkk
  obtain ⟨sy, ds, yi, vi⟩ := hA0.rl.sys hi
  have inP : ∀ z, (z = i.q ∨ z = p ∨ z = c) → PH.fp b c p I z := fun z hz => by
    rcases hz with e | e | e
    · exact Or.inr (Or.inr (Or.inr ⟨i, hi, e⟩))
    · exact Or.inr (Or.inr (Or.inl e))
    · exact Or.inr (Or.inl e)
  have F4 := fun w4 (t4 : Touch (fun z => z = i.q ∨ z = p ∨ z = c) _ w4) => hA0.ex.far t4 (fun z hz e => hA0.ex.noP hA0.rl.ph hz (inP z e))
  have D4 := fun w4 (t4 : Touch (fun z => z = i.q ∨ z = p ∨ z = c) _ w4) => (show DS w4 i.o cw cc co cr i.x y i.a i.cap i.l ⟨i.S, R, s⟩ from
    have r4 := hA0.rl.afterP t4 inP
    have ri := r4.it i hi
    ⟨ri.sp, ri.wo, r4.rm, ri.tk, ri.nl, ri.ne, ri.kern, ri.user, ri.own, ri.li⟩)
  have hS := set_any (y := ⟨i.S, R, s⟩) sy yi.ok page x2
  cases hm : (⟨i.S, R, s⟩ : YS).may page with
  | true =>
    rw [hm] at hS
    simp only [if_true] at hS
    have hR := fun w4 (t4 : Touch (fun z => z = i.q ∨ z = p ∨ z = c) _ w4) => rset_yes (D4 w4 t4) yi vi page x2 hm
    obtain ⟨gv, hgv⟩ : ∃ gv : Int, Hid (getP ((⟨i.S, R, s⟩ : YS).set page x2).S ((⟨i.S, R, s⟩ : YS).set page x2).s page = gv) := ⟨_, rfl⟩
    go_upto_region 49 with fail
    go_region_held3 (fun wx => wx.cell? ⟨gA, kk, none⟩ = some (.pointer (some ⟨i.q, 0, none⟩)) ∧ wx.cell? ⟨gB, kk, none⟩ = some (.pointer (some ⟨i.o, 0, none⟩)))
      (first | exact hd | exact (F4 _ t4).ptrs hkk | exact hX _ (Touch.refl Nil _) | exact hX _ t6 | exact hX _ (t6.trans t7))
      (first
        | (go_at_call 18; refine hS.mono ?_; rintro e w4 ⟨hx, yp, t4⟩; subst hx)
        | (go_at_call 19; refine (hR _ t4).mono ?_; rintro e w5 ⟨hx, x', a', cap', l', ds5, ha, t5⟩; subst hx
           have hA5 := hA0.set hkk hm yp t4 ds5 ha t5
           have kI : (I.set kk ⟨i.q, i.o, x', a', cap', l', ((⟨i.S, R, s⟩ : YS).set page x2).S⟩)[kk]? = some ⟨i.q, i.o, x', a', cap', l', ((⟨i.S, R, s⟩ : YS).set page x2).S⟩ := by rw [List.getElem?_set_self (by rw [hn]; exact hkn)]
           have iI := List.mem_of_getElem? kI
           have hX : ∀ wx, Touch Nil w5 wx → wx.cell? ⟨gA, kk, none⟩ = some (.pointer (some ⟨i.q, 0, none⟩)) ∧ wx.cell? ⟨gB, kk, none⟩ = some (.pointer (some ⟨i.o, 0, none⟩)) := fun wx t => by have hq := (hA5.nil t).ex.ptrs kI; exact hq)
        | (go_at_call 20; have hG := hA5.get iI page; dsimp only at hG; rw [hgv.out] at hG; refine hG.mono ?_; rintro e w6 ⟨hx, t6⟩; subst hx)
        | (go_at_call 21; have hG := (hA5.nil t6).rget iI page; dsimp only at hG; rw [hgv.out] at hG; refine hG.mono ?_; rintro e w7 ⟨hx, t7⟩; subst hx))
    all_goals
      have hA7 := (hA5.nil t6).nil t7
      have lI : (I.set kk ⟨i.q, i.o, x', a', cap', l', ((⟨i.S, R, s⟩ : YS).set page x2).S⟩).length = n := by rw [List.length_set]; exact hn
      clear hA5 t6 t7 t4 t5 yp ds5 hS hR F4 D4 hd sy ds yi vi tD
      go_wp2_with fail
      refine h2.out _ _ ?_
      exact h51.out _ _ _ _ _ _ _ _ _ _ _ _ _ _ _ _ _ _ _ _ _ _ _ _ _ _ _ _ _ _ _ _ _ _ _ _ _ _ _ _ _ _ _ _ _ _ _ _ _ _ _ _ _ _ _ _ _ _ _ _ _ _ _ _ _ _ _ _ _ _ _ _ _ _ _ _ _ _ _ _ _ _ _ _ _ _ _ _ _ _ _ _ _ _ _ _ _ _ _ _ _ _ _ _ _ _ _ _ _ _ _ _ _ _ _ _ _ _ _ _ _ _ _ _ _ _ _ _ _ _ _ _ _ _ _ _ _ _ _ _ _ _ _ _ _ _ _ _ _ _ _ _ _ _ _ _ _ _ _ _ _ _ _ _ _ _ _ _ _ _ _ _ _ _ _ _ _ _ _ _ _ _ _ _ _ _ _ _ _ _ _ _ _ _ _ _ _ _ _ _ _ _ _ _ _ _ _ _ _ _ _ _ _ _ _ _ _ _ _ _ _ _ _ _ _ _ _ _ _ _ _ _ _ _ _ _ _ _ _ _ _ _ _ _ _ _ _ _ _ _ _ _ _ _ _ _ _ _ _ _ _ _ _ _ _ _ _ _ _ _ _ _ _ _ _ _ _ _ _ _ _ _ _ _ _ _ _ _ _ _ _ _ _ _ _ _ _ _ _ _ _ _ _ _ _ _ _ _ _ _ _ _ _ _ _ _ _ _ _ _ _ _ _ _ _ _ _ _ _ _ _ _ _ _ _ _ _ _ _ _ _ _ _ _ _ _ _ _ _ _ _ _ _ _ _ _ _ _ _ _ _ _ _ _ _ _ _ _ _ _ _ lI kI hA7
  | false =>
    rw [hm] at hS
    simp only [Bool.false_eq_true, if_false] at hS
    have hR := fun w4 (t4 : Touch (fun z => z = i.q ∨ z = p ∨ z = c) _ w4) => rset_no (D4 w4 t4) yi vi page x2 hm
    obtain ⟨gv, hgv⟩ : ∃ gv : Int, Hid (getP i.S s page = gv) := ⟨_, rfl⟩
    go_upto_region 49 with fail
    go_region_held3 (fun wx => wx.cell? ⟨gA, kk, none⟩ = some (.pointer (some ⟨i.q, 0, none⟩)) ∧ wx.cell? ⟨gB, kk, none⟩ = some (.pointer (some ⟨i.o, 0, none⟩)))
      (first | exact hd | exact hX _ (Touch.refl Nil _) | exact hX _ t5 | exact hX _ (t5.trans t6) | exact hX _ ((t5.trans t6).trans t7))
      (first
        | (go_at_call 18; refine hS.mono ?_; rintro e w4 ⟨hx, yp, t4⟩; subst hx
           have hA4 := hA0.same hkk yp t4
           have hX : ∀ wx, Touch Nil w4 wx → wx.cell? ⟨gA, kk, none⟩ = some (.pointer (some ⟨i.q, 0, none⟩)) ∧ wx.cell? ⟨gB, kk, none⟩ = some (.pointer (some ⟨i.o, 0, none⟩)) := fun wx t => by have hq := (hA4.nil t).ex.ptrs hkk; exact hq)
        | (go_at_call 19; refine (hR _ t4).mono ?_; rintro e w5 ⟨hx, t5⟩; subst hx
           have hA5 := hA4.nil t5)
        | (go_at_call 20; have hG := hA5.get hi page; rw [hgv.out] at hG; refine hG.mono ?_; rintro e w6 ⟨hx, t6⟩; subst hx)
        | (go_at_call 21; have hG := (hA5.nil t6).rget hi page; rw [hgv.out] at hG; refine hG.mono ?_; rintro e w7 ⟨hx, t7⟩; subst hx))
    all_goals
      have hA7 := (hA5.nil t6).nil t7
      clear hA5 hA4 hX t6 t7 t4 t5 yp hS hR F4 D4 hd sy ds yi vi tD
      go_wp2_with fail
      refine h2.out _ _ ?_
      exact h51.out _ _ _ _ _ _ _ _ _ _ _ _ _ _ _ _ _ _ _ _ _ _ _ _ _ _ _ _ _ _ _ _ _ _ _ _ _ _ _ _ _ _ _ _ _ _ _ _ _ _ _ _ _ _ _ _ _ _ _ _ _ _ _ _ _ _ _ _ _ _ _ _ _ _ _ _ _ _ _ _ _ _ _ _ _ _ _ _ _ _ _ _ _ _ _ _ _ _ _ _ _ _ _ _ _ _ _ _ _ _ _ _ _ _ _ _ _ _ _ _ _ _ _ _ _ _ _ _ _ _ _ _ _ _ _ _ _ _ _ _ _ _ _ _ _ _ _ _ _ _ _ _ _ _ _ _ _ _ _ _ _ _ _ _ _ _ _ _ _ _ _ _ _ _ _ _ _ _ _ _ _ _ _ _ _ _ _ _ _ _ _ _ _ _ _ _ _ _ _ _ _ _ _ _ _ _ _ _ _ _ _ _ _ _ _ _ _ _ _ _ _ _ _ _ _ _ _ _ _ _ _ _ _ _ _ _ _ _ _ _ _ _ _ _ _ _ _ _ _ _ _ _ _ _ _ _ _ _ _ _ _ _ _ _ _ _ _ _ _ _ _ _ _ _ _ _ _ _ _ _ _ _ _ _ _ _ _ _ _ _ _ _ _ _ _ _ _ _ _ _ _ _ _ _ _ _ _ _ _ _ _ _ _ _ _ _ _ _ _ _ _ _ _ _ _ _ _ _ _ _ _ _ _ _ _ _ _ _ _ _ _ _ _ _ _ _ _ _ _ _ _ _ _ _ _ _ _ _ _ _ _ _ _ _ _ _ _ _ _ _ _ hn hkk hA7
end Go.Proofs.Ytoododpeoffieaa
/-
  The walk of SpacePlays: a round that sets a page: its end: Roots beside Kernel and User.
-/
namespace Go.Proofs.Ytoododpeoffieaa
open Go.ChangeShapes Go.WideShapes Go.ChangeAt Go.RowKit

set_option maxRecDepth 100000 in
set_option maxHeartbeats 16000000 in
theorem spSet4 {Q : Exit → Act → World → Prop} (a0 a1 : Int) (a2 : Option Addr) (len2 cap2 : Nat) (w : World)
    (u3 u4 u5 u6 u8 u11 u13 u18 u19 u20 u21 u22 u25 u26 u27 u28 u29 u30 u31 u32 u33 u34 u35 u36 u37 u38 u39 u40 u41 u42 u43 u44 u45 u46 u47 u48 u49 u50 u51 u52 u53 u54 u55 u56 u57 u58 u59 u60 u61 u62 u63 u64 u65 u66 u67 u68 u69 u70 u71 u72 u73 u74 u75 u76 u77 u78 u79 u80 u81 u82 u83 u84 u85 u86 u87 u88 u89 u90 u91 u92 u93 u94 u95 u96 u97 u98 u99 u100 u101 u102 u103 u104 u105 u106 u107 u108 u109 u110 u111 u112 u113 u114 u115 u116 u117 u118 u119 u120 u121 u122 u123 u124 u125 u126 u127 u128 u129 u130 u131 u132 u133 u134 u135 u136 u137 u138 u139 u140 u141 u142 u143 u144 u145 u146 u147 u148 u149 u150 u151 u152 u153 u154 u155 u156 u157 u158 u159 u160 u161 u162 u163 u164 u165 u166 u167 u168 u169 u170 u171 u172 u173 u174 u175 u176 u177 u178 u179 u180 u181 u182 u183 u184 u185 u186 u187 u188 u189 u190 u191 u192 u193 u194 u195 u196 u197 u198 u199 u200 u201 u202 u203 u204 u205 u206 u207 u208 u209 u210 u211 u212 u213 u214 u215 u216 u217 u218 u219 u220 u221 u222 u223 u224 u225 u226 u227 u228 u229 u230 u231 u232 u233 u234 u235 u236 u237 u238 u239 u240 u241 u242 u243 u244 u245 u246 u247 u248 u249 u250 u251 u252 u253 u254 u255 u256 u257 u258 u259 u260 u261 u262 u263 u264 u265 u266 u267 u268 u269 u270 u271 u272 u273 u274 u275 u276 u277 u278 u279 u280 u281 u282 u283 u284 u285 u286 u287 u288 u289 u290 u291 u292 u293 u294 u295 u296 u297 u298 u299 u300 u301 u302 u303 u304 u305 u306 u307 u308 u309 u310 u311 u312 u313 u314 u315 u316 u317 u318 u319 u320 u321 u322 u323 u324 u325 u326 u327 u328 u329 u330 u331 u332 u333 u334 u335 u336 u337 u338 u339 u340 u341 u342 u343 u344 u345 u346 u347 u348 u349 u350 u351 u352 u353 u354 u355 u356 u357 u358 u359 u360 u361 u362 u363 u364 u365 u366 u367 u368 u369 u370 u371 u372 u373 u374 u375 u376 u377 u378 : Value) (G b c p W : Nat) (y : RW) (cw cc co cr F : Nat) (N P : Int) (kpti inv : Bool) (k kk n : Nat) (page : Int) (gA gB : Nat) (ca cb : Nat) (R : Nat → Int) (s : MS) (I : List Itm) (i : Itm) (wr : World)
    (hQ : ∀ (u3 u4 u5 u6 u8 u11 u13 u18 u19 u20 u21 u22 u23 u24 u25 u26 u27 u28 u29 u30 u31 u32 u33 u34 u35 u36 u37 u38 u39 u40 u41 u42 u43 u44 u45 u46 u47 u48 u49 u50 u51 u52 u53 u54 u55 u56 u57 u58 u59 u60 u61 u62 u63 u64 u65 u66 u67 u68 u69 u70 u71 u72 u73 u74 u75 u76 u77 u78 u79 u80 u81 u82 u83 u84 u85 u86 u87 u88 u89 u90 u91 u92 u93 u94 u95 u96 u97 u98 u99 u100 u101 u102 u103 u104 u105 u106 u107 u108 u109 u110 u111 u112 u113 u114 u115 u116 u117 u118 u119 u120 u121 u122 u123 u124 u125 u126 u127 u128 u129 u130 u131 u132 u133 u134 u135 u136 u137 u138 u139 u140 u141 u142 u143 u144 u145 u146 u147 u148 u149 u150 u151 u152 u153 u154 u155 u156 u157 u158 u159 u160 u161 u162 u163 u164 u165 u166 u167 u168 u169 u170 u171 u172 u173 u174 u175 u176 u177 u178 u179 u180 u181 u182 u183 u184 u185 u186 u187 u188 u189 u190 u191 u192 u193 u194 u195 u196 u197 u198 u199 u200 u201 u202 u203 u204 u205 u206 u207 u208 u209 u210 u211 u212 u213 u214 u215 u216 u217 u218 u219 u220 u221 u222 u223 u224 u225 u226 u227 u228 u229 u230 u231 u232 u233 u234 u235 u236 u237 u238 u239 u240 u241 u242 u243 u244 u245 u246 u247 u248 u249 u250 u251 u252 u253 u254 u255 u256 u257 u258 u259 u260 u261 u262 u263 u264 u265 u266 u267 u268 u269 u270 u271 u272 u273 u274 u275 u276 u277 u278 u279 u280 u281 u282 u283 u284 u285 u286 u287 u288 u289 u290 u291 u292 u293 u294 u295 u296 u297 u298 u299 u300 u301 u302 u303 u304 u305 u306 u307 u308 u309 u310 u311 u312 u313 u314 u315 u316 u317 u318 u319 u320 u321 u322 u323 u324 u325 u326 u327 u328 u329 u330 u331 u332 u333 u334 u335 u336 u337 u338 u339 u340 u341 u342 u343 u344 u345 u346 u347 u348 u349 u350 u351 u352 u353 u354 u355 u356 u357 u358 u359 u360 u361 u362 u363 u364 u365 u366 u367 u368 u369 u370 u371 u372 u373 u374 u375 u376 u377 u378 : Value) (wx : World), Al w wx b c p W y cw cc co cr G F N P kpti inv (some ⟨gA, 0, none⟩) ca (some ⟨gB, 0, none⟩) cb R s I → Q .normal ⟨(List.toArray ((.int .i64 a0) :: (.int .i64 a1) :: (.slice a2 len2 cap2) :: u3 :: u4 :: u5 :: u6 :: (.pointer (some ⟨G, 0, none⟩)) :: u8 :: (.pointer (some ⟨b, 0, none⟩)) :: (.pointer (some ⟨W, 0, none⟩)) :: u11 :: (.pointer (some ⟨F, 0, none⟩)) :: u13 :: (.pointer (some ⟨p, 0, none⟩)) :: (.slice (some ⟨gA, 0, none⟩) n ca) :: (.slice (some ⟨gB, 0, none⟩) n cb) :: (.int .i64 k) :: u18 :: u19 :: u20 :: u21 :: u22 :: u23 :: u24 :: u25 :: u26 :: u27 :: u28 :: u29 :: u30 :: u31 :: u32 :: u33 :: u34 :: u35 :: u36 :: u37 :: u38 :: u39 :: u40 :: u41 :: u42 :: u43 :: u44 :: u45 :: u46 :: u47 :: u48 :: u49 :: u50 :: u51 :: u52 :: u53 :: u54 :: u55 :: u56 :: u57 :: u58 :: u59 :: u60 :: u61 :: u62 :: u63 :: u64 :: u65 :: u66 :: u67 :: u68 :: u69 :: u70 :: u71 :: u72 :: u73 :: u74 :: u75 :: u76 :: u77 :: u78 :: u79 :: u80 :: u81 :: u82 :: u83 :: u84 :: u85 :: u86 :: u87 :: u88 :: u89 :: u90 :: u91 :: u92 :: u93 :: u94 :: u95 :: u96 :: u97 :: u98 :: u99 :: u100 :: u101 :: u102 :: u103 :: u104 :: u105 :: u106 :: u107 :: u108 :: u109 :: u110 :: u111 :: u112 :: u113 :: u114 :: u115 :: u116 :: u117 :: u118 :: u119 :: u120 :: u121 :: u122 :: u123 :: u124 :: u125 :: u126 :: u127 :: u128 :: u129 :: u130 :: u131 :: u132 :: u133 :: u134 :: u135 :: u136 :: u137 :: u138 :: u139 :: u140 :: u141 :: u142 :: u143 :: u144 :: u145 :: u146 :: u147 :: u148 :: u149 :: u150 :: u151 :: u152 :: u153 :: u154 :: u155 :: u156 :: u157 :: u158 :: u159 :: u160 :: u161 :: u162 :: u163 :: u164 :: u165 :: u166 :: u167 :: u168 :: u169 :: u170 :: u171 :: u172 :: u173 :: u174 :: u175 :: u176 :: u177 :: u178 :: u179 :: u180 :: u181 :: u182 :: u183 :: u184 :: u185 :: u186 :: u187 :: u188 :: u189 :: u190 :: u191 :: u192 :: u193 :: u194 :: u195 :: u196 :: u197 :: u198 :: u199 :: u200 :: u201 :: u202 :: u203 :: u204 :: u205 :: u206 :: u207 :: u208 :: u209 :: u210 :: u211 :: u212 :: u213 :: u214 :: u215 :: u216 :: u217 :: u218 :: u219 :: u220 :: u221 :: u222 :: u223 :: u224 :: u225 :: u226 :: u227 :: u228 :: u229 :: u230 :: u231 :: u232 :: u233 :: u234 :: u235 :: u236 :: u237 :: u238 :: u239 :: u240 :: u241 :: u242 :: u243 :: u244 :: u245 :: u246 :: u247 :: u248 :: u249 :: u250 :: u251 :: u252 :: u253 :: u254 :: u255 :: u256 :: u257 :: u258 :: u259 :: u260 :: u261 :: u262 :: u263 :: u264 :: u265 :: u266 :: u267 :: u268 :: u269 :: u270 :: u271 :: u272 :: u273 :: u274 :: u275 :: u276 :: u277 :: u278 :: u279 :: u280 :: u281 :: u282 :: u283 :: u284 :: u285 :: u286 :: u287 :: u288 :: u289 :: u290 :: u291 :: u292 :: u293 :: u294 :: u295 :: u296 :: u297 :: u298 :: u299 :: u300 :: u301 :: u302 :: u303 :: u304 :: u305 :: u306 :: u307 :: u308 :: u309 :: u310 :: u311 :: u312 :: u313 :: u314 :: u315 :: u316 :: u317 :: u318 :: u319 :: u320 :: u321 :: u322 :: u323 :: u324 :: u325 :: u326 :: u327 :: u328 :: u329 :: u330 :: u331 :: u332 :: u333 :: u334 :: u335 :: u336 :: u337 :: u338 :: u339 :: u340 :: u341 :: u342 :: u343 :: u344 :: u345 :: u346 :: u347 :: u348 :: u349 :: u350 :: u351 :: u352 :: u353 :: u354 :: u355 :: u356 :: u357 :: u358 :: u359 :: u360 :: u361 :: u362 :: u363 :: u364 :: u365 :: u366 :: u367 :: u368 :: u369 :: u370 :: u371 :: u372 :: u373 :: u374 :: u375 :: u376 :: u377 :: u378 :: [])), []⟩ wx)
    (hn : I.length = n) (hkk : I[kk]? = some i) (hA : Al w wr b c p W y cw cc co cr G F N P kpti inv (some ⟨gA, 0, none⟩) ca (some ⟨gB, 0, none⟩) cb R s I) :
    Code.wp Try.prog spC51 Q ⟨(List.toArray ((.int .i64 a0) :: (.int .i64 a1) :: (.slice a2 len2 cap2) :: u3 :: u4 :: u5 :: u6 :: (.pointer (some ⟨G, 0, none⟩)) :: u8 :: (.pointer (some ⟨b, 0, none⟩)) :: (.pointer (some ⟨W, 0, none⟩)) :: u11 :: (.pointer (some ⟨F, 0, none⟩)) :: u13 :: (.pointer (some ⟨p, 0, none⟩)) :: (.slice (some ⟨gA, 0, none⟩) n ca) :: (.slice (some ⟨gB, 0, none⟩) n cb) :: (.int .i64 k) :: u18 :: u19 :: u20 :: u21 :: u22 :: (.int .i64 kk) :: (.int .i64 page) :: u25 :: u26 :: u27 :: u28 :: u29 :: u30 :: u31 :: u32 :: u33 :: u34 :: u35 :: u36 :: u37 :: u38 :: u39 :: u40 :: u41 :: u42 :: u43 :: u44 :: u45 :: u46 :: u47 :: u48 :: u49 :: u50 :: u51 :: u52 :: u53 :: u54 :: u55 :: u56 :: u57 :: u58 :: u59 :: u60 :: u61 :: u62 :: u63 :: u64 :: u65 :: u66 :: u67 :: u68 :: u69 :: u70 :: u71 :: u72 :: u73 :: u74 :: u75 :: u76 :: u77 :: u78 :: u79 :: u80 :: u81 :: u82 :: u83 :: u84 :: u85 :: u86 :: u87 :: u88 :: u89 :: u90 :: u91 :: u92 :: u93 :: u94 :: u95 :: u96 :: u97 :: u98 :: u99 :: u100 :: u101 :: u102 :: u103 :: u104 :: u105 :: u106 :: u107 :: u108 :: u109 :: u110 :: u111 :: u112 :: u113 :: u114 :: u115 :: u116 :: u117 :: u118 :: u119 :: u120 :: u121 :: u122 :: u123 :: u124 :: u125 :: u126 :: u127 :: u128 :: u129 :: u130 :: u131 :: u132 :: u133 :: u134 :: u135 :: u136 :: u137 :: u138 :: u139 :: u140 :: u141 :: u142 :: u143 :: u144 :: u145 :: u146 :: u147 :: u148 :: u149 :: u150 :: u151 :: u152 :: u153 :: u154 :: u155 :: u156 :: u157 :: u158 :: u159 :: u160 :: u161 :: u162 :: u163 :: u164 :: u165 :: u166 :: u167 :: u168 :: u169 :: u170 :: u171 :: u172 :: u173 :: u174 :: u175 :: u176 :: u177 :: u178 :: u179 :: u180 :: u181 :: u182 :: u183 :: u184 :: u185 :: u186 :: u187 :: u188 :: u189 :: u190 :: u191 :: u192 :: u193 :: u194 :: u195 :: u196 :: u197 :: u198 :: u199 :: u200 :: u201 :: u202 :: u203 :: u204 :: u205 :: u206 :: u207 :: u208 :: u209 :: u210 :: u211 :: u212 :: u213 :: u214 :: u215 :: u216 :: u217 :: u218 :: u219 :: u220 :: u221 :: u222 :: u223 :: u224 :: u225 :: u226 :: u227 :: u228 :: u229 :: u230 :: u231 :: u232 :: u233 :: u234 :: u235 :: u236 :: u237 :: u238 :: u239 :: u240 :: u241 :: u242 :: u243 :: u244 :: u245 :: u246 :: u247 :: u248 :: u249 :: u250 :: u251 :: u252 :: u253 :: u254 :: u255 :: u256 :: u257 :: u258 :: u259 :: u260 :: u261 :: u262 :: u263 :: u264 :: u265 :: u266 :: u267 :: u268 :: u269 :: u270 :: u271 :: u272 :: u273 :: u274 :: u275 :: u276 :: u277 :: u278 :: u279 :: u280 :: u281 :: u282 :: u283 :: u284 :: u285 :: u286 :: u287 :: u288 :: u289 :: u290 :: u291 :: u292 :: u293 :: u294 :: u295 :: u296 :: u297 :: u298 :: u299 :: u300 :: u301 :: u302 :: u303 :: u304 :: u305 :: u306 :: u307 :: u308 :: u309 :: u310 :: u311 :: u312 :: u313 :: u314 :: u315 :: u316 :: u317 :: u318 :: u319 :: u320 :: u321 :: u322 :: u323 :: u324 :: u325 :: u326 :: u327 :: u328 :: u329 :: u330 :: u331 :: u332 :: u333 :: u334 :: u335 :: u336 :: u337 :: u338 :: u339 :: u340 :: u341 :: u342 :: u343 :: u344 :: u345 :: u346 :: u347 :: u348 :: u349 :: u350 :: u351 :: u352 :: u353 :: u354 :: u355 :: u356 :: u357 :: u358 :: u359 :: u360 :: u361 :: u362 :: u363 :: u364 :: u365 :: u366 :: u367 :: u368 :: u369 :: u370 :: u371 :: u372 :: u373 :: u374 :: u375 :: u376 :: u377 :: u378 :: [])), []⟩ wr := by
  replace hQ : Hid _ := hQ
  conv => arg 2; whnf
  have hi := List.mem_of_getElem? hkk
  have hkn : kk < n := by rw [← hn]; exact (List.getElem?_eq_some_iff.1 hkk).1
  have k6 : (kk : Int) < n := by omega
  obtain ⟨cA, cB⟩ := hA.ex.ptrs hkk
  obtain ⟨sy, ds, yi, vi⟩ := hA.rl.sys hi
  have hR := sroots_any sy.sp
  refine wp_seq_k (fun K1 h1 => ?_)
  replace h1 : Hid _ := h1
  go_wp2_with fail
  with_reducible refine hR.mono ?_
  rintro e w2 ⟨rfl, t2⟩
  have hA2 := hA.nil t2
  clear hR cA cB sy ds yi vi hA
  go_wp2_with fail
  refine h1.out _ _ ?_
  obtain ⟨cA, cB⟩ := hA2.ex.ptrs hkk
  obtain ⟨sy, ds, yi, vi⟩ := hA2.rl.sys hi
  have c1 := ds.sp.kernC
  have c2 := ds.sp.userC
  rw [ds.kern] at c1
  rw [ds.user] at c2
  clear cA sy yi vi
  go_wp2_with fail
  exact hQ.out _ _ _ _ _ _ _ _ _ _ _ _ _ _ _ _ _ _ _ _ _ _ _ _ _ _ _ _ _ _ _ _ _ _ _ _ _ _ _ _ _ _ _ _ _ _ _ _ _ _ _ _ _ _ _ _ _ _ _ _ _ _ _ _ _ _ _ _ _ _ _ _ _ _ _ _ _ _ _ _ _ _ _ _ _ _ _ _ _ _ _ _ _ _ _ _ _ _ _ _ _ _ _ _ _ _ _ _ _ _ _ _ _ _ _ _ _ _ _ _ _ _ _ _ _ _ _ _ _ _ _ _ _ _ _ _ _ _ _ _ _ _ _ _ _ _ _ _ _ _ _ _ _ _ _ _ _ _ _ _ _ _ _ _ _ _ _ _ _ _ _ _ _ _ _ _ _ _ _ _ _ _ _ _ _ _ _ _ _ _ _ _ _ _ _ _ _ _ _ _ _ _ _ _ _ _ _ _ _ _ _ _ _ _ _ _ _ _ _ _ _ _ _ _ _ _ _ _ _ _ _ _ _ _ _ _ _ _ _ _ _ _ _ _ _ _ _ _ _ _ _ _ _ _ _ _ _ _ _ _ _ _ _ _ _ _ _ _ _ _ _ _ _ _ _ _ _ _ _ _ _ _ _ _ _ _ _ _ _ _ _ _ _ _ _ _ _ _ _ _ _ _ _ _ _ _ _ _ _ _ _ _ _ _ _ _ _ _ _ _ _ _ _ _ _ _ _ _ _ _ _ _ _ _ _ _ _ _ _ _ _ _ _ _ _ _ _ _ _ _ _ _ _ _ _ _ _ _ _ _ _ _ _ _ _ _ _ _ _ hA2
end Go.Proofs.Ytoododpeoffieaa
/-
  The walk of SpacePlays: a round that sets a page: its start.
-/
namespace Go.Proofs.Ytoododpeoffieaa
open Go.ChangeShapes Go.WideShapes Go.ChangeAt Go.RowKit

def tenL : Array Value := #[.int .i64 0, .int .i64 1, .int .i64 8, .int .i64 63, .int .i64 64, .int .i64 200, .int .i64 255, .int .i64 256, .int .i64 448, .int .i64 (-1)]
set_option maxRecDepth 100000 in
set_option maxHeartbeats 16000000 in
theorem spSet1 {K : Act → World → Prop} {Q : Exit → Act → World → Prop} (a0 a1 : Int) (a2 : Option Addr) (len2 cap2 : Nat) (z2 : List Int) (w : World) (p2 : Plain .i64 w a2 len2 z2)
    (u3 u4 u5 u6 u8 u11 u13 u18 u19 u20 u21 u22 u23 u24 u25 u26 u27 u28 u29 u30 u31 u32 u33 u34 u35 u36 u37 u38 u39 u40 u41 u42 u43 u44 u45 u46 u47 u48 u49 u50 u51 u52 u53 u54 u55 u56 u57 u58 u59 u60 u61 u62 u63 u64 u65 u66 u67 u68 u69 u70 u71 u72 u73 u74 u75 u76 u77 u78 u79 u80 u81 u82 u83 u84 u85 u86 u87 u88 u89 u90 u91 u92 u93 u94 u95 u96 u97 u98 u99 u100 u101 u102 u103 u104 u105 u106 u107 u108 u109 u110 u111 u112 u113 u114 u115 u116 u117 u118 u119 u120 u121 u122 u123 u124 u125 u126 u127 u128 u129 u130 u131 u132 u133 u134 u135 u136 u137 u138 u139 u140 u141 u142 u143 u144 u145 u146 u147 u148 u149 u150 u151 u152 u153 u154 u155 u156 u157 u158 u159 u160 u161 u162 u163 u164 u165 u166 u167 u168 u169 u170 u171 u172 u173 u174 u175 u176 u177 u178 u179 u180 u181 u182 u183 u184 u185 u186 u187 u188 u189 u190 u191 u192 u193 u194 u195 u196 u197 u198 u199 u200 u201 u202 u203 u204 u205 u206 u207 u208 u209 u210 u211 u212 u213 u214 u215 u216 u217 u218 u219 u220 u221 u222 u223 u224 u225 u226 u227 u228 u229 u230 u231 u232 u233 u234 u235 u236 u237 u238 u239 u240 u241 u242 u243 u244 u245 u246 u247 u248 u249 u250 u251 u252 u253 u254 u255 u256 u257 u258 u259 u260 u261 u262 u263 u264 u265 u266 u267 u268 u269 u270 u271 u272 u273 u274 u275 u276 u277 u278 u279 u280 u281 u282 u283 u284 u285 u286 u287 u288 u289 u290 u291 u292 u293 u294 u295 u296 u297 u298 u299 u300 u301 u302 u303 u304 u305 u306 u307 u308 u309 u310 u311 u312 u313 u314 u315 u316 u317 u318 u319 u320 u321 u322 u323 u324 u325 u326 u327 u328 u329 u330 u331 u332 u333 u334 u335 u336 u337 u338 u339 u340 u341 u342 u343 u344 u345 u346 u347 u348 u349 u350 u351 u352 u353 u354 u355 u356 u357 u358 u359 u360 u361 u362 u363 u364 u365 u366 u367 u368 u369 u370 u371 u372 u373 u374 u375 u376 u377 u378 : Value) (G b c p W : Nat) (y : RW) (cw cc co cr F : Nat) (N P : Int) (kpti inv : Bool) (k n : Nat) (gA gB : Nat) (ca cb : Nat) (R : Nat → Int) (s : MS) (I : List Itm) (wr : World)
    (hK : SpK K a0 a1 a2 len2 cap2 w G b c p W y cw cc co cr F N P kpti inv k)
    (h45 : ∀ (Q2 : Exit → Act → World → Prop) (u3 u4 u5 u6 u8 u11 u13 u18 u19 u20 u21 u22 u25 u26 u27 u28 u29 u30 u31 u32 u33 u34 u35 u36 u37 u38 u39 u40 u41 u42 u43 u44 u45 u46 u47 u48 u49 u50 u51 u52 u53 u54 u55 u56 u57 u58 u59 u60 u61 u62 u63 u64 u65 u66 u67 u68 u69 u70 u71 u72 u73 u74 u75 u76 u77 u78 u79 u80 u81 u82 u83 u84 u85 u86 u87 u88 u89 u90 u91 u92 u93 u94 u95 u96 u97 u98 u99 u100 u101 u102 u103 u104 u105 u106 u107 u108 u109 u110 u111 u112 u113 u114 u115 u116 u117 u118 u119 u120 u121 u122 u123 u124 u125 u126 u127 u128 u129 u130 u131 u132 u133 u134 u135 u136 u137 u138 u139 u140 u141 u142 u143 u144 u145 u146 u147 u148 u149 u150 u151 u152 u153 u154 u155 u156 u157 u158 u159 u160 u161 u162 u163 u164 u165 u166 u167 u168 u169 u170 u171 u172 u173 u174 u175 u176 u177 u178 u179 u180 u181 u182 u183 u184 u185 u186 u187 u188 u189 u190 u191 u192 u193 u194 u195 u196 u197 u198 u199 u200 u201 u202 u203 u204 u205 u206 u207 u208 u209 u210 u211 u212 u213 u214 u215 u216 u217 u218 u219 u220 u221 u222 u223 u224 u225 u226 u227 u228 u229 u230 u231 u232 u233 u234 u235 u236 u237 u238 u239 u240 u241 u242 u243 u244 u245 u246 u247 u248 u249 u250 u251 u252 u253 u254 u255 u256 u257 u258 u259 u260 u261 u262 u263 u264 u265 u266 u267 u268 u269 u270 u271 u272 u273 u274 u275 u276 u277 u278 u279 u280 u281 u282 u283 u284 u285 u286 u287 u288 u289 u290 u291 u292 u293 u294 u295 u296 u297 u298 u299 u300 u301 u302 u303 u304 u305 u306 u307 u308 u309 u310 u311 u312 u313 u314 u315 u316 u317 u318 u319 u320 u321 u322 u323 u324 u325 u326 u327 u328 u329 u330 u331 u332 u333 u334 u335 u336 u337 u338 u339 u340 u341 u342 u343 u344 u345 u346 u347 u348 u349 u350 u351 u352 u353 u354 u355 u356 u357 u358 u359 u360 u361 u362 u363 u364 u365 u366 u367 u368 u369 u370 u371 u372 u373 u374 u375 u376 u377 u378 : Value) (kk : Nat) (page : Int) (wx : World), kk < n → -1000000000000000000 ≤ page ∧ page ≤ 1000000000000000000 → Al w wx b c p W y cw cc co cr G F N P kpti inv (some ⟨gA, 0, none⟩) ca (some ⟨gB, 0, none⟩) cb R s I →
      (∀ (u3 u4 u5 u6 u8 u11 u13 u18 u19 u20 u21 u22 u23 u24 u25 u26 u27 u28 u29 u30 u31 u32 u33 u34 u35 u36 u37 u38 u39 u40 u41 u42 u43 u44 u45 u46 u47 u48 u49 u50 u51 u52 u53 u54 u55 u56 u57 u58 u59 u60 u61 u62 u63 u64 u65 u66 u67 u68 u69 u70 u71 u72 u73 u74 u75 u76 u77 u78 u79 u80 u81 u82 u83 u84 u85 u86 u87 u88 u89 u90 u91 u92 u93 u94 u95 u96 u97 u98 u99 u100 u101 u102 u103 u104 u105 u106 u107 u108 u109 u110 u111 u112 u113 u114 u115 u116 u117 u118 u119 u120 u121 u122 u123 u124 u125 u126 u127 u128 u129 u130 u131 u132 u133 u134 u135 u136 u137 u138 u139 u140 u141 u142 u143 u144 u145 u146 u147 u148 u149 u150 u151 u152 u153 u154 u155 u156 u157 u158 u159 u160 u161 u162 u163 u164 u165 u166 u167 u168 u169 u170 u171 u172 u173 u174 u175 u176 u177 u178 u179 u180 u181 u182 u183 u184 u185 u186 u187 u188 u189 u190 u191 u192 u193 u194 u195 u196 u197 u198 u199 u200 u201 u202 u203 u204 u205 u206 u207 u208 u209 u210 u211 u212 u213 u214 u215 u216 u217 u218 u219 u220 u221 u222 u223 u224 u225 u226 u227 u228 u229 u230 u231 u232 u233 u234 u235 u236 u237 u238 u239 u240 u241 u242 u243 u244 u245 u246 u247 u248 u249 u250 u251 u252 u253 u254 u255 u256 u257 u258 u259 u260 u261 u262 u263 u264 u265 u266 u267 u268 u269 u270 u271 u272 u273 u274 u275 u276 u277 u278 u279 u280 u281 u282 u283 u284 u285 u286 u287 u288 u289 u290 u291 u292 u293 u294 u295 u296 u297 u298 u299 u300 u301 u302 u303 u304 u305 u306 u307 u308 u309 u310 u311 u312 u313 u314 u315 u316 u317 u318 u319 u320 u321 u322 u323 u324 u325 u326 u327 u328 u329 u330 u331 u332 u333 u334 u335 u336 u337 u338 u339 u340 u341 u342 u343 u344 u345 u346 u347 u348 u349 u350 u351 u352 u353 u354 u355 u356 u357 u358 u359 u360 u361 u362 u363 u364 u365 u366 u367 u368 u369 u370 u371 u372 u373 u374 u375 u376 u377 u378 : Value) (R' : Nat → Int) (s' : MS) (I' : List Itm) (wx : World), I'.length = n → Al w wx b c p W y cw cc co cr G F N P kpti inv (some ⟨gA, 0, none⟩) ca (some ⟨gB, 0, none⟩) cb R' s' I' → Q2 .normal ⟨(List.toArray ((.int .i64 a0) :: (.int .i64 a1) :: (.slice a2 len2 cap2) :: u3 :: u4 :: u5 :: u6 :: (.pointer (some ⟨G, 0, none⟩)) :: u8 :: (.pointer (some ⟨b, 0, none⟩)) :: (.pointer (some ⟨W, 0, none⟩)) :: u11 :: (.pointer (some ⟨F, 0, none⟩)) :: u13 :: (.pointer (some ⟨p, 0, none⟩)) :: (.slice (some ⟨gA, 0, none⟩) n ca) :: (.slice (some ⟨gB, 0, none⟩) n cb) :: (.int .i64 k) :: u18 :: u19 :: u20 :: u21 :: u22 :: u23 :: u24 :: u25 :: u26 :: u27 :: u28 :: u29 :: u30 :: u31 :: u32 :: u33 :: u34 :: u35 :: u36 :: u37 :: u38 :: u39 :: u40 :: u41 :: u42 :: u43 :: u44 :: u45 :: u46 :: u47 :: u48 :: u49 :: u50 :: u51 :: u52 :: u53 :: u54 :: u55 :: u56 :: u57 :: u58 :: u59 :: u60 :: u61 :: u62 :: u63 :: u64 :: u65 :: u66 :: u67 :: u68 :: u69 :: u70 :: u71 :: u72 :: u73 :: u74 :: u75 :: u76 :: u77 :: u78 :: u79 :: u80 :: u81 :: u82 :: u83 :: u84 :: u85 :: u86 :: u87 :: u88 :: u89 :: u90 :: u91 :: u92 :: u93 :: u94 :: u95 :: u96 :: u97 :: u98 :: u99 :: u100 :: u101 :: u102 :: u103 :: u104 :: u105 :: u106 :: u107 :: u108 :: u109 :: u110 :: u111 :: u112 :: u113 :: u114 :: u115 :: u116 :: u117 :: u118 :: u119 :: u120 :: u121 :: u122 :: u123 :: u124 :: u125 :: u126 :: u127 :: u128 :: u129 :: u130 :: u131 :: u132 :: u133 :: u134 :: u135 :: u136 :: u137 :: u138 :: u139 :: u140 :: u141 :: u142 :: u143 :: u144 :: u145 :: u146 :: u147 :: u148 :: u149 :: u150 :: u151 :: u152 :: u153 :: u154 :: u155 :: u156 :: u157 :: u158 :: u159 :: u160 :: u161 :: u162 :: u163 :: u164 :: u165 :: u166 :: u167 :: u168 :: u169 :: u170 :: u171 :: u172 :: u173 :: u174 :: u175 :: u176 :: u177 :: u178 :: u179 :: u180 :: u181 :: u182 :: u183 :: u184 :: u185 :: u186 :: u187 :: u188 :: u189 :: u190 :: u191 :: u192 :: u193 :: u194 :: u195 :: u196 :: u197 :: u198 :: u199 :: u200 :: u201 :: u202 :: u203 :: u204 :: u205 :: u206 :: u207 :: u208 :: u209 :: u210 :: u211 :: u212 :: u213 :: u214 :: u215 :: u216 :: u217 :: u218 :: u219 :: u220 :: u221 :: u222 :: u223 :: u224 :: u225 :: u226 :: u227 :: u228 :: u229 :: u230 :: u231 :: u232 :: u233 :: u234 :: u235 :: u236 :: u237 :: u238 :: u239 :: u240 :: u241 :: u242 :: u243 :: u244 :: u245 :: u246 :: u247 :: u248 :: u249 :: u250 :: u251 :: u252 :: u253 :: u254 :: u255 :: u256 :: u257 :: u258 :: u259 :: u260 :: u261 :: u262 :: u263 :: u264 :: u265 :: u266 :: u267 :: u268 :: u269 :: u270 :: u271 :: u272 :: u273 :: u274 :: u275 :: u276 :: u277 :: u278 :: u279 :: u280 :: u281 :: u282 :: u283 :: u284 :: u285 :: u286 :: u287 :: u288 :: u289 :: u290 :: u291 :: u292 :: u293 :: u294 :: u295 :: u296 :: u297 :: u298 :: u299 :: u300 :: u301 :: u302 :: u303 :: u304 :: u305 :: u306 :: u307 :: u308 :: u309 :: u310 :: u311 :: u312 :: u313 :: u314 :: u315 :: u316 :: u317 :: u318 :: u319 :: u320 :: u321 :: u322 :: u323 :: u324 :: u325 :: u326 :: u327 :: u328 :: u329 :: u330 :: u331 :: u332 :: u333 :: u334 :: u335 :: u336 :: u337 :: u338 :: u339 :: u340 :: u341 :: u342 :: u343 :: u344 :: u345 :: u346 :: u347 :: u348 :: u349 :: u350 :: u351 :: u352 :: u353 :: u354 :: u355 :: u356 :: u357 :: u358 :: u359 :: u360 :: u361 :: u362 :: u363 :: u364 :: u365 :: u366 :: u367 :: u368 :: u369 :: u370 :: u371 :: u372 :: u373 :: u374 :: u375 :: u376 :: u377 :: u378 :: [])), []⟩ wx) →
      Code.wp Try.prog spC45 Q2 ⟨(List.toArray ((.int .i64 a0) :: (.int .i64 a1) :: (.slice a2 len2 cap2) :: u3 :: u4 :: u5 :: u6 :: (.pointer (some ⟨G, 0, none⟩)) :: u8 :: (.pointer (some ⟨b, 0, none⟩)) :: (.pointer (some ⟨W, 0, none⟩)) :: u11 :: (.pointer (some ⟨F, 0, none⟩)) :: u13 :: (.pointer (some ⟨p, 0, none⟩)) :: (.slice (some ⟨gA, 0, none⟩) n ca) :: (.slice (some ⟨gB, 0, none⟩) n cb) :: (.int .i64 k) :: u18 :: u19 :: u20 :: u21 :: u22 :: (.int .i64 kk) :: (.int .i64 page) :: u25 :: u26 :: u27 :: u28 :: u29 :: u30 :: u31 :: u32 :: u33 :: u34 :: u35 :: u36 :: u37 :: u38 :: u39 :: u40 :: u41 :: u42 :: u43 :: u44 :: u45 :: u46 :: u47 :: u48 :: u49 :: u50 :: u51 :: u52 :: u53 :: u54 :: u55 :: u56 :: u57 :: u58 :: u59 :: u60 :: u61 :: u62 :: u63 :: u64 :: u65 :: u66 :: u67 :: u68 :: u69 :: u70 :: u71 :: u72 :: u73 :: u74 :: u75 :: u76 :: u77 :: u78 :: u79 :: u80 :: u81 :: u82 :: u83 :: u84 :: u85 :: u86 :: u87 :: u88 :: u89 :: u90 :: u91 :: u92 :: u93 :: u94 :: u95 :: u96 :: u97 :: u98 :: u99 :: u100 :: u101 :: u102 :: u103 :: u104 :: u105 :: u106 :: u107 :: u108 :: u109 :: u110 :: u111 :: u112 :: u113 :: u114 :: u115 :: u116 :: u117 :: u118 :: u119 :: u120 :: u121 :: u122 :: u123 :: u124 :: u125 :: u126 :: u127 :: u128 :: u129 :: u130 :: u131 :: u132 :: u133 :: u134 :: u135 :: u136 :: u137 :: u138 :: u139 :: u140 :: u141 :: u142 :: u143 :: u144 :: u145 :: u146 :: u147 :: u148 :: u149 :: u150 :: u151 :: u152 :: u153 :: u154 :: u155 :: u156 :: u157 :: u158 :: u159 :: u160 :: u161 :: u162 :: u163 :: u164 :: u165 :: u166 :: u167 :: u168 :: u169 :: u170 :: u171 :: u172 :: u173 :: u174 :: u175 :: u176 :: u177 :: u178 :: u179 :: u180 :: u181 :: u182 :: u183 :: u184 :: u185 :: u186 :: u187 :: u188 :: u189 :: u190 :: u191 :: u192 :: u193 :: u194 :: u195 :: u196 :: u197 :: u198 :: u199 :: u200 :: u201 :: u202 :: u203 :: u204 :: u205 :: u206 :: u207 :: u208 :: u209 :: u210 :: u211 :: u212 :: u213 :: u214 :: u215 :: u216 :: u217 :: u218 :: u219 :: u220 :: u221 :: u222 :: u223 :: u224 :: u225 :: u226 :: u227 :: u228 :: u229 :: u230 :: u231 :: u232 :: u233 :: u234 :: u235 :: u236 :: u237 :: u238 :: u239 :: u240 :: u241 :: u242 :: u243 :: u244 :: u245 :: u246 :: u247 :: u248 :: u249 :: u250 :: u251 :: u252 :: u253 :: u254 :: u255 :: u256 :: u257 :: u258 :: u259 :: u260 :: u261 :: u262 :: u263 :: u264 :: u265 :: u266 :: u267 :: u268 :: u269 :: u270 :: u271 :: u272 :: u273 :: u274 :: u275 :: u276 :: u277 :: u278 :: u279 :: u280 :: u281 :: u282 :: u283 :: u284 :: u285 :: u286 :: u287 :: u288 :: u289 :: u290 :: u291 :: u292 :: u293 :: u294 :: u295 :: u296 :: u297 :: u298 :: u299 :: u300 :: u301 :: u302 :: u303 :: u304 :: u305 :: u306 :: u307 :: u308 :: u309 :: u310 :: u311 :: u312 :: u313 :: u314 :: u315 :: u316 :: u317 :: u318 :: u319 :: u320 :: u321 :: u322 :: u323 :: u324 :: u325 :: u326 :: u327 :: u328 :: u329 :: u330 :: u331 :: u332 :: u333 :: u334 :: u335 :: u336 :: u337 :: u338 :: u339 :: u340 :: u341 :: u342 :: u343 :: u344 :: u345 :: u346 :: u347 :: u348 :: u349 :: u350 :: u351 :: u352 :: u353 :: u354 :: u355 :: u356 :: u357 :: u358 :: u359 :: u360 :: u361 :: u362 :: u363 :: u364 :: u365 :: u366 :: u367 :: u368 :: u369 :: u370 :: u371 :: u372 :: u373 :: u374 :: u375 :: u376 :: u377 :: u378 :: [])), []⟩ wx)
    (hn1 : 1 ≤ n) (hIk : 3 * n ≤ k) (hA : Al w wr b c p W y cw cc co cr G F N P kpti inv (some ⟨gA, 0, none⟩) ca (some ⟨gB, 0, none⟩) cb R s I) (g1 : k + 2 < len2) (g2 : k < 75) (hv0 : z2.getD k 0 % 12 ≠ 0) (hv1 : ¬ (z2.getD k 0 % 12 = 1 ∧ 1 < n)) :
    Code.wp Try.prog spBody (Exit.then K Q) ⟨(List.toArray ((.int .i64 a0) :: (.int .i64 a1) :: (.slice a2 len2 cap2) :: u3 :: u4 :: u5 :: u6 :: (.pointer (some ⟨G, 0, none⟩)) :: u8 :: (.pointer (some ⟨b, 0, none⟩)) :: (.pointer (some ⟨W, 0, none⟩)) :: u11 :: (.pointer (some ⟨F, 0, none⟩)) :: u13 :: (.pointer (some ⟨p, 0, none⟩)) :: (.slice (some ⟨gA, 0, none⟩) n ca) :: (.slice (some ⟨gB, 0, none⟩) n cb) :: (.int .i64 k) :: u18 :: u19 :: u20 :: u21 :: u22 :: u23 :: u24 :: u25 :: u26 :: u27 :: u28 :: u29 :: u30 :: u31 :: u32 :: u33 :: u34 :: u35 :: u36 :: u37 :: u38 :: u39 :: u40 :: u41 :: u42 :: u43 :: u44 :: u45 :: u46 :: u47 :: u48 :: u49 :: u50 :: u51 :: u52 :: u53 :: u54 :: u55 :: u56 :: u57 :: u58 :: u59 :: u60 :: u61 :: u62 :: u63 :: u64 :: u65 :: u66 :: u67 :: u68 :: u69 :: u70 :: u71 :: u72 :: u73 :: u74 :: u75 :: u76 :: u77 :: u78 :: u79 :: u80 :: u81 :: u82 :: u83 :: u84 :: u85 :: u86 :: u87 :: u88 :: u89 :: u90 :: u91 :: u92 :: u93 :: u94 :: u95 :: u96 :: u97 :: u98 :: u99 :: u100 :: u101 :: u102 :: u103 :: u104 :: u105 :: u106 :: u107 :: u108 :: u109 :: u110 :: u111 :: u112 :: u113 :: u114 :: u115 :: u116 :: u117 :: u118 :: u119 :: u120 :: u121 :: u122 :: u123 :: u124 :: u125 :: u126 :: u127 :: u128 :: u129 :: u130 :: u131 :: u132 :: u133 :: u134 :: u135 :: u136 :: u137 :: u138 :: u139 :: u140 :: u141 :: u142 :: u143 :: u144 :: u145 :: u146 :: u147 :: u148 :: u149 :: u150 :: u151 :: u152 :: u153 :: u154 :: u155 :: u156 :: u157 :: u158 :: u159 :: u160 :: u161 :: u162 :: u163 :: u164 :: u165 :: u166 :: u167 :: u168 :: u169 :: u170 :: u171 :: u172 :: u173 :: u174 :: u175 :: u176 :: u177 :: u178 :: u179 :: u180 :: u181 :: u182 :: u183 :: u184 :: u185 :: u186 :: u187 :: u188 :: u189 :: u190 :: u191 :: u192 :: u193 :: u194 :: u195 :: u196 :: u197 :: u198 :: u199 :: u200 :: u201 :: u202 :: u203 :: u204 :: u205 :: u206 :: u207 :: u208 :: u209 :: u210 :: u211 :: u212 :: u213 :: u214 :: u215 :: u216 :: u217 :: u218 :: u219 :: u220 :: u221 :: u222 :: u223 :: u224 :: u225 :: u226 :: u227 :: u228 :: u229 :: u230 :: u231 :: u232 :: u233 :: u234 :: u235 :: u236 :: u237 :: u238 :: u239 :: u240 :: u241 :: u242 :: u243 :: u244 :: u245 :: u246 :: u247 :: u248 :: u249 :: u250 :: u251 :: u252 :: u253 :: u254 :: u255 :: u256 :: u257 :: u258 :: u259 :: u260 :: u261 :: u262 :: u263 :: u264 :: u265 :: u266 :: u267 :: u268 :: u269 :: u270 :: u271 :: u272 :: u273 :: u274 :: u275 :: u276 :: u277 :: u278 :: u279 :: u280 :: u281 :: u282 :: u283 :: u284 :: u285 :: u286 :: u287 :: u288 :: u289 :: u290 :: u291 :: u292 :: u293 :: u294 :: u295 :: u296 :: u297 :: u298 :: u299 :: u300 :: u301 :: u302 :: u303 :: u304 :: u305 :: u306 :: u307 :: u308 :: u309 :: u310 :: u311 :: u312 :: u313 :: u314 :: u315 :: u316 :: u317 :: u318 :: u319 :: u320 :: u321 :: u322 :: u323 :: u324 :: u325 :: u326 :: u327 :: u328 :: u329 :: u330 :: u331 :: u332 :: u333 :: u334 :: u335 :: u336 :: u337 :: u338 :: u339 :: u340 :: u341 :: u342 :: u343 :: u344 :: u345 :: u346 :: u347 :: u348 :: u349 :: u350 :: u351 :: u352 :: u353 :: u354 :: u355 :: u356 :: u357 :: u358 :: u359 :: u360 :: u361 :: u362 :: u363 :: u364 :: u365 :: u366 :: u367 :: u368 :: u369 :: u370 :: u371 :: u372 :: u373 :: u374 :: u375 :: u376 :: u377 :: u378 :: [])), []⟩ wr := by
  replace hK : Hid _ := hK
  replace h45 : Hid _ := h45
  conv => arg 2; whnf
  obtain ⟨_, p2⟩ := p2
  rcases p2 with p2 | ⟨b0, o0, rfl, hb0, hc0⟩
  · omega
  have cz := fun wx (t : Touch Nil wr wx) j (hj : j < len2) => Plain.cell hc0 hb0 ((hA.nil t).rl.t.below (Nat.le_refl _) (fun _ e => e.elim)) j hj
  have cw := fun j (hj : j < len2) => bounds_i64 (hc0 j hj).2
  have c0 := cz wr (Touch.refl Nil wr) k (by omega)
  have r0 := cw k (by omega)
  generalize z2.getD k 0 = y0 at *
  have k1 : (k : Int) + 2 < len2 := by omega
  have k2 : (k : Int) < 75 := by omega
  have k5 : (k : Int) < len2 := by omega
  refine wp_seq_k (fun K1 h1 => ?_)
  replace h1 : Hid _ := h1
  go_wp2_with fail
  refine h1.out _ _ ?_
  refine wp_seq_k (fun K2 h2 => ?_)
  replace h2 : Hid _ := h2
  go_wp2_with fail
  have hW := within_any y0 12 wr (by decide) (by decide)
  obtain ⟨m, hm⟩ : ∃ m : Int, y0 % 12 = m := ⟨_, rfl⟩
  rw [hm] at hW hv0 hv1
  with_reducible refine hW.mono ?_
  rintro e wq ⟨rfl, rfl⟩
  have m0 : (m == 0) = false := by simpa using hv0
  have q0 : (((n : Int)) == 0) = false := by simp; omega
  clear hW
  have hb := heap_alloc_new wr (.cells tenL 3)
  have tL := (Touch.refl Nil wr).alloc (.cells tenL 3)
  have c1 := cz _ tL (k + 1) (by omega)
  have r1 := cw (k + 1) (by omega)
  generalize z2.getD (k + 1) 0 = y1 at *
  have hU := within_any y1 10 (wr.alloc (.cells tenL 3)) (by decide) (by decide)
  obtain ⟨j, hj, hj'⟩ : ∃ j : Nat, j < 10 ∧ y1 % 10 = j := ⟨(y1 % 10).toNat, by omega, by omega⟩
  rw [hj'] at hU
  obtain ⟨pg, hpg, cT⟩ : ∃ pg : Int, (-1000000000000000000 ≤ pg ∧ pg ≤ 1000000000000000000) ∧ (wr.alloc (.cells tenL 3)).cell? ⟨wr.heap.size, j, none⟩ = some (.int .i64 pg) := by
    unfold World.cell?
    rw [hb]
    rcases (by omega : j = 0 ∨ j = 1 ∨ j = 2 ∨ j = 3 ∨ j = 4 ∨ j = 5 ∨ j = 6 ∨ j = 7 ∨ j = 8 ∨ j = 9) with rfl | rfl | rfl | rfl | rfl | rfl | rfl | rfl | rfl | rfl <;> exact ⟨_, by constructor <;> decide, rfl⟩
  have j1 : (j : Int) < 10 := by omega
  have v0 := tdiv_two y1 11 (by omega)
  have v1 : IntKind.i64.wrap (y1.tdiv 11) = y1.tdiv 11 := by rw [IntKind.wrap_i64]; omega
  have v2 : -1000000000000000000 ≤ y1.tdiv 11 ∧ y1.tdiv 11 ≤ 1000000000000000000 := by omega
  have hAL := hA.nil tL
  clear hb
  unfold tenL at *
  have q1 : (m == 1) = true → ¬ (1 : Int) < n := fun e => by simp at e; omega
  have qt : IntKind.i64.wrap (y0.tdiv 12) = y0.tdiv 12 := by rw [IntKind.wrap_i64]; have := tdiv_two y0 12 (by omega); omega
  have hV := within_any (y0.tdiv 12) n wr (by omega) (by omega)
  obtain ⟨kk, hkk, hk'⟩ : ∃ kk : Nat, kk < n ∧ (y0.tdiv 12) % (n : Int) = kk := ⟨((y0.tdiv 12) % (n : Int)).toNat, by
    have := Int.emod_nonneg (y0.tdiv 12) (b := (n : Int)) (by omega)
    have := Int.emod_lt_of_pos (y0.tdiv 12) (b := (n : Int)) (by omega)
    omega, by
    have := Int.emod_nonneg (y0.tdiv 12) (b := (n : Int)) (by omega)
    omega⟩
  rw [hk'] at hV
  go_wp2_with fail
  all_goals try (exfalso; simp_all; omega)
  all_goals with_reducible refine hV.mono ?_
  all_goals rintro e wq ⟨rfl, rfl⟩
  all_goals go_wp2_with fail
  all_goals with_reducible refine hU.mono ?_
  all_goals rintro e wq ⟨rfl, rfl⟩
  all_goals go_upto_region 43 with fail
  all_goals rename_i K3 h3 K4 h4
  all_goals replace h3 : Hid _ := h3
  all_goals go_wp2_with fail
  all_goals refine h3.out _ _ ?_
  all_goals refine h45.out _ _ _ _ _ _ _ _ _ _ _ _ _ _ _ _ _ _ _ _ _ _ _ _ _ _ _ _ _ _ _ _ _ _ _ _ _ _ _ _ _ _ _ _ _ _ _ _ _ _ _ _ _ _ _ _ _ _ _ _ _ _ _ _ _ _ _ _ _ _ _ _ _ _ _ _ _ _ _ _ _ _ _ _ _ _ _ _ _ _ _ _ _ _ _ _ _ _ _ _ _ _ _ _ _ _ _ _ _ _ _ _ _ _ _ _ _ _ _ _ _ _ _ _ _ _ _ _ _ _ _ _ _ _ _ _ _ _ _ _ _ _ _ _ _ _ _ _ _ _ _ _ _ _ _ _ _ _ _ _ _ _ _ _ _ _ _ _ _ _ _ _ _ _ _ _ _ _ _ _ _ _ _ _ _ _ _ _ _ _ _ _ _ _ _ _ _ _ _ _ _ _ _ _ _ _ _ _ _ _ _ _ _ _ _ _ _ _ _ _ _ _ _ _ _ _ _ _ _ _ _ _ _ _ _ _ _ _ _ _ _ _ _ _ _ _ _ _ _ _ _ _ _ _ _ _ _ _ _ _ _ _ _ _ _ _ _ _ _ _ _ _ _ _ _ _ _ _ _ _ _ _ _ _ _ _ _ _ _ _ _ _ _ _ _ _ _ _ _ _ _ _ _ _ _ _ _ _ _ _ _ _ _ _ _ _ _ _ _ _ _ _ _ _ _ _ _ _ _ _ _ _ _ _ _ _ _ _ _ _ _ _ _ _ _ _ _ _ _ _ _ _ _ _ _ _ _ _ _ _ _ _ _ _ _ _ _ _ _ _ hkk (by first | exact hpg | exact v2) hAL ?_
  all_goals clear h3 hAL cz c0 c1 cT hU hV tL hA
  all_goals intros
  all_goals rename_i R' s' I' wx hl hA'
  all_goals refine h2.out _ _ ?_
  all_goals go_wp2_with fail
  all_goals exact hK.out _ _ _ _ _ _ _ _ _ _ _ _ _ _ _ _ _ _ _ _ _ _ _ _ _ _ _ _ _ _ _ _ _ _ _ _ _ _ _ _ _ _ _ _ _ _ _ _ _ _ _ _ _ _ _ _ _ _ _ _ _ _ _ _ _ _ _ _ _ _ _ _ _ _ _ _ _ _ _ _ _ _ _ _ _ _ _ _ _ _ _ _ _ _ _ _ _ _ _ _ _ _ _ _ _ _ _ _ _ _ _ _ _ _ _ _ _ _ _ _ _ _ _ _ _ _ _ _ _ _ _ _ _ _ _ _ _ _ _ _ _ _ _ _ _ _ _ _ _ _ _ _ _ _ _ _ _ _ _ _ _ _ _ _ _ _ _ _ _ _ _ _ _ _ _ _ _ _ _ _ _ _ _ _ _ _ _ _ _ _ _ _ _ _ _ _ _ _ _ _ _ _ _ _ _ _ _ _ _ _ _ _ _ _ _ _ _ _ _ _ _ _ _ _ _ _ _ _ _ _ _ _ _ _ _ _ _ _ _ _ _ _ _ _ _ _ _ _ _ _ _ _ _ _ _ _ _ _ _ _ _ _ _ _ _ _ _ _ _ _ _ _ _ _ _ _ _ _ _ _ _ _ _ _ _ _ _ _ _ _ _ _ _ _ _ _ _ _ _ _ _ _ _ _ _ _ _ _ _ _ _ _ _ _ _ _ _ _ _ _ _ _ _ _ _ _ _ _ _ _ _ _ _ _ _ _ _ _ _ _ _ _ _ _ _ _ _ _ _ _ _ _ _ _ _ _ _ _ _ _ _ _ _ _ _ _ _ _ _ _ _ _ _ _ _ _ _ hl.symm hA' (by omega)
end Go.Proofs.Ytoododpeoffieaa
/-
  The walk of SpacePlays: a round that sets a page, whole.
-/
namespace Go.Proofs.Ytoododpeoffieaa
open Go.ChangeShapes Go.WideShapes Go.ChangeAt Go.RowKit

set_option maxRecDepth 100000 in
set_option maxHeartbeats 16000000 in
theorem spSet {K : Act → World → Prop} {Q : Exit → Act → World → Prop} (a0 a1 : Int) (a2 : Option Addr) (len2 cap2 : Nat) (z2 : List Int) (w : World) (p2 : Plain .i64 w a2 len2 z2)
    (u3 u4 u5 u6 u8 u11 u13 u18 u19 u20 u21 u22 u23 u24 u25 u26 u27 u28 u29 u30 u31 u32 u33 u34 u35 u36 u37 u38 u39 u40 u41 u42 u43 u44 u45 u46 u47 u48 u49 u50 u51 u52 u53 u54 u55 u56 u57 u58 u59 u60 u61 u62 u63 u64 u65 u66 u67 u68 u69 u70 u71 u72 u73 u74 u75 u76 u77 u78 u79 u80 u81 u82 u83 u84 u85 u86 u87 u88 u89 u90 u91 u92 u93 u94 u95 u96 u97 u98 u99 u100 u101 u102 u103 u104 u105 u106 u107 u108 u109 u110 u111 u112 u113 u114 u115 u116 u117 u118 u119 u120 u121 u122 u123 u124 u125 u126 u127 u128 u129 u130 u131 u132 u133 u134 u135 u136 u137 u138 u139 u140 u141 u142 u143 u144 u145 u146 u147 u148 u149 u150 u151 u152 u153 u154 u155 u156 u157 u158 u159 u160 u161 u162 u163 u164 u165 u166 u167 u168 u169 u170 u171 u172 u173 u174 u175 u176 u177 u178 u179 u180 u181 u182 u183 u184 u185 u186 u187 u188 u189 u190 u191 u192 u193 u194 u195 u196 u197 u198 u199 u200 u201 u202 u203 u204 u205 u206 u207 u208 u209 u210 u211 u212 u213 u214 u215 u216 u217 u218 u219 u220 u221 u222 u223 u224 u225 u226 u227 u228 u229 u230 u231 u232 u233 u234 u235 u236 u237 u238 u239 u240 u241 u242 u243 u244 u245 u246 u247 u248 u249 u250 u251 u252 u253 u254 u255 u256 u257 u258 u259 u260 u261 u262 u263 u264 u265 u266 u267 u268 u269 u270 u271 u272 u273 u274 u275 u276 u277 u278 u279 u280 u281 u282 u283 u284 u285 u286 u287 u288 u289 u290 u291 u292 u293 u294 u295 u296 u297 u298 u299 u300 u301 u302 u303 u304 u305 u306 u307 u308 u309 u310 u311 u312 u313 u314 u315 u316 u317 u318 u319 u320 u321 u322 u323 u324 u325 u326 u327 u328 u329 u330 u331 u332 u333 u334 u335 u336 u337 u338 u339 u340 u341 u342 u343 u344 u345 u346 u347 u348 u349 u350 u351 u352 u353 u354 u355 u356 u357 u358 u359 u360 u361 u362 u363 u364 u365 u366 u367 u368 u369 u370 u371 u372 u373 u374 u375 u376 u377 u378 : Value) (G b c p W : Nat) (y : RW) (cw cc co cr F : Nat) (N P : Int) (kpti inv : Bool) (k n : Nat) (gA gB : Nat) (ca cb : Nat) (R : Nat → Int) (s : MS) (I : List Itm) (wr : World)
    (hK : SpK K a0 a1 a2 len2 cap2 w G b c p W y cw cc co cr F N P kpti inv k) (hn : I.length = n)
    (hn1 : 1 ≤ n) (hIk : 3 * n ≤ k) (hA : Al w wr b c p W y cw cc co cr G F N P kpti inv (some ⟨gA, 0, none⟩) ca (some ⟨gB, 0, none⟩) cb R s I) (g1 : k + 2 < len2) (g2 : k < 75) (hv0 : z2.getD k 0 % 12 ≠ 0) (hv1 : ¬ (z2.getD k 0 % 12 = 1 ∧ 1 < n)) :
    Code.wp Try.prog spBody (Exit.then K Q) ⟨(List.toArray ((.int .i64 a0) :: (.int .i64 a1) :: (.slice a2 len2 cap2) :: u3 :: u4 :: u5 :: u6 :: (.pointer (some ⟨G, 0, none⟩)) :: u8 :: (.pointer (some ⟨b, 0, none⟩)) :: (.pointer (some ⟨W, 0, none⟩)) :: u11 :: (.pointer (some ⟨F, 0, none⟩)) :: u13 :: (.pointer (some ⟨p, 0, none⟩)) :: (.slice (some ⟨gA, 0, none⟩) n ca) :: (.slice (some ⟨gB, 0, none⟩) n cb) :: (.int .i64 k) :: u18 :: u19 :: u20 :: u21 :: u22 :: u23 :: u24 :: u25 :: u26 :: u27 :: u28 :: u29 :: u30 :: u31 :: u32 :: u33 :: u34 :: u35 :: u36 :: u37 :: u38 :: u39 :: u40 :: u41 :: u42 :: u43 :: u44 :: u45 :: u46 :: u47 :: u48 :: u49 :: u50 :: u51 :: u52 :: u53 :: u54 :: u55 :: u56 :: u57 :: u58 :: u59 :: u60 :: u61 :: u62 :: u63 :: u64 :: u65 :: u66 :: u67 :: u68 :: u69 :: u70 :: u71 :: u72 :: u73 :: u74 :: u75 :: u76 :: u77 :: u78 :: u79 :: u80 :: u81 :: u82 :: u83 :: u84 :: u85 :: u86 :: u87 :: u88 :: u89 :: u90 :: u91 :: u92 :: u93 :: u94 :: u95 :: u96 :: u97 :: u98 :: u99 :: u100 :: u101 :: u102 :: u103 :: u104 :: u105 :: u106 :: u107 :: u108 :: u109 :: u110 :: u111 :: u112 :: u113 :: u114 :: u115 :: u116 :: u117 :: u118 :: u119 :: u120 :: u121 :: u122 :: u123 :: u124 :: u125 :: u126 :: u127 :: u128 :: u129 :: u130 :: u131 :: u132 :: u133 :: u134 :: u135 :: u136 :: u137 :: u138 :: u139 :: u140 :: u141 :: u142 :: u143 :: u144 :: u145 :: u146 :: u147 :: u148 :: u149 :: u150 :: u151 :: u152 :: u153 :: u154 :: u155 :: u156 :: u157 :: u158 :: u159 :: u160 :: u161 :: u162 :: u163 :: u164 :: u165 :: u166 :: u167 :: u168 :: u169 :: u170 :: u171 :: u172 :: u173 :: u174 :: u175 :: u176 :: u177 :: u178 :: u179 :: u180 :: u181 :: u182 :: u183 :: u184 :: u185 :: u186 :: u187 :: u188 :: u189 :: u190 :: u191 :: u192 :: u193 :: u194 :: u195 :: u196 :: u197 :: u198 :: u199 :: u200 :: u201 :: u202 :: u203 :: u204 :: u205 :: u206 :: u207 :: u208 :: u209 :: u210 :: u211 :: u212 :: u213 :: u214 :: u215 :: u216 :: u217 :: u218 :: u219 :: u220 :: u221 :: u222 :: u223 :: u224 :: u225 :: u226 :: u227 :: u228 :: u229 :: u230 :: u231 :: u232 :: u233 :: u234 :: u235 :: u236 :: u237 :: u238 :: u239 :: u240 :: u241 :: u242 :: u243 :: u244 :: u245 :: u246 :: u247 :: u248 :: u249 :: u250 :: u251 :: u252 :: u253 :: u254 :: u255 :: u256 :: u257 :: u258 :: u259 :: u260 :: u261 :: u262 :: u263 :: u264 :: u265 :: u266 :: u267 :: u268 :: u269 :: u270 :: u271 :: u272 :: u273 :: u274 :: u275 :: u276 :: u277 :: u278 :: u279 :: u280 :: u281 :: u282 :: u283 :: u284 :: u285 :: u286 :: u287 :: u288 :: u289 :: u290 :: u291 :: u292 :: u293 :: u294 :: u295 :: u296 :: u297 :: u298 :: u299 :: u300 :: u301 :: u302 :: u303 :: u304 :: u305 :: u306 :: u307 :: u308 :: u309 :: u310 :: u311 :: u312 :: u313 :: u314 :: u315 :: u316 :: u317 :: u318 :: u319 :: u320 :: u321 :: u322 :: u323 :: u324 :: u325 :: u326 :: u327 :: u328 :: u329 :: u330 :: u331 :: u332 :: u333 :: u334 :: u335 :: u336 :: u337 :: u338 :: u339 :: u340 :: u341 :: u342 :: u343 :: u344 :: u345 :: u346 :: u347 :: u348 :: u349 :: u350 :: u351 :: u352 :: u353 :: u354 :: u355 :: u356 :: u357 :: u358 :: u359 :: u360 :: u361 :: u362 :: u363 :: u364 :: u365 :: u366 :: u367 :: u368 :: u369 :: u370 :: u371 :: u372 :: u373 :: u374 :: u375 :: u376 :: u377 :: u378 :: [])), []⟩ wr := by
  refine spSet1 a0 a1 a2 len2 cap2 z2 w p2 _ _ _ _ _ _ _ _ _ _ _ _ _ _ _ _ _ _ _ _ _ _ _ _ _ _ _ _ _ _ _ _ _ _ _ _ _ _ _ _ _ _ _ _ _ _ _ _ _ _ _ _ _ _ _ _ _ _ _ _ _ _ _ _ _ _ _ _ _ _ _ _ _ _ _ _ _ _ _ _ _ _ _ _ _ _ _ _ _ _ _ _ _ _ _ _ _ _ _ _ _ _ _ _ _ _ _ _ _ _ _ _ _ _ _ _ _ _ _ _ _ _ _ _ _ _ _ _ _ _ _ _ _ _ _ _ _ _ _ _ _ _ _ _ _ _ _ _ _ _ _ _ _ _ _ _ _ _ _ _ _ _ _ _ _ _ _ _ _ _ _ _ _ _ _ _ _ _ _ _ _ _ _ _ _ _ _ _ _ _ _ _ _ _ _ _ _ _ _ _ _ _ _ _ _ _ _ _ _ _ _ _ _ _ _ _ _ _ _ _ _ _ _ _ _ _ _ _ _ _ _ _ _ _ _ _ _ _ _ _ _ _ _ _ _ _ _ _ _ _ _ _ _ _ _ _ _ _ _ _ _ _ _ _ _ _ _ _ _ _ _ _ _ _ _ _ _ _ _ _ _ _ _ _ _ _ _ _ _ _ _ _ _ _ _ _ _ _ _ _ _ _ _ _ _ _ _ _ _ _ _ _ _ _ _ _ _ _ _ _ _ _ _ _ _ _ _ _ _ _ _ _ _ _ _ _ _ _ _ _ _ _ _ _ _ _ _ _ _ _ _ _ _ _ _ _ _ _ _ _ _ _ _ _ _ _ _ _ G b c p W y cw cc co cr F N P kpti inv k n gA gB ca cb R s I wr hK ?_ hn1 hIk hA g1 g2 hv0 hv1
  clear hA hK
  intros
  rename_i kk page wx hkk hpg hA1 hQ
  obtain ⟨i, hi⟩ : ∃ i, I[kk]? = some i := ⟨I[kk]'(by omega), List.getElem?_eq_getElem _⟩
  refine spSet2 a0 a1 a2 len2 cap2 w _ _ _ _ _ _ _ _ _ _ _ _ _ _ _ _ _ _ _ _ _ _ _ _ _ _ _ _ _ _ _ _ _ _ _ _ _ _ _ _ _ _ _ _ _ _ _ _ _ _ _ _ _ _ _ _ _ _ _ _ _ _ _ _ _ _ _ _ _ _ _ _ _ _ _ _ _ _ _ _ _ _ _ _ _ _ _ _ _ _ _ _ _ _ _ _ _ _ _ _ _ _ _ _ _ _ _ _ _ _ _ _ _ _ _ _ _ _ _ _ _ _ _ _ _ _ _ _ _ _ _ _ _ _ _ _ _ _ _ _ _ _ _ _ _ _ _ _ _ _ _ _ _ _ _ _ _ _ _ _ _ _ _ _ _ _ _ _ _ _ _ _ _ _ _ _ _ _ _ _ _ _ _ _ _ _ _ _ _ _ _ _ _ _ _ _ _ _ _ _ _ _ _ _ _ _ _ _ _ _ _ _ _ _ _ _ _ _ _ _ _ _ _ _ _ _ _ _ _ _ _ _ _ _ _ _ _ _ _ _ _ _ _ _ _ _ _ _ _ _ _ _ _ _ _ _ _ _ _ _ _ _ _ _ _ _ _ _ _ _ _ _ _ _ _ _ _ _ _ _ _ _ _ _ _ _ _ _ _ _ _ _ _ _ _ _ _ _ _ _ _ _ _ _ _ _ _ _ _ _ _ _ _ _ _ _ _ _ _ _ _ _ _ _ _ _ _ _ _ _ _ _ _ _ _ _ _ _ _ _ _ _ _ _ _ _ _ _ _ _ _ _ _ _ _ _ _ _ _ _ _ _ _ _ _ _ G b c p W y cw cc co cr F N P kpti inv k kk n page gA gB ca cb R s I i wx ?_ hn hi hpg hA1
  clear hA1
  intros
  rename_i wx2 hA2
  refine spSet3 a0 a1 a2 len2 cap2 z2 w p2 _ _ _ _ _ _ _ _ _ _ _ _ _ _ _ _ _ _ _ _ _ _ _ _ _ _ _ _ _ _ _ _ _ _ _ _ _ _ _ _ _ _ _ _ _ _ _ _ _ _ _ _ _ _ _ _ _ _ _ _ _ _ _ _ _ _ _ _ _ _ _ _ _ _ _ _ _ _ _ _ _ _ _ _ _ _ _ _ _ _ _ _ _ _ _ _ _ _ _ _ _ _ _ _ _ _ _ _ _ _ _ _ _ _ _ _ _ _ _ _ _ _ _ _ _ _ _ _ _ _ _ _ _ _ _ _ _ _ _ _ _ _ _ _ _ _ _ _ _ _ _ _ _ _ _ _ _ _ _ _ _ _ _ _ _ _ _ _ _ _ _ _ _ _ _ _ _ _ _ _ _ _ _ _ _ _ _ _ _ _ _ _ _ _ _ _ _ _ _ _ _ _ _ _ _ _ _ _ _ _ _ _ _ _ _ _ _ _ _ _ _ _ _ _ _ _ _ _ _ _ _ _ _ _ _ _ _ _ _ _ _ _ _ _ _ _ _ _ _ _ _ _ _ _ _ _ _ _ _ _ _ _ _ _ _ _ _ _ _ _ _ _ _ _ _ _ _ _ _ _ _ _ _ _ _ _ _ _ _ _ _ _ _ _ _ _ _ _ _ _ _ _ _ _ _ _ _ _ _ _ _ _ _ _ _ _ _ _ _ _ _ _ _ _ _ _ _ _ _ _ _ _ _ _ _ _ _ _ _ _ _ _ _ _ _ _ _ _ _ _ _ _ _ _ _ _ _ _ _ _ _ _ _ _ _ _ G b c p W y cw cc co cr F N P kpti inv k kk n page gA gB ca cb R s I i wx2 ?_ hn hi hA2 g1 g2
  clear hA2
  intros
  rename_i R' s' I' i' wx3 hl hi' hA3
  refine spSet4 a0 a1 a2 len2 cap2 w _ _ _ _ _ _ _ _ _ _ _ _ _ _ _ _ _ _ _ _ _ _ _ _ _ _ _ _ _ _ _ _ _ _ _ _ _ _ _ _ _ _ _ _ _ _ _ _ _ _ _ _ _ _ _ _ _ _ _ _ _ _ _ _ _ _ _ _ _ _ _ _ _ _ _ _ _ _ _ _ _ _ _ _ _ _ _ _ _ _ _ _ _ _ _ _ _ _ _ _ _ _ _ _ _ _ _ _ _ _ _ _ _ _ _ _ _ _ _ _ _ _ _ _ _ _ _ _ _ _ _ _ _ _ _ _ _ _ _ _ _ _ _ _ _ _ _ _ _ _ _ _ _ _ _ _ _ _ _ _ _ _ _ _ _ _ _ _ _ _ _ _ _ _ _ _ _ _ _ _ _ _ _ _ _ _ _ _ _ _ _ _ _ _ _ _ _ _ _ _ _ _ _ _ _ _ _ _ _ _ _ _ _ _ _ _ _ _ _ _ _ _ _ _ _ _ _ _ _ _ _ _ _ _ _ _ _ _ _ _ _ _ _ _ _ _ _ _ _ _ _ _ _ _ _ _ _ _ _ _ _ _ _ _ _ _ _ _ _ _ _ _ _ _ _ _ _ _ _ _ _ _ _ _ _ _ _ _ _ _ _ _ _ _ _ _ _ _ _ _ _ _ _ _ _ _ _ _ _ _ _ _ _ _ _ _ _ _ _ _ _ _ _ _ _ _ _ _ _ _ _ _ _ _ _ _ _ _ _ _ _ _ _ _ _ _ _ _ _ _ _ _ _ _ _ _ _ _ _ _ _ _ _ _ _ _ G b c p W y cw cc co cr F N P kpti inv k kk n page gA gB ca cb R' s' I' i' wx3 ?_ hl hi' hA3
  clear hA3
  intros
  rename_i wx4 hA4
  exact hQ _ _ _ _ _ _ _ _ _ _ _ _ _ _ _ _ _ _ _ _ _ _ _ _ _ _ _ _ _ _ _ _ _ _ _ _ _ _ _ _ _ _ _ _ _ _ _ _ _ _ _ _ _ _ _ _ _ _ _ _ _ _ _ _ _ _ _ _ _ _ _ _ _ _ _ _ _ _ _ _ _ _ _ _ _ _ _ _ _ _ _ _ _ _ _ _ _ _ _ _ _ _ _ _ _ _ _ _ _ _ _ _ _ _ _ _ _ _ _ _ _ _ _ _ _ _ _ _ _ _ _ _ _ _ _ _ _ _ _ _ _ _ _ _ _ _ _ _ _ _ _ _ _ _ _ _ _ _ _ _ _ _ _ _ _ _ _ _ _ _ _ _ _ _ _ _ _ _ _ _ _ _ _ _ _ _ _ _ _ _ _ _ _ _ _ _ _ _ _ _ _ _ _ _ _ _ _ _ _ _ _ _ _ _ _ _ _ _ _ _ _ _ _ _ _ _ _ _ _ _ _ _ _ _ _ _ _ _ _ _ _ _ _ _ _ _ _ _ _ _ _ _ _ _ _ _ _ _ _ _ _ _ _ _ _ _ _ _ _ _ _ _ _ _ _ _ _ _ _ _ _ _ _ _ _ _ _ _ _ _ _ _ _ _ _ _ _ _ _ _ _ _ _ _ _ _ _ _ _ _ _ _ _ _ _ _ _ _ _ _ _ _ _ _ _ _ _ _ _ _ _ _ _ _ _ _ _ _ _ _ _ _ _ _ _ _ _ _ _ _ _ _ _ _ _ _ _ _ _ _ _ _ _ _ _ _ _ _ R' s' I' wx4 hl hA4
end Go.Proofs.Ytoododpeoffieaa
/-
  The walk of SpacePlays: a round that gives the last space back.
-/
namespace Go.Proofs.Ytoododpeoffieaa
open Go.ChangeShapes Go.WideShapes Go.ChangeAt Go.RowKit

set_option maxRecDepth 100000 in
set_option maxHeartbeats 16000000 in
theorem spDrop {K : Act → World → Prop} {Q : Exit → Act → World → Prop} (a0 a1 : Int) (a2 : Option Addr) (len2 cap2 : Nat) (z2 : List Int) (w : World) (p2 : Plain .i64 w a2 len2 z2)
    (u3 u4 u5 u6 u8 u11 u13 u18 u19 u20 u21 u22 u23 u24 u25 u26 u27 u28 u29 u30 u31 u32 u33 u34 u35 u36 u37 u38 u39 u40 u41 u42 u43 u44 u45 u46 u47 u48 u49 u50 u51 u52 u53 u54 u55 u56 u57 u58 u59 u60 u61 u62 u63 u64 u65 u66 u67 u68 u69 u70 u71 u72 u73 u74 u75 u76 u77 u78 u79 u80 u81 u82 u83 u84 u85 u86 u87 u88 u89 u90 u91 u92 u93 u94 u95 u96 u97 u98 u99 u100 u101 u102 u103 u104 u105 u106 u107 u108 u109 u110 u111 u112 u113 u114 u115 u116 u117 u118 u119 u120 u121 u122 u123 u124 u125 u126 u127 u128 u129 u130 u131 u132 u133 u134 u135 u136 u137 u138 u139 u140 u141 u142 u143 u144 u145 u146 u147 u148 u149 u150 u151 u152 u153 u154 u155 u156 u157 u158 u159 u160 u161 u162 u163 u164 u165 u166 u167 u168 u169 u170 u171 u172 u173 u174 u175 u176 u177 u178 u179 u180 u181 u182 u183 u184 u185 u186 u187 u188 u189 u190 u191 u192 u193 u194 u195 u196 u197 u198 u199 u200 u201 u202 u203 u204 u205 u206 u207 u208 u209 u210 u211 u212 u213 u214 u215 u216 u217 u218 u219 u220 u221 u222 u223 u224 u225 u226 u227 u228 u229 u230 u231 u232 u233 u234 u235 u236 u237 u238 u239 u240 u241 u242 u243 u244 u245 u246 u247 u248 u249 u250 u251 u252 u253 u254 u255 u256 u257 u258 u259 u260 u261 u262 u263 u264 u265 u266 u267 u268 u269 u270 u271 u272 u273 u274 u275 u276 u277 u278 u279 u280 u281 u282 u283 u284 u285 u286 u287 u288 u289 u290 u291 u292 u293 u294 u295 u296 u297 u298 u299 u300 u301 u302 u303 u304 u305 u306 u307 u308 u309 u310 u311 u312 u313 u314 u315 u316 u317 u318 u319 u320 u321 u322 u323 u324 u325 u326 u327 u328 u329 u330 u331 u332 u333 u334 u335 u336 u337 u338 u339 u340 u341 u342 u343 u344 u345 u346 u347 u348 u349 u350 u351 u352 u353 u354 u355 u356 u357 u358 u359 u360 u361 u362 u363 u364 u365 u366 u367 u368 u369 u370 u371 u372 u373 u374 u375 u376 u377 u378 : Value) (G b c p W : Nat) (y : RW) (cw cc co cr F : Nat) (N P : Int) (kpti inv : Bool) (k : Nat) (ga : Option Addr) (ca : Nat) (gb : Option Addr) (cb : Nat) (R : Nat → Int) (s : MS) (J : List Itm) (i : Itm) (L : Nat) (wr : World)
    (hK : SpK K a0 a1 a2 len2 cap2 w G b c p W y cw cc co cr F N P kpti inv k) (hL : J.length = L) (hL1 : 1 ≤ L) (hA : Al w wr b c p W y cw cc co cr G F N P kpti inv ga ca gb cb R s (J ++ [i])) (hIk : 3 * (L + 1) ≤ k) (g1 : k + 2 < len2) (g2 : k < 75) (hv : z2.getD k 0 % 12 = 1) :
    Code.wp Try.prog spBody (Exit.then K Q) ⟨(List.toArray ((.int .i64 a0) :: (.int .i64 a1) :: (.slice a2 len2 cap2) :: u3 :: u4 :: u5 :: u6 :: (.pointer (some ⟨G, 0, none⟩)) :: u8 :: (.pointer (some ⟨b, 0, none⟩)) :: (.pointer (some ⟨W, 0, none⟩)) :: u11 :: (.pointer (some ⟨F, 0, none⟩)) :: u13 :: (.pointer (some ⟨p, 0, none⟩)) :: (.slice ga (L + 1) ca) :: (.slice gb (L + 1) cb) :: (.int .i64 k) :: u18 :: u19 :: u20 :: u21 :: u22 :: u23 :: u24 :: u25 :: u26 :: u27 :: u28 :: u29 :: u30 :: u31 :: u32 :: u33 :: u34 :: u35 :: u36 :: u37 :: u38 :: u39 :: u40 :: u41 :: u42 :: u43 :: u44 :: u45 :: u46 :: u47 :: u48 :: u49 :: u50 :: u51 :: u52 :: u53 :: u54 :: u55 :: u56 :: u57 :: u58 :: u59 :: u60 :: u61 :: u62 :: u63 :: u64 :: u65 :: u66 :: u67 :: u68 :: u69 :: u70 :: u71 :: u72 :: u73 :: u74 :: u75 :: u76 :: u77 :: u78 :: u79 :: u80 :: u81 :: u82 :: u83 :: u84 :: u85 :: u86 :: u87 :: u88 :: u89 :: u90 :: u91 :: u92 :: u93 :: u94 :: u95 :: u96 :: u97 :: u98 :: u99 :: u100 :: u101 :: u102 :: u103 :: u104 :: u105 :: u106 :: u107 :: u108 :: u109 :: u110 :: u111 :: u112 :: u113 :: u114 :: u115 :: u116 :: u117 :: u118 :: u119 :: u120 :: u121 :: u122 :: u123 :: u124 :: u125 :: u126 :: u127 :: u128 :: u129 :: u130 :: u131 :: u132 :: u133 :: u134 :: u135 :: u136 :: u137 :: u138 :: u139 :: u140 :: u141 :: u142 :: u143 :: u144 :: u145 :: u146 :: u147 :: u148 :: u149 :: u150 :: u151 :: u152 :: u153 :: u154 :: u155 :: u156 :: u157 :: u158 :: u159 :: u160 :: u161 :: u162 :: u163 :: u164 :: u165 :: u166 :: u167 :: u168 :: u169 :: u170 :: u171 :: u172 :: u173 :: u174 :: u175 :: u176 :: u177 :: u178 :: u179 :: u180 :: u181 :: u182 :: u183 :: u184 :: u185 :: u186 :: u187 :: u188 :: u189 :: u190 :: u191 :: u192 :: u193 :: u194 :: u195 :: u196 :: u197 :: u198 :: u199 :: u200 :: u201 :: u202 :: u203 :: u204 :: u205 :: u206 :: u207 :: u208 :: u209 :: u210 :: u211 :: u212 :: u213 :: u214 :: u215 :: u216 :: u217 :: u218 :: u219 :: u220 :: u221 :: u222 :: u223 :: u224 :: u225 :: u226 :: u227 :: u228 :: u229 :: u230 :: u231 :: u232 :: u233 :: u234 :: u235 :: u236 :: u237 :: u238 :: u239 :: u240 :: u241 :: u242 :: u243 :: u244 :: u245 :: u246 :: u247 :: u248 :: u249 :: u250 :: u251 :: u252 :: u253 :: u254 :: u255 :: u256 :: u257 :: u258 :: u259 :: u260 :: u261 :: u262 :: u263 :: u264 :: u265 :: u266 :: u267 :: u268 :: u269 :: u270 :: u271 :: u272 :: u273 :: u274 :: u275 :: u276 :: u277 :: u278 :: u279 :: u280 :: u281 :: u282 :: u283 :: u284 :: u285 :: u286 :: u287 :: u288 :: u289 :: u290 :: u291 :: u292 :: u293 :: u294 :: u295 :: u296 :: u297 :: u298 :: u299 :: u300 :: u301 :: u302 :: u303 :: u304 :: u305 :: u306 :: u307 :: u308 :: u309 :: u310 :: u311 :: u312 :: u313 :: u314 :: u315 :: u316 :: u317 :: u318 :: u319 :: u320 :: u321 :: u322 :: u323 :: u324 :: u325 :: u326 :: u327 :: u328 :: u329 :: u330 :: u331 :: u332 :: u333 :: u334 :: u335 :: u336 :: u337 :: u338 :: u339 :: u340 :: u341 :: u342 :: u343 :: u344 :: u345 :: u346 :: u347 :: u348 :: u349 :: u350 :: u351 :: u352 :: u353 :: u354 :: u355 :: u356 :: u357 :: u358 :: u359 :: u360 :: u361 :: u362 :: u363 :: u364 :: u365 :: u366 :: u367 :: u368 :: u369 :: u370 :: u371 :: u372 :: u373 :: u374 :: u375 :: u376 :: u377 :: u378 :: [])), []⟩ wr := by
  replace hK : Hid _ := hK
  conv => arg 2; whnf
  obtain ⟨_, p2⟩ := p2
  rcases p2 with p2 | ⟨b0, o0, rfl, hb0, hc0⟩
  · omega
  have c0 := Plain.cell hc0 hb0 (hA.rl.t.below (Nat.le_refl _) (fun _ e => e.elim)) k (by omega)
  generalize z2.getD k 0 = y0 at c0 hv
  have k1 : (k : Int) + 2 < len2 := by omega
  have k2 : (k : Int) < 75 := by omega
  have k5 : (k : Int) < len2 := by omega
  refine wp_seq_k (fun K1 h1 => ?_)
  replace h1 : Hid _ := h1
  go_wp2_with fail
  refine h1.out _ _ ?_
  refine wp_seq_k (fun K2 h2 => ?_)
  replace h2 : Hid _ := h2
  go_wp2_with fail
  have hW := within_any y0 12 wr (by decide) (by decide)
  rw [hv] at hW
  with_reducible refine hW.mono ?_
  rintro e wq ⟨rfl, rfl⟩
  have hi : i ∈ J ++ [i] := by simp
  have hll : (J ++ [i]).length = L + 1 := by simp [hL]
  obtain ⟨sy, ds, yi, vi⟩ := hA.rl.sys hi
  have cpA := hA.ex.pa.caps
  have cpB := hA.ex.pb.caps
  rw [List.length_map, hll] at cpA cpB
  unfold maxLen at cpA cpB
  obtain ⟨gA, rfl, _, _, _, cA⟩ := hA.ex.pa.cells.resolve_left (by simp)
  obtain ⟨gB, rfl, _, _, _, cB⟩ := hA.ex.pb.cells.resolve_left (by simp)
  have cA1 : wr.cell? ⟨gA, L, none⟩ = some (.pointer (some ⟨i.q, 0, none⟩)) := by
    rw [cA L (by simp [hL])]; simp [pv, ← hL]
  have inP : ∀ z, (z = i.q ∨ z = p ∨ z = c) → PH.fp b c p (J ++ [i]) z := fun z hz => by
    rcases hz with e | e | e
    · exact Or.inr (Or.inr (Or.inr ⟨i, hi, e⟩))
    · exact Or.inr (Or.inr (Or.inl e))
    · exact Or.inr (Or.inl e)
  have q0 : (((L : Int) + 1) == 0) = false := by simp; omega
  have q1 : (1 : Int) < (L : Int) + 1 := by omega
  have q2 : IntKind.i64.wrap ((L : Int) + 1 - 1) = (L : Int) := by rw [IntKind.wrap_i64]; omega
  have lA : (L : Int) ≤ ca := by omega
  have lB : (L : Int) ≤ cb := by omega
  have hD := drop_any sy (fun j => by have := hA.rl.many.bd j; omega)
  clear hW cA hc0 hb0
  go_wp2_with fail
  with_reducible refine hD.mono ?_
  rintro e w4 ⟨rfl, yp, t4⟩
  have r4 := hA.rl.afterP t4 inP
  have ex4 := hA.ex.far t4 (fun z hz e => hA.ex.noP hA.rl.ph hz (inP z e))
  have cB1 : w4.cell? ⟨gB, L, none⟩ = some (.pointer (some ⟨i.o, 0, none⟩)) := by
    obtain ⟨g', e', _, _, _, cB'⟩ := ex4.pb.cells.resolve_left (by simp)
    cases e'
    rw [cB' L (by simp [hL])]; simp [pv, ← hL]
  have ri := r4.it i hi
  have ds4 : DS w4 i.o cw cc co cr i.x y i.a i.cap i.l ⟨i.S, R, s⟩ := ⟨ri.sp, ri.wo, r4.rm, ri.tk, ri.nl, ri.ne, ri.kern, ri.user, ri.own, ri.li⟩
  have hE := rdrop_any ds4 hA.rl.many.few (fun j => by have := hA.rl.many.bd j; show R j ≤ _; omega)
  clear hD c0 cA1 ds sy yi vi cB
  go_wp2_with fail
  with_reducible refine hE.mono ?_
  rintro e w5 ⟨rfl, _, rm, t5⟩
  have hFin := hA.drop yp t4 rm t5
  clear hE yp t4 rm t5 r4 ex4 ri ds4 hA inP cB1
  have hI' : 3 * J.length ≤ k + 3 := by omega
  go_upto_region 40 with fail
  go_quiet (fail)
  have hFin' := hFin.nil ((Touch.refl Nil w5).drews nq)
  clear hFin
  go_wp2_with fail
  refine h2.out _ _ ?_
  go_wp2_with fail
  exact hK.out _ _ _ _ _ _ _ _ _ _ _ _ _ _ _ _ _ _ _ _ _ _ _ _ _ _ _ _ _ _ _ _ _ _ _ _ _ _ _ _ _ _ _ _ _ _ _ _ _ _ _ _ _ _ _ _ _ _ _ _ _ _ _ _ _ _ _ _ _ _ _ _ _ _ _ _ _ _ _ _ _ _ _ _ _ _ _ _ _ _ _ _ _ _ _ _ _ _ _ _ _ _ _ _ _ _ _ _ _ _ _ _ _ _ _ _ _ _ _ _ _ _ _ _ _ _ _ _ _ _ _ _ _ _ _ _ _ _ _ _ _ _ _ _ _ _ _ _ _ _ _ _ _ _ _ _ _ _ _ _ _ _ _ _ _ _ _ _ _ _ _ _ _ _ _ _ _ _ _ _ _ _ _ _ _ _ _ _ _ _ _ _ _ _ _ _ _ _ _ _ _ _ _ _ _ _ _ _ _ _ _ _ _ _ _ _ _ _ _ _ _ _ _ _ _ _ _ _ _ _ _ _ _ _ _ _ _ _ _ _ _ _ _ _ _ _ _ _ _ _ _ _ _ _ _ _ _ _ _ _ _ _ _ _ _ _ _ _ _ _ _ _ _ _ _ _ _ _ _ _ _ _ _ _ _ _ _ _ _ _ _ _ _ _ _ _ _ _ _ _ _ _ _ _ _ _ _ _ _ _ _ _ _ _ _ _ _ _ _ _ _ _ _ _ _ _ _ _ _ _ _ _ _ _ _ _ _ _ _ _ _ _ _ _ _ _ _ _ _ _ _ _ _ _ _ _ _ _ _ _ _ _ _ _ _ _ _ _ _ _ _ _ _ _ _ _ _ hL.symm hFin' hI'
end Go.Proofs.Ytoododpeoffieaa
/-
  The walk of SpacePlays: its loop.
-/
namespace Go.Proofs.Ytoododpeoffieaa
open Go.ChangeShapes Go.WideShapes Go.ChangeAt Go.RowKit

noncomputable def spC54 : Code := cR (cR (cR spC24))
set_option maxRecDepth 100000 in
/-- What a round finds. -/
def SpJ (a0 a1 : Int) (a2 : Option Addr) (len2 cap2 : Nat) (w : World) (G b c p W : Nat) (y : RW) (cw cc co cr F : Nat) (N P : Int) (kpti inv : Bool) (g : Nat) (a : Act) (wr : World) : Prop :=
  ∃ (k : Nat) (ga : Option Addr) (ca : Nat) (gb : Option Addr) (cb : Nat) (R : Nat → Int) (s : MS) (I : List Itm) (ii : Int), g + k = 75 ∧ k % 3 = 0 ∧ ii = k ∧ Al w wr b c p W y cw cc co cr G F N P kpti inv ga ca gb cb R s I ∧ 3 * I.length ≤ k ∧ ∃ (u3 u4 u5 u6 u8 u11 u13 u18 u19 u20 u21 u22 u23 u24 u25 u26 u27 u28 u29 u30 u31 u32 u33 u34 u35 u36 u37 u38 u39 u40 u41 u42 u43 u44 u45 u46 u47 u48 u49 u50 u51 u52 u53 u54 u55 u56 u57 u58 u59 u60 u61 u62 u63 u64 u65 u66 u67 u68 u69 u70 u71 u72 u73 u74 u75 u76 u77 u78 u79 u80 u81 u82 u83 u84 u85 u86 u87 u88 u89 u90 u91 u92 u93 u94 u95 u96 u97 u98 u99 u100 u101 u102 u103 u104 u105 u106 u107 u108 u109 u110 u111 u112 u113 u114 u115 u116 u117 u118 u119 u120 u121 u122 u123 u124 u125 u126 u127 u128 u129 u130 u131 u132 u133 u134 u135 u136 u137 u138 u139 u140 u141 u142 u143 u144 u145 u146 u147 u148 u149 u150 u151 u152 u153 u154 u155 u156 u157 u158 u159 u160 u161 u162 u163 u164 u165 u166 u167 u168 u169 u170 u171 u172 u173 u174 u175 u176 u177 u178 u179 u180 u181 u182 u183 u184 u185 u186 u187 u188 u189 u190 u191 u192 u193 u194 u195 u196 u197 u198 u199 u200 u201 u202 u203 u204 u205 u206 u207 u208 u209 u210 u211 u212 u213 u214 u215 u216 u217 u218 u219 u220 u221 u222 u223 u224 u225 u226 u227 u228 u229 u230 u231 u232 u233 u234 u235 u236 u237 u238 u239 u240 u241 u242 u243 u244 u245 u246 u247 u248 u249 u250 u251 u252 u253 u254 u255 u256 u257 u258 u259 u260 u261 u262 u263 u264 u265 u266 u267 u268 u269 u270 u271 u272 u273 u274 u275 u276 u277 u278 u279 u280 u281 u282 u283 u284 u285 u286 u287 u288 u289 u290 u291 u292 u293 u294 u295 u296 u297 u298 u299 u300 u301 u302 u303 u304 u305 u306 u307 u308 u309 u310 u311 u312 u313 u314 u315 u316 u317 u318 u319 u320 u321 u322 u323 u324 u325 u326 u327 u328 u329 u330 u331 u332 u333 u334 u335 u336 u337 u338 u339 u340 u341 u342 u343 u344 u345 u346 u347 u348 u349 u350 u351 u352 u353 u354 u355 u356 u357 u358 u359 u360 u361 u362 u363 u364 u365 u366 u367 u368 u369 u370 u371 u372 u373 u374 u375 u376 u377 u378 : Value), a = ⟨(List.toArray ((.int .i64 a0) :: (.int .i64 a1) :: (.slice a2 len2 cap2) :: u3 :: u4 :: u5 :: u6 :: (.pointer (some ⟨G, 0, none⟩)) :: u8 :: (.pointer (some ⟨b, 0, none⟩)) :: (.pointer (some ⟨W, 0, none⟩)) :: u11 :: (.pointer (some ⟨F, 0, none⟩)) :: u13 :: (.pointer (some ⟨p, 0, none⟩)) :: (.slice ga I.length ca) :: (.slice gb I.length cb) :: (.int .i64 ii) :: u18 :: u19 :: u20 :: u21 :: u22 :: u23 :: u24 :: u25 :: u26 :: u27 :: u28 :: u29 :: u30 :: u31 :: u32 :: u33 :: u34 :: u35 :: u36 :: u37 :: u38 :: u39 :: u40 :: u41 :: u42 :: u43 :: u44 :: u45 :: u46 :: u47 :: u48 :: u49 :: u50 :: u51 :: u52 :: u53 :: u54 :: u55 :: u56 :: u57 :: u58 :: u59 :: u60 :: u61 :: u62 :: u63 :: u64 :: u65 :: u66 :: u67 :: u68 :: u69 :: u70 :: u71 :: u72 :: u73 :: u74 :: u75 :: u76 :: u77 :: u78 :: u79 :: u80 :: u81 :: u82 :: u83 :: u84 :: u85 :: u86 :: u87 :: u88 :: u89 :: u90 :: u91 :: u92 :: u93 :: u94 :: u95 :: u96 :: u97 :: u98 :: u99 :: u100 :: u101 :: u102 :: u103 :: u104 :: u105 :: u106 :: u107 :: u108 :: u109 :: u110 :: u111 :: u112 :: u113 :: u114 :: u115 :: u116 :: u117 :: u118 :: u119 :: u120 :: u121 :: u122 :: u123 :: u124 :: u125 :: u126 :: u127 :: u128 :: u129 :: u130 :: u131 :: u132 :: u133 :: u134 :: u135 :: u136 :: u137 :: u138 :: u139 :: u140 :: u141 :: u142 :: u143 :: u144 :: u145 :: u146 :: u147 :: u148 :: u149 :: u150 :: u151 :: u152 :: u153 :: u154 :: u155 :: u156 :: u157 :: u158 :: u159 :: u160 :: u161 :: u162 :: u163 :: u164 :: u165 :: u166 :: u167 :: u168 :: u169 :: u170 :: u171 :: u172 :: u173 :: u174 :: u175 :: u176 :: u177 :: u178 :: u179 :: u180 :: u181 :: u182 :: u183 :: u184 :: u185 :: u186 :: u187 :: u188 :: u189 :: u190 :: u191 :: u192 :: u193 :: u194 :: u195 :: u196 :: u197 :: u198 :: u199 :: u200 :: u201 :: u202 :: u203 :: u204 :: u205 :: u206 :: u207 :: u208 :: u209 :: u210 :: u211 :: u212 :: u213 :: u214 :: u215 :: u216 :: u217 :: u218 :: u219 :: u220 :: u221 :: u222 :: u223 :: u224 :: u225 :: u226 :: u227 :: u228 :: u229 :: u230 :: u231 :: u232 :: u233 :: u234 :: u235 :: u236 :: u237 :: u238 :: u239 :: u240 :: u241 :: u242 :: u243 :: u244 :: u245 :: u246 :: u247 :: u248 :: u249 :: u250 :: u251 :: u252 :: u253 :: u254 :: u255 :: u256 :: u257 :: u258 :: u259 :: u260 :: u261 :: u262 :: u263 :: u264 :: u265 :: u266 :: u267 :: u268 :: u269 :: u270 :: u271 :: u272 :: u273 :: u274 :: u275 :: u276 :: u277 :: u278 :: u279 :: u280 :: u281 :: u282 :: u283 :: u284 :: u285 :: u286 :: u287 :: u288 :: u289 :: u290 :: u291 :: u292 :: u293 :: u294 :: u295 :: u296 :: u297 :: u298 :: u299 :: u300 :: u301 :: u302 :: u303 :: u304 :: u305 :: u306 :: u307 :: u308 :: u309 :: u310 :: u311 :: u312 :: u313 :: u314 :: u315 :: u316 :: u317 :: u318 :: u319 :: u320 :: u321 :: u322 :: u323 :: u324 :: u325 :: u326 :: u327 :: u328 :: u329 :: u330 :: u331 :: u332 :: u333 :: u334 :: u335 :: u336 :: u337 :: u338 :: u339 :: u340 :: u341 :: u342 :: u343 :: u344 :: u345 :: u346 :: u347 :: u348 :: u349 :: u350 :: u351 :: u352 :: u353 :: u354 :: u355 :: u356 :: u357 :: u358 :: u359 :: u360 :: u361 :: u362 :: u363 :: u364 :: u365 :: u366 :: u367 :: u368 :: u369 :: u370 :: u371 :: u372 :: u373 :: u374 :: u375 :: u376 :: u377 :: u378 :: [])), []⟩
set_option maxRecDepth 100000 in
set_option maxHeartbeats 16000000 in
theorem spLoop (a0 a1 : Int) (a2 : Option Addr) (len2 cap2 : Nat) (z2 : List Int) (w : World) (p2 : Plain .i64 w a2 len2 z2)
    (h54 : ∀ (u3 u4 u5 u6 u8 u11 u13 u17 u18 u19 u20 u21 u22 u23 u24 u25 u26 u27 u28 u29 u30 u31 u32 u33 u34 u35 u36 u37 u38 u39 u40 u41 u42 u43 u44 u45 u46 u47 u48 u49 u50 u51 u52 u53 u54 u55 u56 u57 u58 u59 u60 u61 u62 u63 u64 u65 u66 u67 u68 u69 u70 u71 u72 u73 u74 u75 u76 u77 u78 u79 u80 u81 u82 u83 u84 u85 u86 u87 u88 u89 u90 u91 u92 u93 u94 u95 u96 u97 u98 u99 u100 u101 u102 u103 u104 u105 u106 u107 u108 u109 u110 u111 u112 u113 u114 u115 u116 u117 u118 u119 u120 u121 u122 u123 u124 u125 u126 u127 u128 u129 u130 u131 u132 u133 u134 u135 u136 u137 u138 u139 u140 u141 u142 u143 u144 u145 u146 u147 u148 u149 u150 u151 u152 u153 u154 u155 u156 u157 u158 u159 u160 u161 u162 u163 u164 u165 u166 u167 u168 u169 u170 u171 u172 u173 u174 u175 u176 u177 u178 u179 u180 u181 u182 u183 u184 u185 u186 u187 u188 u189 u190 u191 u192 u193 u194 u195 u196 u197 u198 u199 u200 u201 u202 u203 u204 u205 u206 u207 u208 u209 u210 u211 u212 u213 u214 u215 u216 u217 u218 u219 u220 u221 u222 u223 u224 u225 u226 u227 u228 u229 u230 u231 u232 u233 u234 u235 u236 u237 u238 u239 u240 u241 u242 u243 u244 u245 u246 u247 u248 u249 u250 u251 u252 u253 u254 u255 u256 u257 u258 u259 u260 u261 u262 u263 u264 u265 u266 u267 u268 u269 u270 u271 u272 u273 u274 u275 u276 u277 u278 u279 u280 u281 u282 u283 u284 u285 u286 u287 u288 u289 u290 u291 u292 u293 u294 u295 u296 u297 u298 u299 u300 u301 u302 u303 u304 u305 u306 u307 u308 u309 u310 u311 u312 u313 u314 u315 u316 u317 u318 u319 u320 u321 u322 u323 u324 u325 u326 u327 u328 u329 u330 u331 u332 u333 u334 u335 u336 u337 u338 u339 u340 u341 u342 u343 u344 u345 u346 u347 u348 u349 u350 u351 u352 u353 u354 u355 u356 u357 u358 u359 u360 u361 u362 u363 u364 u365 u366 u367 u368 u369 u370 u371 u372 u373 u374 u375 u376 u377 u378 : Value) (G b c p W : Nat) (y : RW) (cw cc co cr F : Nat) (N P : Int) (kpti inv : Bool) (ga : Option Addr) (ca : Nat) (gb : Option Addr) (cb : Nat) (R : Nat → Int) (s : MS) (I : List Itm) (wx : World), y.kpti = kpti → I.length ≤ 25 → Al w wx b c p W y cw cc co cr G F N P kpti inv ga ca gb cb R s I → Code.wp Try.prog spC54 (spQ w) ⟨(List.toArray ((.int .i64 a0) :: (.int .i64 a1) :: (.slice a2 len2 cap2) :: u3 :: u4 :: u5 :: u6 :: (.pointer (some ⟨G, 0, none⟩)) :: u8 :: (.pointer (some ⟨b, 0, none⟩)) :: (.pointer (some ⟨W, 0, none⟩)) :: u11 :: (.pointer (some ⟨F, 0, none⟩)) :: u13 :: (.pointer (some ⟨p, 0, none⟩)) :: (.slice ga I.length ca) :: (.slice gb I.length cb) :: u17 :: u18 :: u19 :: u20 :: u21 :: u22 :: u23 :: u24 :: u25 :: u26 :: u27 :: u28 :: u29 :: u30 :: u31 :: u32 :: u33 :: u34 :: u35 :: u36 :: u37 :: u38 :: u39 :: u40 :: u41 :: u42 :: u43 :: u44 :: u45 :: u46 :: u47 :: u48 :: u49 :: u50 :: u51 :: u52 :: u53 :: u54 :: u55 :: u56 :: u57 :: u58 :: u59 :: u60 :: u61 :: u62 :: u63 :: u64 :: u65 :: u66 :: u67 :: u68 :: u69 :: u70 :: u71 :: u72 :: u73 :: u74 :: u75 :: u76 :: u77 :: u78 :: u79 :: u80 :: u81 :: u82 :: u83 :: u84 :: u85 :: u86 :: u87 :: u88 :: u89 :: u90 :: u91 :: u92 :: u93 :: u94 :: u95 :: u96 :: u97 :: u98 :: u99 :: u100 :: u101 :: u102 :: u103 :: u104 :: u105 :: u106 :: u107 :: u108 :: u109 :: u110 :: u111 :: u112 :: u113 :: u114 :: u115 :: u116 :: u117 :: u118 :: u119 :: u120 :: u121 :: u122 :: u123 :: u124 :: u125 :: u126 :: u127 :: u128 :: u129 :: u130 :: u131 :: u132 :: u133 :: u134 :: u135 :: u136 :: u137 :: u138 :: u139 :: u140 :: u141 :: u142 :: u143 :: u144 :: u145 :: u146 :: u147 :: u148 :: u149 :: u150 :: u151 :: u152 :: u153 :: u154 :: u155 :: u156 :: u157 :: u158 :: u159 :: u160 :: u161 :: u162 :: u163 :: u164 :: u165 :: u166 :: u167 :: u168 :: u169 :: u170 :: u171 :: u172 :: u173 :: u174 :: u175 :: u176 :: u177 :: u178 :: u179 :: u180 :: u181 :: u182 :: u183 :: u184 :: u185 :: u186 :: u187 :: u188 :: u189 :: u190 :: u191 :: u192 :: u193 :: u194 :: u195 :: u196 :: u197 :: u198 :: u199 :: u200 :: u201 :: u202 :: u203 :: u204 :: u205 :: u206 :: u207 :: u208 :: u209 :: u210 :: u211 :: u212 :: u213 :: u214 :: u215 :: u216 :: u217 :: u218 :: u219 :: u220 :: u221 :: u222 :: u223 :: u224 :: u225 :: u226 :: u227 :: u228 :: u229 :: u230 :: u231 :: u232 :: u233 :: u234 :: u235 :: u236 :: u237 :: u238 :: u239 :: u240 :: u241 :: u242 :: u243 :: u244 :: u245 :: u246 :: u247 :: u248 :: u249 :: u250 :: u251 :: u252 :: u253 :: u254 :: u255 :: u256 :: u257 :: u258 :: u259 :: u260 :: u261 :: u262 :: u263 :: u264 :: u265 :: u266 :: u267 :: u268 :: u269 :: u270 :: u271 :: u272 :: u273 :: u274 :: u275 :: u276 :: u277 :: u278 :: u279 :: u280 :: u281 :: u282 :: u283 :: u284 :: u285 :: u286 :: u287 :: u288 :: u289 :: u290 :: u291 :: u292 :: u293 :: u294 :: u295 :: u296 :: u297 :: u298 :: u299 :: u300 :: u301 :: u302 :: u303 :: u304 :: u305 :: u306 :: u307 :: u308 :: u309 :: u310 :: u311 :: u312 :: u313 :: u314 :: u315 :: u316 :: u317 :: u318 :: u319 :: u320 :: u321 :: u322 :: u323 :: u324 :: u325 :: u326 :: u327 :: u328 :: u329 :: u330 :: u331 :: u332 :: u333 :: u334 :: u335 :: u336 :: u337 :: u338 :: u339 :: u340 :: u341 :: u342 :: u343 :: u344 :: u345 :: u346 :: u347 :: u348 :: u349 :: u350 :: u351 :: u352 :: u353 :: u354 :: u355 :: u356 :: u357 :: u358 :: u359 :: u360 :: u361 :: u362 :: u363 :: u364 :: u365 :: u366 :: u367 :: u368 :: u369 :: u370 :: u371 :: u372 :: u373 :: u374 :: u375 :: u376 :: u377 :: u378 :: [])), []⟩ wx)
    (u3 u4 u5 u8 u11 u13 u15 u16 u17 u18 u19 u20 u21 u22 u23 u24 u25 u26 u27 u28 u29 u30 u31 u32 u33 u34 u35 u36 u37 u38 u39 u40 u41 u42 u43 u44 u45 u46 u47 u48 u49 u50 u51 u52 u53 u54 u55 u56 u57 u58 u59 u60 u61 u62 u63 u64 u65 u66 u67 u68 u69 u70 u71 u72 u73 u74 u75 u76 u77 u78 u79 u80 u81 u82 u83 u84 u85 u86 u87 u88 u89 u90 u91 u92 u93 u94 u95 u96 u97 u98 u99 u100 u101 u102 u103 u104 u105 u106 u107 u108 u109 u110 u111 u112 u113 u114 u115 u116 u117 u118 u119 u120 u121 u122 u123 u124 u125 u126 u127 u128 u129 u130 u131 u132 u133 u134 u135 u136 u137 u138 u139 u140 u141 u142 u143 u144 u145 u146 u147 u148 u149 u150 u151 u152 u153 u154 u155 u156 u157 u158 u159 u160 u161 u162 u163 u164 u165 u166 u167 u168 u169 u170 u171 u172 u173 u174 u175 u176 u177 u178 u179 u180 u181 u182 u183 u184 u185 u186 u187 u188 u189 u190 u191 u192 u193 u194 u195 u196 u197 u198 u199 u200 u201 u202 u203 u204 u205 u206 u207 u208 u209 u210 u211 u212 u213 u214 u215 u216 u217 u218 u219 u220 u221 u222 u223 u224 u225 u226 u227 u228 u229 u230 u231 u232 u233 u234 u235 u236 u237 u238 u239 u240 u241 u242 u243 u244 u245 u246 u247 u248 u249 u250 u251 u252 u253 u254 u255 u256 u257 u258 u259 u260 u261 u262 u263 u264 u265 u266 u267 u268 u269 u270 u271 u272 u273 u274 u275 u276 u277 u278 u279 u280 u281 u282 u283 u284 u285 u286 u287 u288 u289 u290 u291 u292 u293 u294 u295 u296 u297 u298 u299 u300 u301 u302 u303 u304 u305 u306 u307 u308 u309 u310 u311 u312 u313 u314 u315 u316 u317 u318 u319 u320 u321 u322 u323 u324 u325 u326 u327 u328 u329 u330 u331 u332 u333 u334 u335 u336 u337 u338 u339 u340 u341 u342 u343 u344 u345 u346 u347 u348 u349 u350 u351 u352 u353 u354 u355 u356 u357 u358 u359 u360 u361 u362 u363 u364 u365 u366 u367 u368 u369 u370 u371 u372 u373 u374 u375 u376 u377 u378 : Value) (G b c p W : Nat) (y : RW) (cw cc co cr F : Nat) (N P : Int) (kpti inv : Bool) (s : MS) (wx : World) (hyk : y.kpti = kpti) (hA : Al w wx b c p W y cw cc co cr G F N P kpti inv none 0 none 0 (fun _ => 0) s []) : Code.wp Try.prog spC24 (spQ w) ⟨(List.toArray ((.int .i64 a0) :: (.int .i64 a1) :: (.slice a2 len2 cap2) :: u3 :: u4 :: u5 :: (.bool false) :: (.pointer (some ⟨G, 0, none⟩)) :: u8 :: (.pointer (some ⟨b, 0, none⟩)) :: (.pointer (some ⟨W, 0, none⟩)) :: u11 :: (.pointer (some ⟨F, 0, none⟩)) :: u13 :: (.pointer (some ⟨p, 0, none⟩)) :: u15 :: u16 :: u17 :: u18 :: u19 :: u20 :: u21 :: u22 :: u23 :: u24 :: u25 :: u26 :: u27 :: u28 :: u29 :: u30 :: u31 :: u32 :: u33 :: u34 :: u35 :: u36 :: u37 :: u38 :: u39 :: u40 :: u41 :: u42 :: u43 :: u44 :: u45 :: u46 :: u47 :: u48 :: u49 :: u50 :: u51 :: u52 :: u53 :: u54 :: u55 :: u56 :: u57 :: u58 :: u59 :: u60 :: u61 :: u62 :: u63 :: u64 :: u65 :: u66 :: u67 :: u68 :: u69 :: u70 :: u71 :: u72 :: u73 :: u74 :: u75 :: u76 :: u77 :: u78 :: u79 :: u80 :: u81 :: u82 :: u83 :: u84 :: u85 :: u86 :: u87 :: u88 :: u89 :: u90 :: u91 :: u92 :: u93 :: u94 :: u95 :: u96 :: u97 :: u98 :: u99 :: u100 :: u101 :: u102 :: u103 :: u104 :: u105 :: u106 :: u107 :: u108 :: u109 :: u110 :: u111 :: u112 :: u113 :: u114 :: u115 :: u116 :: u117 :: u118 :: u119 :: u120 :: u121 :: u122 :: u123 :: u124 :: u125 :: u126 :: u127 :: u128 :: u129 :: u130 :: u131 :: u132 :: u133 :: u134 :: u135 :: u136 :: u137 :: u138 :: u139 :: u140 :: u141 :: u142 :: u143 :: u144 :: u145 :: u146 :: u147 :: u148 :: u149 :: u150 :: u151 :: u152 :: u153 :: u154 :: u155 :: u156 :: u157 :: u158 :: u159 :: u160 :: u161 :: u162 :: u163 :: u164 :: u165 :: u166 :: u167 :: u168 :: u169 :: u170 :: u171 :: u172 :: u173 :: u174 :: u175 :: u176 :: u177 :: u178 :: u179 :: u180 :: u181 :: u182 :: u183 :: u184 :: u185 :: u186 :: u187 :: u188 :: u189 :: u190 :: u191 :: u192 :: u193 :: u194 :: u195 :: u196 :: u197 :: u198 :: u199 :: u200 :: u201 :: u202 :: u203 :: u204 :: u205 :: u206 :: u207 :: u208 :: u209 :: u210 :: u211 :: u212 :: u213 :: u214 :: u215 :: u216 :: u217 :: u218 :: u219 :: u220 :: u221 :: u222 :: u223 :: u224 :: u225 :: u226 :: u227 :: u228 :: u229 :: u230 :: u231 :: u232 :: u233 :: u234 :: u235 :: u236 :: u237 :: u238 :: u239 :: u240 :: u241 :: u242 :: u243 :: u244 :: u245 :: u246 :: u247 :: u248 :: u249 :: u250 :: u251 :: u252 :: u253 :: u254 :: u255 :: u256 :: u257 :: u258 :: u259 :: u260 :: u261 :: u262 :: u263 :: u264 :: u265 :: u266 :: u267 :: u268 :: u269 :: u270 :: u271 :: u272 :: u273 :: u274 :: u275 :: u276 :: u277 :: u278 :: u279 :: u280 :: u281 :: u282 :: u283 :: u284 :: u285 :: u286 :: u287 :: u288 :: u289 :: u290 :: u291 :: u292 :: u293 :: u294 :: u295 :: u296 :: u297 :: u298 :: u299 :: u300 :: u301 :: u302 :: u303 :: u304 :: u305 :: u306 :: u307 :: u308 :: u309 :: u310 :: u311 :: u312 :: u313 :: u314 :: u315 :: u316 :: u317 :: u318 :: u319 :: u320 :: u321 :: u322 :: u323 :: u324 :: u325 :: u326 :: u327 :: u328 :: u329 :: u330 :: u331 :: u332 :: u333 :: u334 :: u335 :: u336 :: u337 :: u338 :: u339 :: u340 :: u341 :: u342 :: u343 :: u344 :: u345 :: u346 :: u347 :: u348 :: u349 :: u350 :: u351 :: u352 :: u353 :: u354 :: u355 :: u356 :: u357 :: u358 :: u359 :: u360 :: u361 :: u362 :: u363 :: u364 :: u365 :: u366 :: u367 :: u368 :: u369 :: u370 :: u371 :: u372 :: u373 :: u374 :: u375 :: u376 :: u377 :: u378 :: [])), []⟩ wx := by
  replace h54 : Hid _ := h54
  replace hyk : Hid _ := hyk
  conv => arg 2; whnf
  refine wp_seq_k (fun K1 h1 => ?_)
  replace h1 : Hid _ := h1
  go_wp2_with fail
  refine h1.out _ _ ?_
  refine wp_seq_k (fun K2 h2 => ?_)
  replace h2 : Hid _ := h2
  go_wp2_with fail
  refine h2.out _ _ ?_
  refine wp_seq_k (fun K3 h3 => ?_)
  replace h3 : Hid _ := h3
  go_wp2_with fail
  refine wp_loop_ghost_k (SpJ a0 a1 a2 len2 cap2 w G b c p W y cw cc co cr F N P kpti inv) 75 ?_ ?_
  · refine ⟨0, none, 0, none, 0, _, s, [], 0, by omega, by omega, rfl, hA, by simp, ?_⟩
    (repeat apply Exists.intro)
    rfl
  · clear hA
    intro gk aa wr hrel J0 K0 hJ0 hK0
    obtain ⟨k, ga, ca, gb, cb, R, s, I, ii, hgk, hk3, rfl, hA, hIk, hinv⟩ := hrel
    obtain ⟨u3, hinv⟩ := hinv
    obtain ⟨u4, hinv⟩ := hinv
    obtain ⟨u5, hinv⟩ := hinv
    obtain ⟨u6, hinv⟩ := hinv
    obtain ⟨u8, hinv⟩ := hinv
    obtain ⟨u11, hinv⟩ := hinv
    obtain ⟨u13, hinv⟩ := hinv
    obtain ⟨u18, hinv⟩ := hinv
    obtain ⟨u19, hinv⟩ := hinv
    obtain ⟨u20, hinv⟩ := hinv
    obtain ⟨u21, hinv⟩ := hinv
    obtain ⟨u22, hinv⟩ := hinv
    obtain ⟨u23, hinv⟩ := hinv
    obtain ⟨u24, hinv⟩ := hinv
    obtain ⟨u25, hinv⟩ := hinv
    obtain ⟨u26, hinv⟩ := hinv
    obtain ⟨u27, hinv⟩ := hinv
    obtain ⟨u28, hinv⟩ := hinv
    obtain ⟨u29, hinv⟩ := hinv
    obtain ⟨u30, hinv⟩ := hinv
    obtain ⟨u31, hinv⟩ := hinv
    obtain ⟨u32, hinv⟩ := hinv
    obtain ⟨u33, hinv⟩ := hinv
    obtain ⟨u34, hinv⟩ := hinv
    obtain ⟨u35, hinv⟩ := hinv
    obtain ⟨u36, hinv⟩ := hinv
    obtain ⟨u37, hinv⟩ := hinv
    obtain ⟨u38, hinv⟩ := hinv
    obtain ⟨u39, hinv⟩ := hinv
    obtain ⟨u40, hinv⟩ := hinv
    obtain ⟨u41, hinv⟩ := hinv
    obtain ⟨u42, hinv⟩ := hinv
    obtain ⟨u43, hinv⟩ := hinv
    obtain ⟨u44, hinv⟩ := hinv
    obtain ⟨u45, hinv⟩ := hinv
    obtain ⟨u46, hinv⟩ := hinv
    obtain ⟨u47, hinv⟩ := hinv
    obtain ⟨u48, hinv⟩ := hinv
    obtain ⟨u49, hinv⟩ := hinv
    obtain ⟨u50, hinv⟩ := hinv
    obtain ⟨u51, hinv⟩ := hinv
    obtain ⟨u52, hinv⟩ := hinv
    obtain ⟨u53, hinv⟩ := hinv
    obtain ⟨u54, hinv⟩ := hinv
    obtain ⟨u55, hinv⟩ := hinv
    obtain ⟨u56, hinv⟩ := hinv
    obtain ⟨u57, hinv⟩ := hinv
    obtain ⟨u58, hinv⟩ := hinv
    obtain ⟨u59, hinv⟩ := hinv
    obtain ⟨u60, hinv⟩ := hinv
    obtain ⟨u61, hinv⟩ := hinv
    obtain ⟨u62, hinv⟩ := hinv
    obtain ⟨u63, hinv⟩ := hinv
    obtain ⟨u64, hinv⟩ := hinv
    obtain ⟨u65, hinv⟩ := hinv
    obtain ⟨u66, hinv⟩ := hinv
    obtain ⟨u67, hinv⟩ := hinv
    obtain ⟨u68, hinv⟩ := hinv
    obtain ⟨u69, hinv⟩ := hinv
    obtain ⟨u70, hinv⟩ := hinv
    obtain ⟨u71, hinv⟩ := hinv
    obtain ⟨u72, hinv⟩ := hinv
    obtain ⟨u73, hinv⟩ := hinv
    obtain ⟨u74, hinv⟩ := hinv
    obtain ⟨u75, hinv⟩ := hinv
    obtain ⟨u76, hinv⟩ := hinv
    obtain ⟨u77, hinv⟩ := hinv
    obtain ⟨u78, hinv⟩ := hinv
    obtain ⟨u79, hinv⟩ := hinv
    obtain ⟨u80, hinv⟩ := hinv
    obtain ⟨u81, hinv⟩ := hinv
    obtain ⟨u82, hinv⟩ := hinv
    obtain ⟨u83, hinv⟩ := hinv
    obtain ⟨u84, hinv⟩ := hinv
    obtain ⟨u85, hinv⟩ := hinv
    obtain ⟨u86, hinv⟩ := hinv
    obtain ⟨u87, hinv⟩ := hinv
    obtain ⟨u88, hinv⟩ := hinv
    obtain ⟨u89, hinv⟩ := hinv
    obtain ⟨u90, hinv⟩ := hinv
    obtain ⟨u91, hinv⟩ := hinv
    obtain ⟨u92, hinv⟩ := hinv
    obtain ⟨u93, hinv⟩ := hinv
    obtain ⟨u94, hinv⟩ := hinv
    obtain ⟨u95, hinv⟩ := hinv
    obtain ⟨u96, hinv⟩ := hinv
    obtain ⟨u97, hinv⟩ := hinv
    obtain ⟨u98, hinv⟩ := hinv
    obtain ⟨u99, hinv⟩ := hinv
    obtain ⟨u100, hinv⟩ := hinv
    obtain ⟨u101, hinv⟩ := hinv
    obtain ⟨u102, hinv⟩ := hinv
    obtain ⟨u103, hinv⟩ := hinv
    obtain ⟨u104, hinv⟩ := hinv
    obtain ⟨u105, hinv⟩ := hinv
    obtain ⟨u106, hinv⟩ := hinv
    obtain ⟨u107, hinv⟩ := hinv
    obtain ⟨u108, hinv⟩ := hinv
    obtain ⟨u109, hinv⟩ := hinv
    obtain ⟨u110, hinv⟩ := hinv
    obtain ⟨u111, hinv⟩ := hinv
    obtain ⟨u112, hinv⟩ := hinv
    obtain ⟨u113, hinv⟩ := hinv
    obtain ⟨u114, hinv⟩ := hinv
    obtain ⟨u115, hinv⟩ := hinv
    obtain ⟨u116, hinv⟩ := hinv
    obtain ⟨u117, hinv⟩ := hinv
    obtain ⟨u118, hinv⟩ := hinv
    obtain ⟨u119, hinv⟩ := hinv
    obtain ⟨u120, hinv⟩ := hinv
    obtain ⟨u121, hinv⟩ := hinv
    obtain ⟨u122, hinv⟩ := hinv
    obtain ⟨u123, hinv⟩ := hinv
    obtain ⟨u124, hinv⟩ := hinv
    obtain ⟨u125, hinv⟩ := hinv
    obtain ⟨u126, hinv⟩ := hinv
    obtain ⟨u127, hinv⟩ := hinv
    obtain ⟨u128, hinv⟩ := hinv
    obtain ⟨u129, hinv⟩ := hinv
    obtain ⟨u130, hinv⟩ := hinv
    obtain ⟨u131, hinv⟩ := hinv
    obtain ⟨u132, hinv⟩ := hinv
    obtain ⟨u133, hinv⟩ := hinv
    obtain ⟨u134, hinv⟩ := hinv
    obtain ⟨u135, hinv⟩ := hinv
    obtain ⟨u136, hinv⟩ := hinv
    obtain ⟨u137, hinv⟩ := hinv
    obtain ⟨u138, hinv⟩ := hinv
    obtain ⟨u139, hinv⟩ := hinv
    obtain ⟨u140, hinv⟩ := hinv
    obtain ⟨u141, hinv⟩ := hinv
    obtain ⟨u142, hinv⟩ := hinv
    obtain ⟨u143, hinv⟩ := hinv
    obtain ⟨u144, hinv⟩ := hinv
    obtain ⟨u145, hinv⟩ := hinv
    obtain ⟨u146, hinv⟩ := hinv
    obtain ⟨u147, hinv⟩ := hinv
    obtain ⟨u148, hinv⟩ := hinv
    obtain ⟨u149, hinv⟩ := hinv
    obtain ⟨u150, hinv⟩ := hinv
    obtain ⟨u151, hinv⟩ := hinv
    obtain ⟨u152, hinv⟩ := hinv
    obtain ⟨u153, hinv⟩ := hinv
    obtain ⟨u154, hinv⟩ := hinv
    obtain ⟨u155, hinv⟩ := hinv
    obtain ⟨u156, hinv⟩ := hinv
    obtain ⟨u157, hinv⟩ := hinv
    obtain ⟨u158, hinv⟩ := hinv
    obtain ⟨u159, hinv⟩ := hinv
    obtain ⟨u160, hinv⟩ := hinv
    obtain ⟨u161, hinv⟩ := hinv
    obtain ⟨u162, hinv⟩ := hinv
    obtain ⟨u163, hinv⟩ := hinv
    obtain ⟨u164, hinv⟩ := hinv
    obtain ⟨u165, hinv⟩ := hinv
    obtain ⟨u166, hinv⟩ := hinv
    obtain ⟨u167, hinv⟩ := hinv
    obtain ⟨u168, hinv⟩ := hinv
    obtain ⟨u169, hinv⟩ := hinv
    obtain ⟨u170, hinv⟩ := hinv
    obtain ⟨u171, hinv⟩ := hinv
    obtain ⟨u172, hinv⟩ := hinv
    obtain ⟨u173, hinv⟩ := hinv
    obtain ⟨u174, hinv⟩ := hinv
    obtain ⟨u175, hinv⟩ := hinv
    obtain ⟨u176, hinv⟩ := hinv
    obtain ⟨u177, hinv⟩ := hinv
    obtain ⟨u178, hinv⟩ := hinv
    obtain ⟨u179, hinv⟩ := hinv
    obtain ⟨u180, hinv⟩ := hinv
    obtain ⟨u181, hinv⟩ := hinv
    obtain ⟨u182, hinv⟩ := hinv
    obtain ⟨u183, hinv⟩ := hinv
    obtain ⟨u184, hinv⟩ := hinv
    obtain ⟨u185, hinv⟩ := hinv
    obtain ⟨u186, hinv⟩ := hinv
    obtain ⟨u187, hinv⟩ := hinv
    obtain ⟨u188, hinv⟩ := hinv
    obtain ⟨u189, hinv⟩ := hinv
    obtain ⟨u190, hinv⟩ := hinv
    obtain ⟨u191, hinv⟩ := hinv
    obtain ⟨u192, hinv⟩ := hinv
    obtain ⟨u193, hinv⟩ := hinv
    obtain ⟨u194, hinv⟩ := hinv
    obtain ⟨u195, hinv⟩ := hinv
    obtain ⟨u196, hinv⟩ := hinv
    obtain ⟨u197, hinv⟩ := hinv
    obtain ⟨u198, hinv⟩ := hinv
    obtain ⟨u199, hinv⟩ := hinv
    obtain ⟨u200, hinv⟩ := hinv
    obtain ⟨u201, hinv⟩ := hinv
    obtain ⟨u202, hinv⟩ := hinv
    obtain ⟨u203, hinv⟩ := hinv
    obtain ⟨u204, hinv⟩ := hinv
    obtain ⟨u205, hinv⟩ := hinv
    obtain ⟨u206, hinv⟩ := hinv
    obtain ⟨u207, hinv⟩ := hinv
    obtain ⟨u208, hinv⟩ := hinv
    obtain ⟨u209, hinv⟩ := hinv
    obtain ⟨u210, hinv⟩ := hinv
    obtain ⟨u211, hinv⟩ := hinv
    obtain ⟨u212, hinv⟩ := hinv
    obtain ⟨u213, hinv⟩ := hinv
    obtain ⟨u214, hinv⟩ := hinv
    obtain ⟨u215, hinv⟩ := hinv
    obtain ⟨u216, hinv⟩ := hinv
    obtain ⟨u217, hinv⟩ := hinv
    obtain ⟨u218, hinv⟩ := hinv
    obtain ⟨u219, hinv⟩ := hinv
    obtain ⟨u220, hinv⟩ := hinv
    obtain ⟨u221, hinv⟩ := hinv
    obtain ⟨u222, hinv⟩ := hinv
    obtain ⟨u223, hinv⟩ := hinv
    obtain ⟨u224, hinv⟩ := hinv
    obtain ⟨u225, hinv⟩ := hinv
    obtain ⟨u226, hinv⟩ := hinv
    obtain ⟨u227, hinv⟩ := hinv
    obtain ⟨u228, hinv⟩ := hinv
    obtain ⟨u229, hinv⟩ := hinv
    obtain ⟨u230, hinv⟩ := hinv
    obtain ⟨u231, hinv⟩ := hinv
    obtain ⟨u232, hinv⟩ := hinv
    obtain ⟨u233, hinv⟩ := hinv
    obtain ⟨u234, hinv⟩ := hinv
    obtain ⟨u235, hinv⟩ := hinv
    obtain ⟨u236, hinv⟩ := hinv
    obtain ⟨u237, hinv⟩ := hinv
    obtain ⟨u238, hinv⟩ := hinv
    obtain ⟨u239, hinv⟩ := hinv
    obtain ⟨u240, hinv⟩ := hinv
    obtain ⟨u241, hinv⟩ := hinv
    obtain ⟨u242, hinv⟩ := hinv
    obtain ⟨u243, hinv⟩ := hinv
    obtain ⟨u244, hinv⟩ := hinv
    obtain ⟨u245, hinv⟩ := hinv
    obtain ⟨u246, hinv⟩ := hinv
    obtain ⟨u247, hinv⟩ := hinv
    obtain ⟨u248, hinv⟩ := hinv
    obtain ⟨u249, hinv⟩ := hinv
    obtain ⟨u250, hinv⟩ := hinv
    obtain ⟨u251, hinv⟩ := hinv
    obtain ⟨u252, hinv⟩ := hinv
    obtain ⟨u253, hinv⟩ := hinv
    obtain ⟨u254, hinv⟩ := hinv
    obtain ⟨u255, hinv⟩ := hinv
    obtain ⟨u256, hinv⟩ := hinv
    obtain ⟨u257, hinv⟩ := hinv
    obtain ⟨u258, hinv⟩ := hinv
    obtain ⟨u259, hinv⟩ := hinv
    obtain ⟨u260, hinv⟩ := hinv
    obtain ⟨u261, hinv⟩ := hinv
    obtain ⟨u262, hinv⟩ := hinv
    obtain ⟨u263, hinv⟩ := hinv
    obtain ⟨u264, hinv⟩ := hinv
    obtain ⟨u265, hinv⟩ := hinv
    obtain ⟨u266, hinv⟩ := hinv
    obtain ⟨u267, hinv⟩ := hinv
    obtain ⟨u268, hinv⟩ := hinv
    obtain ⟨u269, hinv⟩ := hinv
    obtain ⟨u270, hinv⟩ := hinv
    obtain ⟨u271, hinv⟩ := hinv
    obtain ⟨u272, hinv⟩ := hinv
    obtain ⟨u273, hinv⟩ := hinv
    obtain ⟨u274, hinv⟩ := hinv
    obtain ⟨u275, hinv⟩ := hinv
    obtain ⟨u276, hinv⟩ := hinv
    obtain ⟨u277, hinv⟩ := hinv
    obtain ⟨u278, hinv⟩ := hinv
    obtain ⟨u279, hinv⟩ := hinv
    obtain ⟨u280, hinv⟩ := hinv
    obtain ⟨u281, hinv⟩ := hinv
    obtain ⟨u282, hinv⟩ := hinv
    obtain ⟨u283, hinv⟩ := hinv
    obtain ⟨u284, hinv⟩ := hinv
    obtain ⟨u285, hinv⟩ := hinv
    obtain ⟨u286, hinv⟩ := hinv
    obtain ⟨u287, hinv⟩ := hinv
    obtain ⟨u288, hinv⟩ := hinv
    obtain ⟨u289, hinv⟩ := hinv
    obtain ⟨u290, hinv⟩ := hinv
    obtain ⟨u291, hinv⟩ := hinv
    obtain ⟨u292, hinv⟩ := hinv
    obtain ⟨u293, hinv⟩ := hinv
    obtain ⟨u294, hinv⟩ := hinv
    obtain ⟨u295, hinv⟩ := hinv
    obtain ⟨u296, hinv⟩ := hinv
    obtain ⟨u297, hinv⟩ := hinv
    obtain ⟨u298, hinv⟩ := hinv
    obtain ⟨u299, hinv⟩ := hinv
    obtain ⟨u300, hinv⟩ := hinv
    obtain ⟨u301, hinv⟩ := hinv
    obtain ⟨u302, hinv⟩ := hinv
    obtain ⟨u303, hinv⟩ := hinv
    obtain ⟨u304, hinv⟩ := hinv
    obtain ⟨u305, hinv⟩ := hinv
    obtain ⟨u306, hinv⟩ := hinv
    obtain ⟨u307, hinv⟩ := hinv
    obtain ⟨u308, hinv⟩ := hinv
    obtain ⟨u309, hinv⟩ := hinv
    obtain ⟨u310, hinv⟩ := hinv
    obtain ⟨u311, hinv⟩ := hinv
    obtain ⟨u312, hinv⟩ := hinv
    obtain ⟨u313, hinv⟩ := hinv
    obtain ⟨u314, hinv⟩ := hinv
    obtain ⟨u315, hinv⟩ := hinv
    obtain ⟨u316, hinv⟩ := hinv
    obtain ⟨u317, hinv⟩ := hinv
    obtain ⟨u318, hinv⟩ := hinv
    obtain ⟨u319, hinv⟩ := hinv
    obtain ⟨u320, hinv⟩ := hinv
    obtain ⟨u321, hinv⟩ := hinv
    obtain ⟨u322, hinv⟩ := hinv
    obtain ⟨u323, hinv⟩ := hinv
    obtain ⟨u324, hinv⟩ := hinv
    obtain ⟨u325, hinv⟩ := hinv
    obtain ⟨u326, hinv⟩ := hinv
    obtain ⟨u327, hinv⟩ := hinv
    obtain ⟨u328, hinv⟩ := hinv
    obtain ⟨u329, hinv⟩ := hinv
    obtain ⟨u330, hinv⟩ := hinv
    obtain ⟨u331, hinv⟩ := hinv
    obtain ⟨u332, hinv⟩ := hinv
    obtain ⟨u333, hinv⟩ := hinv
    obtain ⟨u334, hinv⟩ := hinv
    obtain ⟨u335, hinv⟩ := hinv
    obtain ⟨u336, hinv⟩ := hinv
    obtain ⟨u337, hinv⟩ := hinv
    obtain ⟨u338, hinv⟩ := hinv
    obtain ⟨u339, hinv⟩ := hinv
    obtain ⟨u340, hinv⟩ := hinv
    obtain ⟨u341, hinv⟩ := hinv
    obtain ⟨u342, hinv⟩ := hinv
    obtain ⟨u343, hinv⟩ := hinv
    obtain ⟨u344, hinv⟩ := hinv
    obtain ⟨u345, hinv⟩ := hinv
    obtain ⟨u346, hinv⟩ := hinv
    obtain ⟨u347, hinv⟩ := hinv
    obtain ⟨u348, hinv⟩ := hinv
    obtain ⟨u349, hinv⟩ := hinv
    obtain ⟨u350, hinv⟩ := hinv
    obtain ⟨u351, hinv⟩ := hinv
    obtain ⟨u352, hinv⟩ := hinv
    obtain ⟨u353, hinv⟩ := hinv
    obtain ⟨u354, hinv⟩ := hinv
    obtain ⟨u355, hinv⟩ := hinv
    obtain ⟨u356, hinv⟩ := hinv
    obtain ⟨u357, hinv⟩ := hinv
    obtain ⟨u358, hinv⟩ := hinv
    obtain ⟨u359, hinv⟩ := hinv
    obtain ⟨u360, hinv⟩ := hinv
    obtain ⟨u361, hinv⟩ := hinv
    obtain ⟨u362, hinv⟩ := hinv
    obtain ⟨u363, hinv⟩ := hinv
    obtain ⟨u364, hinv⟩ := hinv
    obtain ⟨u365, hinv⟩ := hinv
    obtain ⟨u366, hinv⟩ := hinv
    obtain ⟨u367, hinv⟩ := hinv
    obtain ⟨u368, hinv⟩ := hinv
    obtain ⟨u369, hinv⟩ := hinv
    obtain ⟨u370, hinv⟩ := hinv
    obtain ⟨u371, hinv⟩ := hinv
    obtain ⟨u372, hinv⟩ := hinv
    obtain ⟨u373, hinv⟩ := hinv
    obtain ⟨u374, hinv⟩ := hinv
    obtain ⟨u375, hinv⟩ := hinv
    obtain ⟨u376, hinv⟩ := hinv
    obtain ⟨u377, hinv⟩ := hinv
    obtain ⟨u378, hinv⟩ := hinv
    subst hinv
    by_cases hgo : k + 2 < len2 ∧ k < 75
    · have hSK : SpK K0 a0 a1 a2 len2 cap2 w G b c p W y cw cc co cr F N P kpti inv k := by
        clear hA hIk
        unfold SpK
        intros
        rename_i ga' ca' gb' cb' R' s' I' n' wx' hn' hA' hI'
        subst hn'
        refine hK0 _ _ ⟨72 - k, by omega, hJ0 _ _ _ ⟨k + 3, ga', ca', gb', cb', R', s', I', (k : Int) + 3, by omega, by omega, by omega, hA', hI', ?_⟩⟩
        (repeat apply Exists.intro)
        rfl
      clear hK0 hJ0 h1 h2 h3 h54
      by_cases hnew : I.length = 0 ∨ z2.getD k 0 % 12 = 0
      · exact spNew a0 a1 a2 len2 cap2 z2 w p2 _ _ _ _ _ _ _ _ _ _ _ _ _ _ _ _ _ _ _ _ _ _ _ _ _ _ _ _ _ _ _ _ _ _ _ _ _ _ _ _ _ _ _ _ _ _ _ _ _ _ _ _ _ _ _ _ _ _ _ _ _ _ _ _ _ _ _ _ _ _ _ _ _ _ _ _ _ _ _ _ _ _ _ _ _ _ _ _ _ _ _ _ _ _ _ _ _ _ _ _ _ _ _ _ _ _ _ _ _ _ _ _ _ _ _ _ _ _ _ _ _ _ _ _ _ _ _ _ _ _ _ _ _ _ _ _ _ _ _ _ _ _ _ _ _ _ _ _ _ _ _ _ _ _ _ _ _ _ _ _ _ _ _ _ _ _ _ _ _ _ _ _ _ _ _ _ _ _ _ _ _ _ _ _ _ _ _ _ _ _ _ _ _ _ _ _ _ _ _ _ _ _ _ _ _ _ _ _ _ _ _ _ _ _ _ _ _ _ _ _ _ _ _ _ _ _ _ _ _ _ _ _ _ _ _ _ _ _ _ _ _ _ _ _ _ _ _ _ _ _ _ _ _ _ _ _ _ _ _ _ _ _ _ _ _ _ _ _ _ _ _ _ _ _ _ _ _ _ _ _ _ _ _ _ _ _ _ _ _ _ _ _ _ _ _ _ _ _ _ _ _ _ _ _ _ _ _ _ _ _ _ _ _ _ _ _ _ _ _ _ _ _ _ _ _ _ _ _ _ _ _ _ _ _ _ _ _ _ _ _ _ _ _ _ _ _ _ _ _ _ _ _ _ _ _ _ _ _ _ _ _ _ _ _ _ _ _ _ G b c p W y cw cc co cr F N P kpti inv k ga ca gb cb R s I wr hSK hyk.out hA hIk hk3 hgo.1 hgo.2 hnew
      · have hl0 : ¬ I.length = 0 := fun e => hnew (Or.inl e)
        by_cases h1 : z2.getD k 0 % 12 = 1 ∧ 1 < I.length
        · obtain ⟨J, i, rfl⟩ : ∃ J i, I = J ++ [i] := by
            rcases List.eq_nil_or_concat I with e | ⟨J, i, e⟩
            · rw [e] at hl0; exact absurd rfl hl0
            · exact ⟨J, i, by simpa using e⟩
          obtain ⟨L, hL⟩ : ∃ L, J.length = L := ⟨_, rfl⟩
          have e : (J ++ [i]).length = L + 1 := by simp [hL]
          rw [e] at hIk h1 ⊢
          exact spDrop a0 a1 a2 len2 cap2 z2 w p2 _ _ _ _ _ _ _ _ _ _ _ _ _ _ _ _ _ _ _ _ _ _ _ _ _ _ _ _ _ _ _ _ _ _ _ _ _ _ _ _ _ _ _ _ _ _ _ _ _ _ _ _ _ _ _ _ _ _ _ _ _ _ _ _ _ _ _ _ _ _ _ _ _ _ _ _ _ _ _ _ _ _ _ _ _ _ _ _ _ _ _ _ _ _ _ _ _ _ _ _ _ _ _ _ _ _ _ _ _ _ _ _ _ _ _ _ _ _ _ _ _ _ _ _ _ _ _ _ _ _ _ _ _ _ _ _ _ _ _ _ _ _ _ _ _ _ _ _ _ _ _ _ _ _ _ _ _ _ _ _ _ _ _ _ _ _ _ _ _ _ _ _ _ _ _ _ _ _ _ _ _ _ _ _ _ _ _ _ _ _ _ _ _ _ _ _ _ _ _ _ _ _ _ _ _ _ _ _ _ _ _ _ _ _ _ _ _ _ _ _ _ _ _ _ _ _ _ _ _ _ _ _ _ _ _ _ _ _ _ _ _ _ _ _ _ _ _ _ _ _ _ _ _ _ _ _ _ _ _ _ _ _ _ _ _ _ _ _ _ _ _ _ _ _ _ _ _ _ _ _ _ _ _ _ _ _ _ _ _ _ _ _ _ _ _ _ _ _ _ _ _ _ _ _ _ _ _ _ _ _ _ _ _ _ _ _ _ _ _ _ _ _ _ _ _ _ _ _ _ _ _ _ _ _ _ _ _ _ _ _ _ _ _ _ _ _ _ _ _ _ _ _ _ _ _ _ _ _ _ _ _ _ _ _ _ _ _ _ G b c p W y cw cc co cr F N P kpti inv k ga ca gb cb R s J i L wr hSK hL (by omega) hA hIk hgo.1 hgo.2 h1.1
        · have hne : ∀ f : Itm → Nat, I.map f ≠ [] := fun f e => by
            have := congrArg List.length e
            simp at this
            rw [this] at hl0
            exact hl0 rfl
          obtain ⟨gA, rfl, _⟩ := hA.ex.pa.cells.resolve_left (hne _)
          obtain ⟨gB, rfl, _⟩ := hA.ex.pb.cells.resolve_left (hne _)
          obtain ⟨n, hn⟩ : ∃ n, I.length = n := ⟨_, rfl⟩
          rw [hn] at hIk h1 hl0 ⊢
          exact spSet a0 a1 a2 len2 cap2 z2 w p2 _ _ _ _ _ _ _ _ _ _ _ _ _ _ _ _ _ _ _ _ _ _ _ _ _ _ _ _ _ _ _ _ _ _ _ _ _ _ _ _ _ _ _ _ _ _ _ _ _ _ _ _ _ _ _ _ _ _ _ _ _ _ _ _ _ _ _ _ _ _ _ _ _ _ _ _ _ _ _ _ _ _ _ _ _ _ _ _ _ _ _ _ _ _ _ _ _ _ _ _ _ _ _ _ _ _ _ _ _ _ _ _ _ _ _ _ _ _ _ _ _ _ _ _ _ _ _ _ _ _ _ _ _ _ _ _ _ _ _ _ _ _ _ _ _ _ _ _ _ _ _ _ _ _ _ _ _ _ _ _ _ _ _ _ _ _ _ _ _ _ _ _ _ _ _ _ _ _ _ _ _ _ _ _ _ _ _ _ _ _ _ _ _ _ _ _ _ _ _ _ _ _ _ _ _ _ _ _ _ _ _ _ _ _ _ _ _ _ _ _ _ _ _ _ _ _ _ _ _ _ _ _ _ _ _ _ _ _ _ _ _ _ _ _ _ _ _ _ _ _ _ _ _ _ _ _ _ _ _ _ _ _ _ _ _ _ _ _ _ _ _ _ _ _ _ _ _ _ _ _ _ _ _ _ _ _ _ _ _ _ _ _ _ _ _ _ _ _ _ _ _ _ _ _ _ _ _ _ _ _ _ _ _ _ _ _ _ _ _ _ _ _ _ _ _ _ _ _ _ _ _ _ _ _ _ _ _ _ _ _ _ _ _ _ _ _ _ _ _ _ _ _ _ _ _ _ _ _ _ _ _ _ _ _ _ _ _ _ G b c p W y cw cc co cr F N P kpti inv k n gA gB ca cb R s I wr hSK hn (by omega) hIk hA hgo.1 hgo.2 (fun e => hnew (Or.inr e)) h1
    · have hq : (¬ k + 2 < len2 ∧ decide ((k : Int) + 2 < len2) = false) ∨ (k + 2 < len2 ∧ (k : Int) + 2 < len2 ∧ decide ((k : Int) < 75) = false) := by
        by_cases hl : k + 2 < len2
        · exact Or.inr ⟨hl, by omega, by simp; omega⟩
        · exact Or.inl ⟨hl, by simp; omega⟩
      have hI25 : I.length ≤ 25 := by omega
      clear p2 hgo hIk
      rcases hq with ⟨q0, q1⟩ | ⟨q0, q1, q2⟩ <;>
      · go_wp2_with fail
        refine h3.out _ _ ?_
        exact h54.out _ _ _ _ _ _ _ _ _ _ _ _ _ _ _ _ _ _ _ _ _ _ _ _ _ _ _ _ _ _ _ _ _ _ _ _ _ _ _ _ _ _ _ _ _ _ _ _ _ _ _ _ _ _ _ _ _ _ _ _ _ _ _ _ _ _ _ _ _ _ _ _ _ _ _ _ _ _ _ _ _ _ _ _ _ _ _ _ _ _ _ _ _ _ _ _ _ _ _ _ _ _ _ _ _ _ _ _ _ _ _ _ _ _ _ _ _ _ _ _ _ _ _ _ _ _ _ _ _ _ _ _ _ _ _ _ _ _ _ _ _ _ _ _ _ _ _ _ _ _ _ _ _ _ _ _ _ _ _ _ _ _ _ _ _ _ _ _ _ _ _ _ _ _ _ _ _ _ _ _ _ _ _ _ _ _ _ _ _ _ _ _ _ _ _ _ _ _ _ _ _ _ _ _ _ _ _ _ _ _ _ _ _ _ _ _ _ _ _ _ _ _ _ _ _ _ _ _ _ _ _ _ _ _ _ _ _ _ _ _ _ _ _ _ _ _ _ _ _ _ _ _ _ _ _ _ _ _ _ _ _ _ _ _ _ _ _ _ _ _ _ _ _ _ _ _ _ _ _ _ _ _ _ _ _ _ _ _ _ _ _ _ _ _ _ _ _ _ _ _ _ _ _ _ _ _ _ _ _ _ _ _ _ _ _ _ _ _ _ _ _ _ _ _ _ _ _ _ _ _ _ _ _ _ _ _ _ _ _ _ _ _ _ _ _ _ _ _ _ _ _ _ _ _ _ _ _ _ _ _ _ _ _ _ _ _ _ _ _ _ _ _ _ _ _ _ _ _ _ _ _ _ _ _ _ _ _ _ _ _ _ _ hyk.out hI25 hA
end Go.Proofs.Ytoododpeoffieaa
/-
  The walk of SpacePlays: behind its loop: each space's tables, as both tell them.
-/
namespace Go.Proofs.Ytoododpeoffieaa
open Go.ChangeShapes Go.WideShapes Go.ChangeAt Go.RowKit

/-- A list in new memory. -/
def IntC (w : World) (a : Option Addr) (l : List Int) : Prop := l = [] ∨ ∃ g, a = some ⟨g, 0, none⟩ ∧ g < w.heap.size ∧ ∀ i, i < l.length → w.cell? ⟨g, i, none⟩ = some (.int .i64 (l.getD i 0))
theorem IntC.touch {w w' : World} {a : Option Addr} {l : List Int} (h : IntC w a l) (t : Touch Nil w w') : IntC w' a l := by
  rcases h with h | ⟨g, rfl, hg, hc⟩
  · exact Or.inl h
  · refine Or.inr ⟨g, rfl, Nat.lt_of_lt_of_le hg t.size, fun i hi => ?_⟩
    have := hc i hi
    unfold World.cell? at this ⊢
    rw [t.block g hg (fun q => q.elim)]; exact this
theorem copy_all {w : World} {a : Option Addr} {cap : Nat} {l : List Int} (h : NL w a cap l) (few : l.length ≤ 1000) :
    ∃ a' cap' w', (Builtin.append_ #[22, 22] 22 #[.slice none 0 0, .slice a l.length cap]).run Try.prog w = .ok (.slice a' l.length cap') w' ∧ IntC w' a' l ∧ Touch Nil w w' := by
  obtain ⟨i0, hi, hzz⟩ := Option.map_eq_some_iff.1 (show (Try.prog.info? 3).map (fun i => (i.zero, i.size, i.bytes)) = some (some (.int .i64 0), 1, 8) by kernel_rfl)
  simp only [Prod.mk.injEq] at hzz
  obtain ⟨hz0, hz1, hz2⟩ := hzz
  have ht : Try.prog.underlying 22 = some (.slice 3) := Try.underlying22
  rcases h with ⟨rfl, rfl, rfl⟩ | ⟨g, m, f, rfl, h3, h4, h5, h6, h8⟩
  · refine ⟨none, 0, w, ?_, Or.inl rfl, Touch.refl _ _⟩
    simp [Builtin.append_, run_underlying ht, sizeOf, typeInfo, hi, Builtin.lenOf, Builtin.firstCells]
  · obtain ⟨v', w', hr, e2, e3, _⟩ := run_append_own (P := Try.prog) w w.heap.size 22 22 3 i0 (.int .i64 0) 1 8 ht hi hz0 hz1 hz2 rfl (by decide) (.slice none 0 0) 0 [] (World.ownsRow_nil w _ _ _) ⟨g, 0, none⟩ l.length cap (nlist l) (by rw [nlist_len]; omega)
      (fun j u hu => by
        have hj : j < l.length := by have := (List.getElem?_eq_some_iff.1 hu).1; rwa [nlist_len] at this
        rw [nlist_get l hj] at hu
        rw [Addr.add_mid, h5.cell (by omega), Nat.zero_add, h8 j hj, hu]) (fun u hu => by simp [nlist] at hu; obtain ⟨x, _, rfl⟩ := hu; rfl) (by unfold maxLen; omega) (by omega) (Nat.le_refl _)
    rw [Nat.zero_add] at e2
    have tt : Touch Nil w w' := ⟨e3.os, e3.tape, e3.output, e3.size, fun k hk _ => e3.block k hk (by simp [Value.ownBlock])⟩
    obtain ⟨h1, h2⟩ := e2
    rcases h2 with ⟨rfl, h0⟩ | ⟨g', cp, cur, rfl, g1, g2, g3, g4, g5, g6⟩
    · exact ⟨none, 0, w', by rw [hr, h0], Or.inl (List.length_eq_zero_iff.1 h0), tt⟩
    · refine ⟨_, cp, w', hr, Or.inr ⟨g', rfl, ?_, fun i hi => ?_⟩, tt⟩
      · by_cases q : g' < w'.heap.size
        · exact q
        · rw [Array.getElem?_eq_none (by omega)] at g2; cases g2
      · have e9 := nlist_get l hi
        rw [show nlist l = [] ++ nlist l from rfl, ← g6, List.getElem?_take, if_pos (by omega)] at e9
        simp only [Array.getElem?_toList] at e9
        unfold World.cell?
        rw [g2]
        simpa using e9
theorem stab_rise (S : SS) (j : Nat) (hj : j + 1 < S.stab.length) : S.stab.getD j 0 < S.stab.getD (j + 1) 0 := by
  have h1 : S.stab.Pairwise (fun x y => decide (x ≤ y) = true) := List.pairwise_mergeSort (fun a b c h1 h2 => by simp at *; omega) (fun a b => by simp; omega) _
  have h2 := stab_nodup S
  have a := List.pairwise_iff_getElem.1 h1 j (j + 1) (by omega) hj (by omega)
  have b := List.pairwise_iff_getElem.1 h2 j (j + 1) (by omega) hj (by omega)
  rw [List.getD_eq_getElem?_getD, List.getD_eq_getElem?_getD, List.getElem?_eq_getElem hj, List.getElem?_eq_getElem (by omega : j < _)]
  simp at a ⊢
  omega
set_option maxRecDepth 100000 in
set_option maxHeartbeats 16000000 in
theorem spEnd (a0 a1 : Int) (a2 : Option Addr) (len2 cap2 : Nat) (w : World)
    (u3 u4 u5 u6 u8 u11 u13 u17 u18 u19 u20 u21 u22 u23 u24 u25 u26 u27 u28 u29 u30 u31 u32 u33 u34 u35 u36 u37 u38 u39 u40 u41 u42 u43 u44 u45 u46 u47 u48 u49 u50 u51 u52 u53 u54 u55 u56 u57 u58 u59 u60 u61 u62 u63 u64 u65 u66 u67 u68 u69 u70 u71 u72 u73 u74 u75 u76 u77 u78 u79 u80 u81 u82 u83 u84 u85 u86 u87 u88 u89 u90 u91 u92 u93 u94 u95 u96 u97 u98 u99 u100 u101 u102 u103 u104 u105 u106 u107 u108 u109 u110 u111 u112 u113 u114 u115 u116 u117 u118 u119 u120 u121 u122 u123 u124 u125 u126 u127 u128 u129 u130 u131 u132 u133 u134 u135 u136 u137 u138 u139 u140 u141 u142 u143 u144 u145 u146 u147 u148 u149 u150 u151 u152 u153 u154 u155 u156 u157 u158 u159 u160 u161 u162 u163 u164 u165 u166 u167 u168 u169 u170 u171 u172 u173 u174 u175 u176 u177 u178 u179 u180 u181 u182 u183 u184 u185 u186 u187 u188 u189 u190 u191 u192 u193 u194 u195 u196 u197 u198 u199 u200 u201 u202 u203 u204 u205 u206 u207 u208 u209 u210 u211 u212 u213 u214 u215 u216 u217 u218 u219 u220 u221 u222 u223 u224 u225 u226 u227 u228 u229 u230 u231 u232 u233 u234 u235 u236 u237 u238 u239 u240 u241 u242 u243 u244 u245 u246 u247 u248 u249 u250 u251 u252 u253 u254 u255 u256 u257 u258 u259 u260 u261 u262 u263 u264 u265 u266 u267 u268 u269 u270 u271 u272 u273 u274 u275 u276 u277 u278 u279 u280 u281 u282 u283 u284 u285 u286 u287 u288 u289 u290 u291 u292 u293 u294 u295 u296 u297 u298 u299 u300 u301 u302 u303 u304 u305 u306 u307 u308 u309 u310 u311 u312 u313 u314 u315 u316 u317 u318 u319 u320 u321 u322 u323 u324 u325 u326 u327 u328 u329 u330 u331 u332 u333 u334 u335 u336 u337 u338 u339 u340 u341 u342 u343 u344 u345 u346 u347 u348 u349 u350 u351 u352 u353 u354 u355 u356 u357 u358 u359 u360 u361 u362 u363 u364 u365 u366 u367 u368 u369 u370 u371 u372 u373 u374 u375 u376 u377 u378 : Value) (G b c p W : Nat) (y : RW) (cw cc co cr F : Nat) (N P : Int) (kpti inv : Bool) (ga : Option Addr) (ca : Nat) (gb : Option Addr) (cb : Nat) (R : Nat → Int) (s : MS) (I : List Itm) (n : Nat) (wx : World) (hn : I.length = n) (hI : n ≤ 25) (hA : Al w wx b c p W y cw cc co cr G F N P kpti inv ga ca gb cb R s I) :
    Code.wp Try.prog spC54 (spQ w) ⟨(List.toArray ((.int .i64 a0) :: (.int .i64 a1) :: (.slice a2 len2 cap2) :: u3 :: u4 :: u5 :: u6 :: (.pointer (some ⟨G, 0, none⟩)) :: u8 :: (.pointer (some ⟨b, 0, none⟩)) :: (.pointer (some ⟨W, 0, none⟩)) :: u11 :: (.pointer (some ⟨F, 0, none⟩)) :: u13 :: (.pointer (some ⟨p, 0, none⟩)) :: (.slice ga n ca) :: (.slice gb n cb) :: u17 :: u18 :: u19 :: u20 :: u21 :: u22 :: u23 :: u24 :: u25 :: u26 :: u27 :: u28 :: u29 :: u30 :: u31 :: u32 :: u33 :: u34 :: u35 :: u36 :: u37 :: u38 :: u39 :: u40 :: u41 :: u42 :: u43 :: u44 :: u45 :: u46 :: u47 :: u48 :: u49 :: u50 :: u51 :: u52 :: u53 :: u54 :: u55 :: u56 :: u57 :: u58 :: u59 :: u60 :: u61 :: u62 :: u63 :: u64 :: u65 :: u66 :: u67 :: u68 :: u69 :: u70 :: u71 :: u72 :: u73 :: u74 :: u75 :: u76 :: u77 :: u78 :: u79 :: u80 :: u81 :: u82 :: u83 :: u84 :: u85 :: u86 :: u87 :: u88 :: u89 :: u90 :: u91 :: u92 :: u93 :: u94 :: u95 :: u96 :: u97 :: u98 :: u99 :: u100 :: u101 :: u102 :: u103 :: u104 :: u105 :: u106 :: u107 :: u108 :: u109 :: u110 :: u111 :: u112 :: u113 :: u114 :: u115 :: u116 :: u117 :: u118 :: u119 :: u120 :: u121 :: u122 :: u123 :: u124 :: u125 :: u126 :: u127 :: u128 :: u129 :: u130 :: u131 :: u132 :: u133 :: u134 :: u135 :: u136 :: u137 :: u138 :: u139 :: u140 :: u141 :: u142 :: u143 :: u144 :: u145 :: u146 :: u147 :: u148 :: u149 :: u150 :: u151 :: u152 :: u153 :: u154 :: u155 :: u156 :: u157 :: u158 :: u159 :: u160 :: u161 :: u162 :: u163 :: u164 :: u165 :: u166 :: u167 :: u168 :: u169 :: u170 :: u171 :: u172 :: u173 :: u174 :: u175 :: u176 :: u177 :: u178 :: u179 :: u180 :: u181 :: u182 :: u183 :: u184 :: u185 :: u186 :: u187 :: u188 :: u189 :: u190 :: u191 :: u192 :: u193 :: u194 :: u195 :: u196 :: u197 :: u198 :: u199 :: u200 :: u201 :: u202 :: u203 :: u204 :: u205 :: u206 :: u207 :: u208 :: u209 :: u210 :: u211 :: u212 :: u213 :: u214 :: u215 :: u216 :: u217 :: u218 :: u219 :: u220 :: u221 :: u222 :: u223 :: u224 :: u225 :: u226 :: u227 :: u228 :: u229 :: u230 :: u231 :: u232 :: u233 :: u234 :: u235 :: u236 :: u237 :: u238 :: u239 :: u240 :: u241 :: u242 :: u243 :: u244 :: u245 :: u246 :: u247 :: u248 :: u249 :: u250 :: u251 :: u252 :: u253 :: u254 :: u255 :: u256 :: u257 :: u258 :: u259 :: u260 :: u261 :: u262 :: u263 :: u264 :: u265 :: u266 :: u267 :: u268 :: u269 :: u270 :: u271 :: u272 :: u273 :: u274 :: u275 :: u276 :: u277 :: u278 :: u279 :: u280 :: u281 :: u282 :: u283 :: u284 :: u285 :: u286 :: u287 :: u288 :: u289 :: u290 :: u291 :: u292 :: u293 :: u294 :: u295 :: u296 :: u297 :: u298 :: u299 :: u300 :: u301 :: u302 :: u303 :: u304 :: u305 :: u306 :: u307 :: u308 :: u309 :: u310 :: u311 :: u312 :: u313 :: u314 :: u315 :: u316 :: u317 :: u318 :: u319 :: u320 :: u321 :: u322 :: u323 :: u324 :: u325 :: u326 :: u327 :: u328 :: u329 :: u330 :: u331 :: u332 :: u333 :: u334 :: u335 :: u336 :: u337 :: u338 :: u339 :: u340 :: u341 :: u342 :: u343 :: u344 :: u345 :: u346 :: u347 :: u348 :: u349 :: u350 :: u351 :: u352 :: u353 :: u354 :: u355 :: u356 :: u357 :: u358 :: u359 :: u360 :: u361 :: u362 :: u363 :: u364 :: u365 :: u366 :: u367 :: u368 :: u369 :: u370 :: u371 :: u372 :: u373 :: u374 :: u375 :: u376 :: u377 :: u378 :: [])), []⟩ wx := by
  conv => arg 2; whnf
  refine wp_seq_k (fun K1 h1 => ?_)
  replace h1 : Hid _ := h1
  go_wp2_with fail
  go_loopg [312] n (fun g i wr => ∃ t : Nat, g + t = n ∧ i = .int .i64 t ∧ Al w wr b c p W y cw cc co cr G F N P kpti inv ga ca gb cb R s I)
  case atStart => exact ⟨0, by omega, rfl, hA⟩
  case round =>
    clear hA
    obtain ⟨t, hgt, rfl, hA⟩ := hrel
    by_cases ht : t < n
    · have t1 : (t : Int) < n := by omega
      obtain ⟨it, hit⟩ : ∃ it, I[t]? = some it := ⟨I[t]'(by omega), List.getElem?_eq_getElem _⟩
      have hi := List.mem_of_getElem? hit
      have hne : ∀ f : Itm → Nat, I.map f ≠ [] := fun f e => by
        have := congrArg List.length e
        simp at this
        rw [this] at hn; simp at hn; omega
      obtain ⟨gA, rfl, hzA⟩ := hA.ex.pa.cells.resolve_left (hne _)
      obtain ⟨gB, rfl, hzB⟩ := hA.ex.pb.cells.resolve_left (hne _)
      clear hzA hzB
      obtain ⟨cA, cB⟩ := hA.ex.ptrs hit
      obtain ⟨sy, ds, yi, vi⟩ := hA.rl.sys hi
      have ct := ds.sp.tookC
      rw [ds.tk] at ct
      have hll := ds.li.len
      have hperm := ds.li.perm
      obtain ⟨m, hm⟩ : ∃ m, it.S.tabs.length = m := ⟨_, rfl⟩
      have hlm : it.l.length = m := by rw [hperm.length_eq, hm]
      have hsm : it.S.stab.length = m := by rw [stab_len, hm]
      obtain ⟨xa, xc, w3, hr, hX, t3⟩ := copy_all ds.nl (by omega)
      rw [hlm] at hr ct
      have hA3 := hA.nil t3
      have cA3 : w3.cell? ⟨gA, t, none⟩ = some (.pointer (some ⟨it.q, 0, none⟩)) := (hA3.ex.ptrs hit).1
      have hTb := tables_any (hA3.rl.sys hi).1.sp
      rw [hm] at hTb
      have hmem : ∀ j, j < m → ∃ i, i < m ∧ it.l.getD i 0 = it.S.stab.getD j 0 := fun j hj => by
        have h1 : it.S.stab.getD j 0 ∈ it.S.stab := by rw [List.getD_eq_getElem?_getD, List.getElem?_eq_getElem (by omega)]; exact List.getElem_mem _
        have h2 : it.S.stab.getD j 0 ∈ it.l := (hperm.mem_iff).2 ((List.mergeSort_perm _ _).mem_iff.1 h1)
        obtain ⟨i, hi, e⟩ := List.getElem_of_mem h2
        exact ⟨i, by omega, by rw [List.getD_eq_getElem?_getD, List.getElem?_eq_getElem hi, e]; rfl⟩
      have hrise : ∀ j, j + 1 < m → it.S.stab.getD j 0 < it.S.stab.getD (j + 1) 0 := fun j hj => stab_rise _ j (by omega)
      have hm38 : m ≤ 38 := by omega
      replace hmem : Hid _ := hmem
      replace hrise : Hid _ := hrise
      clear sy ds yi vi hll hperm hm hA hne t3
      generalize it.l = lx at *
      generalize it.S.stab = ly at *
      go_upto_region 57 with fail
      go_wp2_with (at_builtin; refine Lib.wpList_append_run_sl _ rfl _ _ 22 rfl _ _ rfl rfl hr ?_)
      with_reducible refine hTb.mono ?_
      rintro e w4 ⟨ya, yc, rfl, hY0, bY⟩
      have t4 : Touch Nil w3 w4 := Touch.ofBelow bY
      have hA4 := hA3.nil t4
      have hX4 := hX.touch t4
      have hY : IntC w4 ya ly := by
        rcases hY0 with h | ⟨g, e, _, q1, q2⟩
        · exact Or.inl h
        · exact Or.inr ⟨g, e, q1, q2⟩
      clear hTb hr hX hY0 bY t4 hA3 cA cB ct cA3 hit hi
      go_wp2_with fail
      go_loopg [335] m (fun g j wz => ∃ jj : Nat, g + jj = m ∧ j = .int .i64 jj ∧ w4 = wz)
      case atStart => exact ⟨0, by omega, rfl, rfl⟩
      case round =>
        obtain ⟨jj, hgj, rfl, rfl⟩ := hrel
        by_cases hj : jj < m
        · have j1 : (jj : Int) < m := by omega
          obtain ⟨gy, rfl, _, hyc⟩ := hY.resolve_left (by intro q; rw [q] at hsm; simp at hsm; omega)
          obtain ⟨gx, rfl, _, hxc⟩ := hX4.resolve_left (by intro q; rw [q] at hlm; simp at hlm; omega)
          have cy := hyc jj (by omega)
          have cyp := fun k (hk : jj = k + 1) => hyc k (by omega)
          obtain ⟨i0, hi0, hfi⟩ := hmem.out jj hj
          have hr' := fun k (hk : jj = k + 1) => (by subst hk; exact hrise.out k hj : ly.getD k 0 < ly.getD jj 0)
          obtain ⟨f, hf⟩ : ∃ f, ly.getD jj 0 = f := ⟨_, rfl⟩
          rw [hf] at cy hfi hr'
          replace hxc : Hid _ := hxc
          replace cyp : Hid _ := cyp
          replace hr' : Hid _ := hr'
          replace hfi : Hid _ := hfi
          clear hyc hY hX4 hf
          go_wp2_with fail
          go_loopg [34, 342] m (fun g fd q wz => ∃ (qq : Nat) (fb : Bool), g + qq = m ∧ q = .int .i64 qq ∧ fd = .bool fb ∧ Aside (i0 < qq → fb = true) ∧ w4 = wz)
          case atStart => exact ⟨0, false, by omega, rfl, rfl, (fun h => by omega), rfl⟩
          case round =>
            obtain ⟨qq, fb, hgq, rfl, rfl, hfb, rfl⟩ := hrel
            by_cases hq : qq < m
            · have q1 : (qq : Int) < m := by omega
              have cx := hxc.out qq (by omega)
              obtain ⟨x, hx⟩ : ∃ x, Hid (lx.getD qq 0 = x) := ⟨_, rfl⟩
              rw [hx.out] at cx
              cases fb with
              | true =>
                go_wp2_with fail
                go_roundg (m - (qq + 1))
                case measure => omega
                case rel => exact ⟨qq + 1, true, by omega, by go_num, rfl, fun _ => rfl, rfl⟩
              | false =>
                have hfn : Aside (i0 < qq + 1 → (x == f) = true) := fun h => by
                  by_cases e : i0 = qq
                  · subst e; rw [← hx.out, hfi.out]; simp
                  · exact absurd (hfb.out (by omega)) (by simp)
                go_wp2_with fail
                go_roundg (m - (qq + 1))
                case measure => omega
                case rel => exact ⟨qq + 1, (x == f), by omega, by go_num, rfl, hfn, rfl⟩
            · have hT : fb = true := hfb.out (by omega)
              subst hT
              rcases Nat.eq_zero_or_pos jj with e | e
              · subst e
                clear hxc cyp hr' hfi hfb
                go_wp2_with fail
                go_roundg (m - 1)
                case measure => omega
                case rel => exact ⟨1, by omega, by go_num, rfl⟩
              · obtain ⟨k, rfl⟩ : ∃ k, jj = k + 1 := ⟨jj - 1, by omega⟩
                have c1 := cyp.out k rfl
                have h1 := hr'.out k rfl
                generalize ly.getD k 0 = z at *
                have d1 : decide (f ≤ z) = false := by simp; omega
                have p1 : IntKind.i64.wrap (((k + 1 : Nat) : Int) - 1) = k := by rw [IntKind.wrap_i64]; omega
                clear hxc cyp hr' hfi hfb
                go_wp2_with fail
                go_roundg (m - (k + 1 + 1))
                case measure => omega
                case rel => exact ⟨k + 1 + 1, by omega, by go_num, rfl⟩
        · have e : jj = m := by omega
          subst e
          clear hY hX4
          go_wp2_with fail
          go_roundg (n - (t + 1))
          case measure => omega
          case rel => exact ⟨t + 1, by omega, by go_num, hA4⟩
    · have hm4 := hA.rl.rh.wo.memC
      have hS := same_any hA.rl.ph.me hA.rl.rh.rm.me
      have T := hA.rl.t
      have e : t = n := by omega
      subst e
      clear hA
      go_wp2_with fail
      refine h1.out _ _ ?_
      go_wp2_with fail
      with_reducible refine hS.mono ?_
      rintro e w5 ⟨rfl, hdr⟩
      have T5 : Touch Nil w w5 := T.trans hdr.touch
      go_wp2_with fail
      with_reducible refine (wakes9 _).mono ?_
      rintro e w6 ⟨rfl, t6⟩
      have T6 := T5.trans t6
      go_wp2_with fail
      go_ret
      exact ⟨rfl, T6⟩
end Go.Proofs.Ytoododpeoffieaa
/-
  SpacePlays: its walk, its pieces joined.
-/
namespace Go.Proofs.Ytoododpeoffieaa
open Go.ChangeShapes Go.WideShapes Go.ChangeAt Go.RowKit

set_option maxRecDepth 100000 in
set_option maxHeartbeats 16000000 in
theorem spacePlays_walk (a0 a1 : Int) (a2 : Option Addr) (len2 cap2 : Nat) (z2 : List Int) (w : World) (h0 : (Lit.int .i64 a0).wf = true) (r2 : Row .i64 w a2 len2 cap2 z2) :
    Calls Try.prog 3 #[.int .i64 a0, .int .i64 a1, .slice a2 len2 cap2] w fun e w' => e = .returned (.bool true) ∧ Touch Nil w w' := by
  refine spStart a0 a1 a2 len2 cap2 w h0 ?_
  intros
  rename_i G N P kpti inv wx hp
  refine spMid a0 a1 a2 len2 cap2 w ?_ _ _ _ _ _ _ _ _ _ _ _ _ _ _ _ _ _ _ _ _ _ _ _ _ _ _ _ _ _ _ _ _ _ _ _ _ _ _ _ _ _ _ _ _ _ _ _ _ _ _ _ _ _ _ _ _ _ _ _ _ _ _ _ _ _ _ _ _ _ _ _ _ _ _ _ _ _ _ _ _ _ _ _ _ _ _ _ _ _ _ _ _ _ _ _ _ _ _ _ _ _ _ _ _ _ _ _ _ _ _ _ _ _ _ _ _ _ _ _ _ _ _ _ _ _ _ _ _ _ _ _ _ _ _ _ _ _ _ _ _ _ _ _ _ _ _ _ _ _ _ _ _ _ _ _ _ _ _ _ _ _ _ _ _ _ _ _ _ _ _ _ _ _ _ _ _ _ _ _ _ _ _ _ _ _ _ _ _ _ _ _ _ _ _ _ _ _ _ _ _ _ _ _ _ _ _ _ _ _ _ _ _ _ _ _ _ _ _ _ _ _ _ _ _ _ _ _ _ _ _ _ _ _ _ _ _ _ _ _ _ _ _ _ _ _ _ _ _ _ _ _ _ _ _ _ _ _ _ _ _ _ _ _ _ _ _ _ _ _ _ _ _ _ _ _ _ _ _ _ _ _ _ _ _ _ _ _ _ _ _ _ _ _ _ _ _ _ _ _ _ _ _ _ _ _ _ _ _ _ _ _ _ _ _ _ _ _ _ _ _ _ _ _ _ _ _ _ _ _ _ _ _ _ _ _ _ _ _ _ _ _ _ _ _ _ _ _ _ _ _ _ _ _ _ _ _ _ _ _ _ _ _ _ _ _ _ _ _ _ _ _ _ _ _ G N P kpti inv wx hp
  clear hp
  intros
  rename_i G b c p W y cw cc co cr F N P kpti inv s wx hyk hA
  refine spLoop a0 a1 a2 len2 cap2 z2 w r2.plain ?_ _ _ _ _ _ _ _ _ _ _ _ _ _ _ _ _ _ _ _ _ _ _ _ _ _ _ _ _ _ _ _ _ _ _ _ _ _ _ _ _ _ _ _ _ _ _ _ _ _ _ _ _ _ _ _ _ _ _ _ _ _ _ _ _ _ _ _ _ _ _ _ _ _ _ _ _ _ _ _ _ _ _ _ _ _ _ _ _ _ _ _ _ _ _ _ _ _ _ _ _ _ _ _ _ _ _ _ _ _ _ _ _ _ _ _ _ _ _ _ _ _ _ _ _ _ _ _ _ _ _ _ _ _ _ _ _ _ _ _ _ _ _ _ _ _ _ _ _ _ _ _ _ _ _ _ _ _ _ _ _ _ _ _ _ _ _ _ _ _ _ _ _ _ _ _ _ _ _ _ _ _ _ _ _ _ _ _ _ _ _ _ _ _ _ _ _ _ _ _ _ _ _ _ _ _ _ _ _ _ _ _ _ _ _ _ _ _ _ _ _ _ _ _ _ _ _ _ _ _ _ _ _ _ _ _ _ _ _ _ _ _ _ _ _ _ _ _ _ _ _ _ _ _ _ _ _ _ _ _ _ _ _ _ _ _ _ _ _ _ _ _ _ _ _ _ _ _ _ _ _ _ _ _ _ _ _ _ _ _ _ _ _ _ _ _ _ _ _ _ _ _ _ _ _ _ _ _ _ _ _ _ _ _ _ _ _ _ _ _ _ _ _ _ _ _ _ _ _ _ _ _ _ _ _ _ _ _ _ _ _ _ _ _ _ _ _ _ _ _ _ _ _ _ _ _ _ _ _ _ _ _ _ _ _ _ _ _ _ _ _ G b c p W y cw cc co cr F N P kpti inv s wx hyk hA
  clear hA hyk
  intros
  rename_i G b c p W y cw cc co cr F N P kpti inv ga ca gb cb R s I wx hyk hI hA
  exact spEnd a0 a1 a2 len2 cap2 w _ _ _ _ _ _ _ _ _ _ _ _ _ _ _ _ _ _ _ _ _ _ _ _ _ _ _ _ _ _ _ _ _ _ _ _ _ _ _ _ _ _ _ _ _ _ _ _ _ _ _ _ _ _ _ _ _ _ _ _ _ _ _ _ _ _ _ _ _ _ _ _ _ _ _ _ _ _ _ _ _ _ _ _ _ _ _ _ _ _ _ _ _ _ _ _ _ _ _ _ _ _ _ _ _ _ _ _ _ _ _ _ _ _ _ _ _ _ _ _ _ _ _ _ _ _ _ _ _ _ _ _ _ _ _ _ _ _ _ _ _ _ _ _ _ _ _ _ _ _ _ _ _ _ _ _ _ _ _ _ _ _ _ _ _ _ _ _ _ _ _ _ _ _ _ _ _ _ _ _ _ _ _ _ _ _ _ _ _ _ _ _ _ _ _ _ _ _ _ _ _ _ _ _ _ _ _ _ _ _ _ _ _ _ _ _ _ _ _ _ _ _ _ _ _ _ _ _ _ _ _ _ _ _ _ _ _ _ _ _ _ _ _ _ _ _ _ _ _ _ _ _ _ _ _ _ _ _ _ _ _ _ _ _ _ _ _ _ _ _ _ _ _ _ _ _ _ _ _ _ _ _ _ _ _ _ _ _ _ _ _ _ _ _ _ _ _ _ _ _ _ _ _ _ _ _ _ _ _ _ _ _ _ _ _ _ _ _ _ _ _ _ _ _ _ _ _ _ _ _ _ _ _ _ _ _ _ _ _ _ _ _ _ _ _ _ _ _ _ _ _ _ _ _ _ _ _ _ _ _ _ _ _ _ _ _ _ _ _ G b c p W y cw cc co cr F N P kpti inv ga ca gb cb R s I _ wx rfl hI hA
end Go.Proofs.Ytoododpeoffieaa
