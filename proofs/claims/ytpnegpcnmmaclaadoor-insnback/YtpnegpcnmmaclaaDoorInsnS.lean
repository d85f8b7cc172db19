/-
  Instructions, and their texts, as plain functions on lists of bytes: nothing of any program.
-/
import Derived.Lib.AtoiAll
import Derived.Lib.ItoaNum
import Derived.Lib.Bytealg
namespace Go.Proofs.YtpnegpcnmmaclaaDoor

/-- An instruction. -/
structure Ins where
  op : Int
  a : Int
  b : Int
  n : Int
  deriving DecidableEq, Repr

/-- A number's digits, by so many steps at most. -/
def digF : Nat → Nat → List UInt8
  | 0, n => [UInt8.ofNat (48 + n % 10)]
  | f + 1, n => if n < 10 then [UInt8.ofNat (48 + n)] else digF f (n / 10) ++ [UInt8.ofNat (48 + n % 10)]
def dig (n : Int) : List UInt8 := digF 20 n.toNat

theorem digF_dec : ∀ (f n : Nat), n < 10 ^ (f + 1) → digF f n = Lib.decDigits n
  | 0, n, h => by
    have h' : n < 10 := by simpa using h
    rw [Lib.decDigits, dif_pos h', digF, Nat.mod_eq_of_lt h']
  | f + 1, n, h => by
    rw [Lib.decDigits, digF]
    by_cases h' : n < 10
    · rw [if_pos h', dif_pos h']
    · rw [if_neg h', dif_neg h', digF_dec f (n / 10) (by rw [Nat.pow_succ] at h; omega)]
theorem dig_itoa (n : Int) (h0 : 0 ≤ n) (h1 : n < 100000000000000000000) : Lib.itoa n = dig n := by
  unfold Lib.itoa dig
  rw [if_neg (by omega), digF_dec 20 n.toNat (by have : (10 : Nat) ^ 21 = 1000000000000000000000 := by decide
                                                 omega)]

/-- An op's row: its name, which registers it has, between what its number is. -/
structure Shape where
  name : List UInt8
  a : Bool
  b : Bool
  least : Int
  most : Int
def shape (op : Int) : Shape :=
  if op = 1 then ⟨[115, 101, 116], true, false, 0, 65535⟩
  else if op = 2 then ⟨[97, 100, 100], true, true, 0, 0⟩
  else if op = 3 then ⟨[108, 111, 97, 100], true, true, 0, 65535⟩
  else if op = 4 then ⟨[115, 116, 111, 114, 101], true, true, 0, 65535⟩
  else if op = 5 then ⟨[99, 108, 101, 97, 114], false, true, 0, 65535⟩
  else if op = 6 then ⟨[106, 117, 109, 112], true, false, 0, 23⟩
  else if op = 7 then ⟨[99, 97, 108, 108], false, false, 1, 9⟩
  else ⟨[], false, false, 0, 0⟩
/-- A call's name. -/
def callN (n : Int) : List UInt8 :=
  if n = 1 then [109, 97, 112] else if n = 2 then [117, 110, 109, 97, 112] else if n = 3 then [112, 114, 111, 116, 101, 99, 116] else if n = 4 then [111, 117, 116] else if n = 5 then [102, 111, 114, 107]
  else if n = 6 then [101, 120, 105, 116] else if n = 7 then [121, 105, 101, 108, 100] else if n = 8 then [115, 101, 110, 100] else if n = 9 then [114, 101, 99, 118] else []

/-- A register that the op has is from 0 to 7; one that it has not is 0. -/
def fitP (r : Int) (has : Bool) : Bool := if has then decide (0 ≤ r) && decide (r < 8) else decide (r = 0)
/-- May it be? -/
def okP (x : Ins) : Bool :=
  decide (1 ≤ x.op) && decide (x.op ≤ 7) && fitP x.a (shape x.op).a && fitP x.b (shape x.op).b && decide ((shape x.op).least ≤ x.n) && decide (x.n ≤ (shape x.op).most)
def regP (has : Bool) (r : Int) : List UInt8 := if has then [32, 114] ++ dig r else []
def numP (op n : Int) : List UInt8 := if op = 7 then 32 :: callN n else if 0 < (shape op).most then 32 :: dig n else []
/-- Its text. -/
def prP (x : Ins) : List UInt8 := (shape x.op).name ++ regP (shape x.op).a x.a ++ regP (shape x.op).b x.b ++ numP x.op x.n

/-- A text cut at its first c. -/
def cutc (c : UInt8) : List UInt8 → List UInt8 × List UInt8 × Bool
  | [] => ([], [], false)
  | b :: l => if b = c then ([], l, true) else (b :: (cutc c l).1, (cutc c l).2.1, (cutc c l).2.2)
/-- A word as a number, or -1. -/
def numb (s : List UInt8) : Int := match Lib.atoiAll s with | .ok v => v | _ => -1
def trimR (s : List UInt8) : List UInt8 := match s with | 114 :: r => r | _ => s
/-- The op of a name, or 0. -/
def opN (s : List UInt8) : Int :=
  if s = [] then 0 else if s = (shape 1).name then 1 else if s = (shape 2).name then 2 else if s = (shape 3).name then 3 else if s = (shape 4).name then 4 else if s = (shape 5).name then 5 else if s = (shape 6).name then 6 else if s = (shape 7).name then 7 else 0
def callOf (s : List UInt8) : Int :=
  if s = [] then 0 else if s = callN 1 then 1 else if s = callN 2 then 2 else if s = callN 3 then 3 else if s = callN 4 then 4 else if s = callN 5 then 5 else if s = callN 6 then 6 else if s = callN 7 then 7 else if s = callN 8 then 8 else if s = callN 9 then 9 else 0
def regOf (s : List UInt8) : Int := numb (trimR (cutc 32 s).1)
def restOf (s : List UInt8) : List UInt8 := (cutc 32 s).2.1
/-- The instruction that a text may be. -/
def guessP (s : List UInt8) : Ins :=
  let op := opN (cutc 32 s).1
  let r0 := restOf s
  let r1 := if (shape op).a then restOf r0 else r0
  let r2 := if (shape op).b then restOf r1 else r1
  ⟨op, if (shape op).a then regOf r0 else 0, if (shape op).b then regOf r1 else 0, if op = 7 then callOf r2 else if 0 < (shape op).most then numb r2 else 0⟩
/-- The instruction that a text is. -/
def parseP (s : List UInt8) : Option Ins := if okP (guessP s) && (prP (guessP s) == s) then some (guessP s) else none

/-- The instructions of a text's lines, and 0; or none, and the first line that is none: so many lines may come yet. -/
def codeF : Nat → Nat → List UInt8 → List Ins → List Ins × Nat
  | 0, line, text, acc => if text = [] ∧ 1 < line then (acc, 0) else ([], line)
  | k + 1, line, text, acc =>
    if text = [] ∧ 1 < line then (acc, 0)
    else if (cutc 10 text).2.2 then
      match parseP (cutc 10 text).1 with
      | some x => codeF k (line + 1) (cutc 10 text).2.1 (acc ++ [x])
      | none => ([], line)
    else ([], line)
def codeP (text : List UInt8) : List Ins × Nat := codeF 24 1 text []
end Go.Proofs.YtpnegpcnmmaclaaDoor
