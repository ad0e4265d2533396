/-
  The language of erasure codes as plain functions: words, numbers, tokens, the parser, the printer. No program stands behind this text.
-/
import Derived.WalkKit
namespace Go.Proofs.YtcogkdnlpjfgdaaGreatDoor
set_option linter.unusedVariables false
set_option linter.unusedSimpArgs false

abbrev Bs := List UInt8
def letB (c : UInt8) : Bool := decide (97 ≤ c.toNat ∧ c.toNat ≤ 122)
def digB (c : UInt8) : Bool := decide (48 ≤ c.toNat ∧ c.toNat ≤ 57)
def alnB (c : UInt8) : Bool := letB c || digB c
/-- A letter, and then letters and digits. -/
def wordB : Bs → Bool
  | [] => false
  | c :: r => letB c && (c :: r).all alnB
def kCode : Bs := [99, 111, 100, 101]
def kField : Bs := [102, 105, 101, 108, 100]
def kData : Bs := [100, 97, 116, 97]
def kParity : Bs := [112, 97, 114, 105, 116, 121]
def kLocal : Bs := [108, 111, 99, 97, 108]
def kDomain : Bs := [100, 111, 109, 97, 105, 110]

/-- A code. -/
structure Cd where
  name : Bs
  field : Int
  data : Int
  par : List (List Int)
  dom : Int
def cd0 : Cd := ⟨[], 0, 0, [], 0⟩
def topF (f : Int) : Int := if f = 8 then 255 else 65535
def rowOk (f d : Int) (l : List Int) : Bool := decide ((l.length : Int) = d) && l.all (fun x => decide (0 ≤ x ∧ x ≤ topF f)) && l.any (fun x => decide (x ≠ 0))
/-- P7.1. -/
def checkC (c : Cd) : Int :=
  if wordB c.name = false then 4
  else if 12 < c.name.length then 2
  else if c.field ≠ 8 ∧ c.field ≠ 16 then 1
  else if c.data < 1 ∨ 31 < c.data ∨ c.par = [] then 1
  else if 32 < c.data + c.par.length then 2
  else if c.par.all (rowOk c.field c.data) = false then 1
  else if c.dom < 1 ∨ c.data + c.par.length < c.dom then 1
  else 0
/-- What a code with no error is. -/
structure Good (c : Cd) : Prop where
  word : wordB c.name = true
  len : c.name.length ≤ 12
  field : c.field = 8 ∨ c.field = 16
  d1 : 1 ≤ c.data
  d2 : c.data ≤ 31
  ne : c.par ≠ []
  width : c.data + c.par.length ≤ 32
  rows : ∀ l ∈ c.par, rowOk c.field c.data l = true
  dom1 : 1 ≤ c.dom
  dom2 : c.dom ≤ c.data + c.par.length
theorem checkC_good (c : Cd) : checkC c = 0 ↔ Good c := by
  unfold checkC
  constructor
  · intro h
    split at h
    · omega
    split at h
    · omega
    split at h
    · omega
    split at h
    · omega
    split at h
    · omega
    split at h
    · omega
    split at h
    · omega
    rename_i h1 h2 h3 h4 h5 h6 h7
    simp only [not_or] at h4 h7
    refine ⟨by simpa using h1, by omega, by omega, by omega, by omega, h4.2.2, by omega, ?_, by omega, by omega⟩
    rw [Bool.not_eq_false] at h6
    exact List.all_eq_true.1 h6
  · intro h
    have h1 := h.word
    have h2 := h.len
    have h3 := h.field
    have h4 := h.d1
    have h5 := h.d2
    have h6 := h.ne
    have h7 := h.width
    have h8 := List.all_eq_true.2 h.rows
    have h9 := h.dom1
    have h10 := h.dom2
    rw [if_neg (by simp [h1]), if_neg (by omega), if_neg (by omega), if_neg (by simp only [not_or]; exact ⟨by omega, by omega, h6⟩), if_neg (by omega), if_neg (by simp [h8]), if_neg (by omega)]

/-- The digits of a number. -/
def numS (n : Nat) : Bs := if n < 10 then [UInt8.ofNat (48 + n)] else numS (n / 10) ++ [UInt8.ofNat (48 + n % 10)]
termination_by n
decreasing_by omega
/-- What digits denote. -/
def valS (l : Bs) : Nat := l.foldl (fun n c => 10 * n + (c.toNat - 48)) 0

/-- The texts of a row's parts. -/
def sp (n : Nat) : Bs := 32 :: numS n
def idxs : Nat → List Int → List Nat
  | _, [] => []
  | j, x :: r => if x = 0 then idxs (j + 1) r else j :: idxs (j + 1) r
def vals : List Int → List Nat
  | [] => []
  | x :: r => if x = 0 then vals r else x.toNat :: vals r
def rowS (l : List Int) : Bs :=
  if l.any (fun x => decide (x = 0)) then kLocal ++ (idxs 0 l).flatMap sp ++ [58] ++ (vals l).flatMap sp ++ [59]
  else kParity ++ (l.map Int.toNat).flatMap sp ++ [59]
def nt : Bs := [10, 9]
/-- P7.3: the text of a code. -/
def printS (c : Cd) : Bs :=
  kCode ++ [32] ++ c.name ++ [32, 123, 10, 9] ++ kField ++ sp c.field.toNat ++ [59, 10, 9] ++ kData ++ sp c.data.toNat ++ [59, 10]
    ++ c.par.flatMap (fun l => [9] ++ rowS l ++ [10]) ++ [9] ++ kDomain ++ sp c.dom.toNat ++ [59, 10, 125, 10]
def printC (c : Cd) : Bs × Int :=
  if checkC c ≠ 0 then ([], checkC c) else if 2000 < (printS c).length then ([], 2) else (printS c, 0)

/-- A token: its text, its offset, its kind (1 a word, 2 a number, 3 a sign, 4 the end, 5 none), its value. -/
structure Tk where
  tx : Bs
  ps : Nat
  kd : Nat
  n : Nat
def blank (c : UInt8) : Bool := decide (c = 32 ∨ c = 9 ∨ c = 10)
/-- How many bytes belong to no token; true: within a comment. -/
def skp : Bool → Bs → Nat
  | _, [] => 0
  | true, c :: r => if c = 10 then 1 + skp false r else 1 + skp true r
  | false, c :: r => if blank c then 1 + skp false r else if c = 35 then 1 + skp true r else 0
def signB (c : UInt8) : Bool := decide (c = 123 ∨ c = 125 ∨ c = 59 ∨ c = 58)
/-- The token that stands at the beginning, at offset p. -/
def tokS (p : Nat) : Bs → Tk
  | [] => ⟨[], p, 4, 0⟩
  | c :: r =>
    if letB c then ⟨(c :: r).takeWhile alnB, p, 1, 0⟩
    else if digB c then
      if 5 < ((c :: r).takeWhile digB).length ∨ c = 48 ∧ 1 < ((c :: r).takeWhile digB).length then ⟨[], p, 5, 0⟩
      else ⟨(c :: r).takeWhile digB, p, 2, valS ((c :: r).takeWhile digB)⟩
    else if signB c then ⟨[c], p, 3, 0⟩ else ⟨[], p, 5, 0⟩
def nextS (r : Bs) (p : Nat) : Tk := tokS (p + skp false r) (r.drop (skp false r))
def toksS : Nat → Bs → Nat → List Tk
  | 0, _, _ => []
  | f + 1, r, p => if 3 < (nextS r p).kd then [nextS r p]
    else nextS r p :: toksS f (r.drop (skp false r + (nextS r p).tx.length)) (p + skp false r + (nextS r p).tx.length)
def toks (s : Bs) : List Tk := toksS (s.length + 1) s 0

/-- The parser's state: the token that it stands at, and where a syntax error was found (-1: none). -/
structure PS where
  i : Nat
  bad : Int
def tk0 : Tk := ⟨[], 0, 0, 0⟩
def cur (l : List Tk) (s : PS) : Tk := l.getD s.i tk0
def failP (l : List Tk) (s : PS) : PS := if s.bad < 0 then ⟨s.i, (cur l s).ps⟩ else s
def isP (l : List Tk) (t : Bs) (s : PS) : Bool := decide (s.bad < 0 ∧ ((cur l s).kd = 1 ∨ (cur l s).kd = 3) ∧ (cur l s).tx = t)
def mustP (l : List Tk) (t : Bs) (s : PS) : PS := if isP l t s then ⟨s.i + 1, s.bad⟩ else failP l s
def kindP (l : List Tk) (k : Nat) (s : PS) : PS := if s.bad < 0 ∧ (cur l s).kd = k then ⟨s.i + 1, s.bad⟩ else failP l s
def numsG (l : List Tk) : Nat → PS → List Tk → List Tk × PS
  | 0, s, out => (out, s)
  | f + 1, s, out => if s.bad < 0 ∧ (cur l s).kd = 2 then numsG l f (kindP l 2 s) (out ++ [cur l s]) else (out, s)
def numsP (l : List Tk) (s : PS) : List Tk × PS := numsG l (l.length + 1) (kindP l 2 s) [cur l s]
/-- A statement of a code: its word, the numbers ahead of the colon and those behind it. -/
structure Ln where
  key : Tk
  a : List Tk
  b : List Tk
structure Sc where
  name : Tk
  lines : List Ln
def oneP (l : List Tk) (k : Bs) (s : PS) : Ln × PS :=
  (⟨cur l s, [cur l (mustP l k s)], []⟩, mustP l [59] (kindP l 2 (mustP l k s)))
def rowP (l : List Tk) (s : PS) : Ln × PS :=
  if isP l kLocal s then
    (⟨cur l s, (numsP l (mustP l kLocal s)).1, (numsP l (mustP l [58] (numsP l (mustP l kLocal s)).2)).1⟩, mustP l [59] (numsP l (mustP l [58] (numsP l (mustP l kLocal s)).2)).2)
  else (⟨cur l s, (numsP l (mustP l kParity s)).1, []⟩, mustP l [59] (numsP l (mustP l kParity s)).2)
def rowsG (l : List Tk) : Nat → Bool → PS → List Ln → List Ln × PS
  | 0, _, s, out => (out, s)
  | f + 1, first, s, out =>
    if s.bad < 0 ∧ (first = true ∨ isP l kParity s = true ∨ isP l kLocal s = true) then rowsG l f false (rowP l s).2 (out ++ [(rowP l s).1]) else (out, s)
/-- What stands ahead of the rows. -/
def headP (l : List Tk) (s : PS) : PS := mustP l [123] (kindP l 1 (mustP l kCode s))
/-- The statements up to the last row. -/
def bodyP (l : List Tk) (s : PS) : List Ln × PS :=
  rowsG l (l.length + 1) true (oneP l kData (oneP l kField s).2).2 [(oneP l kField s).1, (oneP l kData (oneP l kField s).2).1]
def endP (l : List Tk) (r : List Ln × PS) : List Ln × PS :=
  if isP l kDomain r.2 then (r.1 ++ [(oneP l kDomain r.2).1], (oneP l kDomain r.2).2) else r
def codeP (l : List Tk) (s : PS) : Sc × PS :=
  (⟨cur l (mustP l kCode s), (endP l (bodyP l (headP l s))).1⟩, mustP l [125] (endP l (bodyP l (headP l s))).2)

/-- A row as it is written, checked: the row, the offset of the error, the error. -/
def parityB (x : Ln) (data most : Int) : List Int × Nat × Int :=
  if (x.a.length : Int) ≠ data then ([], x.key.ps, 1)
  else match x.a.find? (fun t => decide (most < (t.n : Int))) with
    | some t => ([], t.ps, 1)
    | none => if x.a.all (fun t => decide (t.n = 0)) then ([], x.key.ps, 1) else (x.a.map (fun t => (t.n : Int)), 0, 0)
/-- The first index that is too great, or not greater than the one before it (q: one more than that; 0: none). -/
def locI (data : Int) : Nat → List Tk → Option Tk
  | _, [] => none
  | q, t :: r => if data ≤ (t.n : Int) ∨ t.n < q then some t else locI data (t.n + 1) r
def fillL : List Tk → List Tk → List Int → List Int
  | x :: a, y :: b, o => fillL a b (o.set x.n (y.n : Int))
  | _, _, o => o
def localB (x : Ln) (data most : Int) : List Int × Nat × Int :=
  match locI data 0 x.a with
  | some t => ([], t.ps, 1)
  | none => if x.a.length ≠ x.b.length then ([], x.key.ps, 1)
    else match x.b.find? (fun t => decide (t.n = 0 ∨ most < (t.n : Int))) with
      | some t => ([], t.ps, 1)
      | none => (fillL x.a x.b (List.replicate data.toNat 0), 0, 0)
def rowB (x : Ln) (data most : Int) : List Int × Nat × Int := if x.key.tx = kLocal then localB x data most else parityB x data most
def hd (l : List Tk) : Tk := l.headD tk0
def buildL : List Ln → Cd → Cd × Nat × Int
  | [], c => (if c.dom = 0 then { c with dom := c.data + c.par.length } else c, 0, 0)
  | x :: r, c =>
    if x.key.tx = kField then if (hd x.a).n ≠ 8 ∧ (hd x.a).n ≠ 16 then (cd0, (hd x.a).ps, 1) else buildL r { c with field := (hd x.a).n }
    else if x.key.tx = kData then if (hd x.a).n < 1 ∨ 31 < (hd x.a).n then (cd0, (hd x.a).ps, 1) else buildL r { c with data := (hd x.a).n }
    else if x.key.tx = kDomain then if (hd x.a).n < 1 ∨ c.data + c.par.length < ((hd x.a).n : Int) then (cd0, (hd x.a).ps, 1) else buildL r { c with dom := (hd x.a).n }
    else if 32 ≤ c.data + c.par.length then (cd0, x.key.ps, 2)
    else if (rowB x c.data (topF c.field)).2.2 ≠ 0 then (cd0, (rowB x c.data (topF c.field)).2.1, (rowB x c.data (topF c.field)).2.2)
    else buildL r { c with par := c.par ++ [(rowB x c.data (topF c.field)).1] }
def buildS (s : Sc) : Cd × Nat × Int := if 12 < s.name.tx.length then (cd0, s.name.ps, 2) else buildL s.lines ⟨s.name.tx, 0, 0, [], 0⟩
/-- P7.4. -/
def parseC (t : Bs) : Cd × Int × Int :=
  if 2000 < t.length then (cd0, 0, 2)
  else if 0 ≤ (kindP (toks t) 4 (codeP (toks t) ⟨0, -1⟩).2).bad then (cd0, (kindP (toks t) 4 (codeP (toks t) ⟨0, -1⟩).2).bad, 3)
  else ((buildS (codeP (toks t) ⟨0, -1⟩).1).1, ((buildS (codeP (toks t) ⟨0, -1⟩).1).2.1 : Int), (buildS (codeP (toks t) ⟨0, -1⟩).1).2.2)
/-- P7.5. -/
def allG (l : List Tk) : Nat → PS → List Sc → List Sc × PS
  | 0, s, out => (out, s)
  | f + 1, s, out => if s.bad < 0 ∧ (cur l s).kd ≠ 4 then allG l f (codeP l s).2 (out ++ [(codeP l s).1]) else (out, s)
def allB : List Bs → List Sc → List Cd → List Cd × Nat × Int
  | _, [], out => (out, 0, 0)
  | done, x :: r, out =>
    if done.length = 8 then ([], x.name.ps, 2)
    else if done.any (fun n => decide (n = x.name.tx)) then ([], x.name.ps, 4)
    else if (buildS x).2.2 ≠ 0 then ([], (buildS x).2.1, (buildS x).2.2)
    else allB (done ++ [x.name.tx]) r (out ++ [(buildS x).1])
def parseAllC (t : Bs) : List Cd × Int × Int :=
  if 2000 < t.length then ([], 0, 2)
  else if 0 ≤ (allG (toks t) ((toks t).length + 1) ⟨0, -1⟩ []).2.bad then ([], (allG (toks t) ((toks t).length + 1) ⟨0, -1⟩ []).2.bad, 3)
  else ((allB [] (allG (toks t) ((toks t).length + 1) ⟨0, -1⟩ []).1 []).1, ((allB [] (allG (toks t) ((toks t).length + 1) ⟨0, -1⟩ []).1 []).2.1 : Int), (allB [] (allG (toks t) ((toks t).length + 1) ⟨0, -1⟩ []).1 []).2.2)

end Go.Proofs.YtcogkdnlpjfgdaaGreatDoor
