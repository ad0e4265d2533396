/-
  What stage 9 stands on, cut out of older texts. (LngA, LngB, LngC, LngD, LngE, LngF, LngG, LngM, LayT, LngT, LngN, LngO, LngP, LngQ, LngR, LngS, LngU, LngV, LngW, LngX, LayA, CodA, CodB, CodC, CodD, CodE, CodF, CodG, CodH, CodI, CodJ, CodK.)
-/
import Derived.WalkKit
import Derived.Defers
import Derived.Recover
import Derived.Shelf.Abstract
import Derived.Shelf.LaysC
import Derived.Test.YtkfahoaiialndaaGreatDoorRows
import Derived.Shelf.Strings.SlTrimAscii
import Derived.Shelf.Small.Strs
import Derived.Shelf.Strings.Search2
import Derived.OrdersHeld
import Derived.Lib.ConvBytes
import Derived.Test.YtkfahoaiialndaaGreatDoorD9a
import Derived.Test.YtkfahoaiialndaaGreatDoorD9d
namespace Go.Proofs.YtkfahoaiialndaaGreatDoor
set_option linter.unusedVariables false
set_option linter.unusedSimpArgs false
set_option linter.unusedSectionVars false

section
set_option linter.unusedVariables false
set_option linter.unusedSimpArgs false
abbrev Bs := List UInt8
def letB (c : UInt8) : Bool := decide (97 ≤ c.toNat ∧ c.toNat ≤ 122)
def digB (c : UInt8) : Bool := decide (48 ≤ c.toNat ∧ c.toNat ≤ 57)
def alnB (c : UInt8) : Bool := letB c || digB c
/-- A letter, and then letters and digits. -/
def wordB : Bs → Bool
  | [] => false
  | c :: r => letB c && (c :: r).all alnB
def topF (f : Int) : Int := if f = 8 then 255 else 65535
def rowOkL (f d : Int) (l : List Int) : Bool := decide ((l.length : Int) = d) && l.all (fun x => decide (0 ≤ x ∧ x ≤ topF f)) && l.any (fun x => decide (x ≠ 0))
/-- A token: its text, its offset, its kind (1 a word, 2 a number, 3 a sign, 4 the end, 5 none), its value. -/
structure Tk where
  tx : Bs
  ps : Nat
  kd : Nat
  n : Nat
def tk0 : Tk := ⟨[], 0, 0, 0⟩
def hd (l : List Tk) : Tk := l.headD tk0
end

section
open Go.RowKit
set_option linter.unusedVariables false
set_option linter.unusedSimpArgs false
/-- A text as a value. -/
def ss (l : Bs) : ByteArray := ⟨l.toArray⟩
abbrev svL (l : Bs) : Value := .string (ss l)
theorem ss_list (l : Bs) : (ss l).data.toList = l := by unfold ss; simp
theorem ss_size (l : Bs) : (ss l).size = l.length := by unfold ss; simp [ByteArray.size]
end

section
open Go.Shelf
set_option linter.unusedVariables false
def ren7 : Go.Shelf.Ren := ⟨fun | 119 => 147 | 137 => 90 | 151 => 133 | 152 => 143 | 161 => 91 | 197 => 132 | 217 => 110 | 224 => 148 | 225 => 149 | 227 => 112 | 228 => 131 | 231 => 111 | 233 => 113 | 235 => 114 | 260 => 142 | 266 => 130 | n => n, fun | 0 => 0 | 3 => 3 | 4 => 4 | 5 => 5 | 9 => 9 | 21 => 21 | 46 => 76 | 51 => 96 | 105 => 144 | 116 => 125 | 117 => 126 | 119 => 158 | 124 => 129 | 138 => 160 | 139 => 161 | n => n, fun | 1 => 1 | 3 => 2 | 4 => 3 | n => n⟩
set_option maxRecDepth 100000 in
theorem layTrim : Go.Proofs.Lays.n161 Tryz.prog ren7 := {
  mixed := by kernel_rfl
  f119 := Tryz.func147.trans (congrArg some (by kernel_rfl))
  f137 := Tryz.func90.trans (congrArg some (by kernel_rfl))
  f151 := Tryz.func133.trans (congrArg some (by kernel_rfl))
  f152 := Tryz.func143.trans (congrArg some (by kernel_rfl))
  f161 := Tryz.func91.trans (congrArg some (by kernel_rfl))
  f197 := Tryz.func132.trans (congrArg some (by kernel_rfl))
  f217 := Tryz.func110.trans (congrArg some (by kernel_rfl))
  f224 := Tryz.func148.trans (congrArg some (by kernel_rfl))
  f225 := Tryz.func149.trans (congrArg some (by kernel_rfl))
  f227 := Tryz.func112.trans (congrArg some (by kernel_rfl))
  f228 := Tryz.func131.trans (congrArg some (by kernel_rfl))
  f231 := Tryz.func111.trans (congrArg some (by kernel_rfl))
  f233 := Tryz.func113.trans (congrArg some (by kernel_rfl))
  f235 := Tryz.func114.trans (congrArg some (by kernel_rfl))
  f260 := Tryz.func142.trans (congrArg some (by kernel_rfl))
  f266 := Tryz.func130.trans (congrArg some (by kernel_rfl))
  t0 := Tryz.underlying0
  a0 := Tryz.isAgg0
  z0 := Tryz.sizeOf0
  v0 := Tryz.zeroValue0
  t3 := Tryz.underlying3
  a3 := Tryz.isAgg3
  z3 := Tryz.sizeOf3
  v3 := Tryz.zeroValue3
  t4 := Tryz.underlying4
  a4 := Tryz.isAgg4
  z4 := Tryz.sizeOf4
  v4 := Tryz.zeroValue4
  t5 := Tryz.underlying5
  a5 := Tryz.isAgg5
  z5 := Tryz.sizeOf5
  v5 := Tryz.zeroValue5
  t9 := Tryz.underlying9
  a9 := Tryz.isAgg9
  z9 := Tryz.sizeOf9
  v9 := Tryz.zeroValue9
  t21 := Tryz.underlying21
  a21 := Tryz.isAgg21
  z21 := Tryz.sizeOf21
  v21 := Tryz.zeroValue21
  t46 := Tryz.underlying76
  a46 := Tryz.isAgg76
  z46 := Tryz.sizeOf76
  v46 := Tryz.zeroValue76
  t105 := Tryz.underlying144
  a105 := Tryz.isAgg144
  z105 := Tryz.sizeOf144
  v105 := Tryz.zeroValue144
  t116 := Tryz.underlying125
  a116 := Tryz.isAgg125
  z116 := Tryz.sizeOf125
  t117 := Tryz.underlying126
  a117 := Tryz.isAgg126
  z117 := Tryz.sizeOf126
  v117 := Tryz.zeroValue126
  t119 := Tryz.underlying158
  a119 := Tryz.isAgg158
  z119 := Tryz.sizeOf158
  t124 := Tryz.underlying129
  a124 := Tryz.isAgg129
  z124 := Tryz.sizeOf129
  v124 := Tryz.zeroValue129
  t138 := Tryz.underlying160
  a138 := Tryz.isAgg160
  z138 := Tryz.sizeOf160
  v138 := Tryz.zeroValue160
  t139 := Tryz.underlying161
  a139 := Tryz.isAgg161
  z139 := Tryz.sizeOf161
  v139 := Tryz.zeroValue161
  g3 := by kernel_rfl
  g4 := by kernel_rfl }
set_option maxRecDepth 100000 in
theorem layIdx : Go.Proofs.Lays.n137 Tryz.prog ren7 := {
  mixed := by kernel_rfl
  f137 := Tryz.func90.trans (congrArg some (by kernel_rfl))
  f217 := Tryz.func110.trans (congrArg some (by kernel_rfl))
  f266 := Tryz.func130.trans (congrArg some (by kernel_rfl))
  t3 := Tryz.underlying3
  a3 := Tryz.isAgg3
  z3 := Tryz.sizeOf3
  v3 := Tryz.zeroValue3
  t5 := Tryz.underlying5
  a5 := Tryz.isAgg5
  z5 := Tryz.sizeOf5
  v5 := Tryz.zeroValue5
  t9 := Tryz.underlying9
  a9 := Tryz.isAgg9
  z9 := Tryz.sizeOf9
  v9 := Tryz.zeroValue9 }
end

section
open Go.RowKit
set_option linter.unusedVariables false
def csL : Bs := [97, 98, 99, 100, 101, 102, 103, 104, 105, 106, 107, 108, 109, 110, 111, 112, 113, 114, 115, 116, 117, 118, 119, 120, 121, 122]
def csD : Bs := [48, 49, 50, 51, 52, 53, 54, 55, 56, 57]
theorem u8_all {p : UInt8 → Bool} (h : (List.range 256).all (fun n => p (UInt8.ofNat n)) = true) (c : UInt8) : p c = true := by
  have := List.all_eq_true.1 h c.toNat (List.mem_range.2 (UInt8.toNat_lt c))
  rwa [UInt8.ofNat_toNat] at this
theorem csA_is (c : UInt8) : (csL ++ csD).contains c = alnB c := by
  have := u8_all (p := fun c => (csL ++ csD).contains c == alnB c) (by decide +kernel) c
  exact eq_of_beq this
theorem csL_ix (c : UInt8) : decide (Lib.indexByte csL c ≥ 0) = letB c := by
  have := u8_all (p := fun c => decide (Lib.indexByte csL c ≥ 0) == letB c) (by decide +kernel) c
  exact eq_of_beq this
theorem trim_any (l cs : Bs) (p : UInt8 → Bool) (hp : ∀ c, cs.contains c = p c) (h1 : cs.length < 1000) (h2 : cs.all (fun b => decide (b.toNat < 128)) = true) (w : World) :
    Calls Tryz.prog 91 #[svL l, svL cs] w fun e w' => e = .returned (svL (l.dropWhile p)) ∧ Below w.heap.size w w' := by
  have h3 : (fun c => cs.contains c) = p := funext hp
  refine (Any.strings_TrimLeft_laid layTrim (by kernel_rfl) (ss l) (ss cs) w (by rw [ss_size]; omega) (by rw [ss_list]; exact ascii_of_all h2)).mono ?_
  rintro e w' ⟨rfl, hb⟩
  refine ⟨?_, hb⟩
  rw [ss_list, ss_list]
  unfold Lib.trimLeftS
  rw [h3]; rfl
theorem trimA_any (l : Bs) (w : World) : Calls Tryz.prog 91 #[svL l, .string ⟨#[97, 98, 99, 100, 101, 102, 103, 104, 105, 106, 107, 108, 109, 110, 111, 112, 113, 114, 115, 116, 117, 118, 119, 120, 121, 122, 48, 49, 50, 51, 52, 53, 54, 55, 56, 57]⟩] w
    fun e w' => e = .returned (svL (l.dropWhile alnB)) ∧ Below w.heap.size w w' :=
  trim_any l (csL ++ csD) alnB csA_is (by decide) (by decide +kernel) w
theorem index_any (cs : Bs) (c : UInt8) (w : World) : Calls Tryz.prog 90 #[svL cs, .int .u8 (c.toNat : Int)] w fun e w' => e = .returned (.int .i64 (Lib.indexByte cs c)) ∧ w = w' := by
  refine (Any.strings_IndexByte layIdx (ss cs) (c.toNat : Int) w).mono ?_
  rintro e w' ⟨rfl, rfl⟩
  refine ⟨?_, rfl⟩
  rw [ss_list, Int.toNat_natCast]
  have : c.toNat.toUInt8 = c := UInt8.ofNat_toNat
  rw [this]
theorem ixL_any (c : UInt8) (w : World) : Calls Tryz.prog 90 #[.string ⟨#[97, 98, 99, 100, 101, 102, 103, 104, 105, 106, 107, 108, 109, 110, 111, 112, 113, 114, 115, 116, 117, 118, 119, 120, 121, 122]⟩, .int .u8 (c.toNat : Int)] w
    fun e w' => ∃ z : Int, e = .returned (.int .i64 z) ∧ decide (z ≥ 0) = letB c ∧ w = w' :=
  (index_any csL c w).mono fun e w' ⟨h1, h2⟩ => ⟨_, h1, csL_ix c, h2⟩
end

section
open Go.RowKit
set_option linter.unusedVariables false
theorem s_eql (T : TypeId) (a b : Bs) : binOp .eql T (svL a) (svL b) = pure (.bool (decide (a = b))) := by
  have h : decide (a = b) = (a == b) := by rw [Bool.eq_iff_iff, decide_eq_true_iff, beq_iff_eq]
  rw [h, binOp_string_eql, Lib.toList_data, Lib.toList_data, ss_list, ss_list]
theorem s_neqL (T : TypeId) (a b : Bs) : binOp .neq T (svL a) (svL b) = pure (.bool (decide (a ≠ b))) := by
  have h : decide (a ≠ b) = !(a == b) := by rw [Bool.eq_iff_iff, decide_eq_true_iff, Bool.not_eq_true', beq_eq_false_iff_ne]
  rw [h, binOp_string_neq, Lib.toList_data, Lib.toList_data, ss_list, ss_list]
theorem s_at {P : Program} {T : TypeId} (hT : P.underlying T = some .string) (l : Bs) (i : Nat) (hi : i < l.length) (W : World) : (Instr.index T (svL l) (.int .i64 (i : Int))).run P W = .ok (.int .u8 (l[i].toNat : Int)) W := by
  rw [run_index_string W T _ _ _ hT, dif_pos (by rw [ss_size]; omega)]
  unfold ss
  simp [ByteArray.getElem_eq_getElem_data]
theorem s_at0 {P : Program} {T : TypeId} (hT : P.underlying T = some .string) (c : UInt8) (r : Bs) (W : World) : (Instr.index T (svL (c :: r)) (.int .i64 0)).run P W = .ok (.int .u8 (c.toNat : Int)) W := s_at hT (c :: r) 0 (by simp) W
theorem dw_nil {p : UInt8 → Bool} {l : Bs} : l.dropWhile p = [] ↔ l.all p = true := by
  induction l with
  | nil => simp
  | cons c l ih =>
    rw [List.dropWhile_cons, List.all_cons]
    split
    · rename_i h; rw [ih, h, Bool.true_and]
    · rename_i h; simp [h]
set_option maxHeartbeats 400000 in
theorem isWord_any (l : Bs) (w : World) :
    Calls Tryz.prog 62 #[svL l] w fun e w' => e = .returned (.bool (wordB l)) ∧ Below w.heap.size w w' := by
  cases l with
  | nil =>
    have hne : binOp .neq 9 (svL []) (.string ⟨#[]⟩) = pure (.bool false) := s_neqL _ [] []
    go_enter Tryz.func62, Tryz.ntmps62
    go_wp2_with fail
    go_ret
    exact ⟨rfl, Below.refl _ _⟩
  | cons c r =>
    have hne : binOp .neq 9 (svL (c :: r)) (.string ⟨#[]⟩) = pure (.bool true) := s_neqL _ (c :: r) []
    have hix := s_at0 Tryz.underlying9 c r
    have HI := hideIt (ixL_any c)
    have HT := hideIt (trimA_any (c :: r))
    have heq : binOp .eql 9 (svL ((c :: r).dropWhile alnB)) (.string ⟨#[]⟩) = pure (.bool (decide ((c :: r).dropWhile alnB = []))) := s_eql _ _ []
    obtain ⟨bb, hb⟩ : ∃ bb, bb = wordB (c :: r) := ⟨_, rfl⟩
    rw [← hb]
    have hbb : bb = (letB c && decide ((c :: r).dropWhile alnB = [])) := by
      rw [hb]
      show (letB c && (c :: r).all alnB) = _
      congr 1
      rw [Bool.eq_iff_iff, decide_eq_true_iff]
      exact dw_nil.symm
    have HB := hideIt hbb
    generalize (c :: r).dropWhile alnB = d at *
    clear hb hbb
    cases hl : letB c with
    | false =>
      rw [hl] at HI
      have HB : Hid (bb = false) := by rw [HB.out, hl]; rfl
      clear hl
      go_enter Tryz.func62, Tryz.ntmps62
      go_wp2_with (go_at_call 90; refine (HI.out _).mono ?_; rintro e w' ⟨z, rfl, hz, rfl⟩; have hz := of_decide_eq_false hz)
      go_ret
      exact ⟨by rw [HB.out]; rfl, Below.refl _ _⟩
    | true =>
      rw [hl] at HI
      have HB : Hid (bb = decide (d = [])) := by rw [HB.out, hl]; rfl
      clear hl
      go_enter Tryz.func62, Tryz.ntmps62
      go_wp2_with (first
        | (go_at_call 90; refine (HI.out _).mono ?_; rintro e w' ⟨z, rfl, hz, rfl⟩; have hz := of_decide_eq_true hz)
        | (go_at_call 91; refine (HT.out _).mono ?_; rintro e w' ⟨rfl, hw⟩; have HW := hideIt hw; clear hw))
      go_ret
      exact ⟨by rw [HB.out]; rfl, HW.out⟩
theorem len_c (l : Bs) : ((ss l).size : Int) = (l.length : Int) := by rw [ss_size]
end

section
open Go.RowKit
set_option linter.unusedVariables false
set_option linter.unusedSimpArgs false
theorem All2.len {α β : Type} {P : α → β → Prop} : ∀ {us : List α} {bs : List β}, All2 P us bs → us.length = bs.length
  | [], [], _ => rfl
  | [], c :: bs, hh => hh.elim
  | c :: us, [], hh => hh.elim
  | c :: us, d :: bs, hh => by simp [All2.len hh.2]
end

section
open Go.RowKit
set_option linter.unusedVariables false
set_option linter.unusedSimpArgs false
/-- The tests. -/
def fieldB (m : Int) : Bool := decide (m = 8 ∨ m = 16)
def dataB (n : Int) : Bool := decide (1 ≤ n ∧ n ≤ 31)
def coefB (m n : Int) : Bool := decide (0 ≤ n ∧ n ≤ topF m)
theorem isField_any (m : Int) (w : World) : Calls Tryz.prog 63 #[.int .i64 m] w fun e w' => e = .returned (.bool (fieldB m)) ∧ w = w' := by
  unfold fieldB
  have h8 := i_eql 3 .i64 m 8
  have h16 := i_eql 3 .i64 m 16
  by_cases h1 : m = 8
  · rw [decide_eq_true (.inl h1)]
    rw [decide_eq_true h1] at h8
    clear h1
    go_enter Tryz.func63, Tryz.ntmps63
    go_wp2_with fail
    go_ret
    exact ⟨rfl, rfl⟩
  · rw [decide_eq_false h1] at h8
    by_cases h2 : m = 16
    · rw [decide_eq_true (.inr h2)]
      rw [decide_eq_true h2] at h16
      clear h1 h2
      go_enter Tryz.func63, Tryz.ntmps63
      go_wp2_with fail
      go_ret
      exact ⟨rfl, rfl⟩
    · rw [decide_eq_false (fun h => h.elim h1 h2)]
      rw [decide_eq_false h2] at h16
      clear h1 h2
      go_enter Tryz.func63, Tryz.ntmps63
      go_wp2_with fail
      go_ret
      exact ⟨rfl, rfl⟩
theorem isData_any (n : Int) (w : World) : Calls Tryz.prog 64 #[.int .i64 n] w fun e w' => e = .returned (.bool (dataB n)) ∧ w = w' := by
  unfold dataB
  by_cases h1 : n ≥ 1
  · by_cases h2 : n ≤ 31
    · rw [decide_eq_true ⟨h1, h2⟩]
      go_enter Tryz.func64, Tryz.ntmps64
      go_wp2_with fail
      go_ret
      exact ⟨rfl, rfl⟩
    · rw [decide_eq_false (fun h => h2 h.2)]
      go_enter Tryz.func64, Tryz.ntmps64
      go_wp2_with fail
      go_ret
      exact ⟨rfl, rfl⟩
  · rw [decide_eq_false (fun h => h1 h.1)]
    go_enter Tryz.func64, Tryz.ntmps64
    go_wp2_with fail
    go_ret
    exact ⟨rfl, rfl⟩
theorem isCoef_any (m n : Int) (hm : m = 8 ∨ m = 16) (w : World) : Calls Tryz.prog 93 #[.int .i64 m, .int .i64 n] w fun e w' => e = .returned (.bool (coefB m n)) ∧ w = w' := by
  unfold coefB topF
  by_cases h1 : n ≥ 0
  · rcases hm with rfl | rfl
    · rw [if_pos rfl]
      by_cases h2 : n < 256
      · rw [decide_eq_true ⟨h1, by omega⟩]
        go_enter Tryz.func93, Tryz.ntmps93
        go_wp2_with fail
        go_ret
        exact ⟨rfl, rfl⟩
      · rw [decide_eq_false (fun h => h2 (by omega))]
        go_enter Tryz.func93, Tryz.ntmps93
        go_wp2_with fail
        go_ret
        exact ⟨rfl, rfl⟩
    · rw [if_neg (by decide)]
      by_cases h2 : n < 65536
      · rw [decide_eq_true ⟨h1, by omega⟩]
        go_enter Tryz.func93, Tryz.ntmps93
        go_wp2_with fail
        go_ret
        exact ⟨rfl, rfl⟩
      · rw [decide_eq_false (fun h => h2 (by omega))]
        go_enter Tryz.func93, Tryz.ntmps93
        go_wp2_with fail
        go_ret
        exact ⟨rfl, rfl⟩
  · rw [decide_eq_false (fun h => h1 h.1)]
    go_enter Tryz.func93, Tryz.ntmps93
    go_wp2_with fail
    go_ret
    exact ⟨rfl, rfl⟩
def nz (x : Int) : Bool := decide (x ≠ 0)
theorem nzI_any (x : Int) (w : World) : Calls Tryz.prog 116 #[.int .i64 x] w fun e w' => e = .returned (.bool (nz x)) ∧ w = w' := by
  have h := i_neq 3 .i64 x 0
  rw [show decide (x ≠ 0) = nz x from rfl] at h
  generalize nz x = b at *
  go_enter Tryz.func116, Tryz.ntmps116
  go_wp2_with fail
  go_ret
  exact ⟨rfl, rfl⟩
theorem isZero_any (l : List Int) (hl : l.length ≤ 9223372036854775807) (A : Option Addr) (c B : Nat) (w : World) (hs : Sl w B A 1 l.length (l.map iv)) :
    Calls Tryz.prog 95 #[.slice A l.length c] w fun e w' => e = .returned (.bool (!l.any nz)) ∧ w = w' := by
  have HX := hideIt (containsI_any l hl A c B (.func (.func 116) #[] #[]) nz w hs ⟨_, _, rfl, enters_of Tryz.func116 (by kernel_rfl) rfl, fun x => nzI_any x w⟩)
  have hnot : ∀ (x : Bool) (w : World), (Op.unary .not (.bool x)).run Tryz.prog w = .ok (.bool (!x)) w := fun _ _ => rfl
  generalize l.any nz = b at *
  clear hs
  go_enter Tryz.func95, Tryz.ntmps95
  go_wp2_with (go_at_call 94; refine HX.out.mono ?_; rintro e w' ⟨rfl, rfl⟩)
  go_ret
  exact ⟨rfl, rfl⟩
end

section
open Go.RowKit
set_option linter.unusedVariables false
set_option linter.unusedSimpArgs false
abbrev cdVL (nm : Bs) (f d : Int) (v : Value) (dm : Int) : Value := .agg #[svL nm, .int .i64 f, .int .i64 d, v, .int .i64 dm]
abbrev cdCL (nm : Bs) (f d : Int) (v : Value) (dm : Int) : List Value := [svL nm, .int .i64 f, .int .i64 d, v, .int .i64 dm]
set_option maxHeartbeats 400000 in
theorem width_anyL (nm : Bs) (f d : Int) (A : Option Addr) (n c : Nat) (dm : Int) (z : Int) (hz : binOp .add 3 (.int .i64 d) (.int .i64 (n : Int)) = pure (.int .i64 z)) (w : World) :
    Calls Tryz.prog 65 #[cdVL nm f d (.slice A n c) dm] w fun e w' => e = .returned (.int .i64 z) ∧ Below w.heap.size w w' := by
  have hb := Blk.new w 24 [svL nm, .int .i64 f, .int .i64 d, .slice A n c, .int .i64 dm]
  have c2 : (w.alloc (.cells #[svL nm, .int .i64 f, .int .i64 d, .slice A n c, .int .i64 dm] 24)).cell? ⟨w.heap.size, 2, none⟩ = _ := hb.cell 2
  have c3 : (w.alloc (.cells #[svL nm, .int .i64 f, .int .i64 d, .slice A n c, .int .i64 dm] 24)).cell? ⟨w.heap.size, 3, none⟩ = _ := hb.cell 3
  clear hb
  go_enter Tryz.func65, Tryz.ntmps65
  go_wp2_with fail
  go_ret
  exact ⟨rfl, below_new w _⟩
set_option maxHeartbeats 400000 in
theorem isDomain_any (nm : Bs) (f d : Int) (A : Option Addr) (n c : Nat) (dm : Int) (z : Int) (hz : binOp .add 3 (.int .i64 d) (.int .i64 (n : Int)) = pure (.int .i64 z)) (x : Int) (w : World) :
    Calls Tryz.prog 67 #[cdVL nm f d (.slice A n c) dm, .int .i64 x] w fun e w' => e = .returned (.bool (decide (1 ≤ x ∧ x ≤ z))) ∧ Below w.heap.size w w' := by
  have HWI := hideIt (fun W => width_anyL nm f d A n c dm z hz W)
  clear hz
  by_cases h1 : x ≥ 1
  · by_cases h2 : x ≤ z
    · rw [decide_eq_true ⟨h1, h2⟩]
      go_enter Tryz.func67, Tryz.ntmps67
      go_wp2_with (go_at_call 65; refine (HWI.out _).mono ?_; rintro e w1 ⟨rfl, hb⟩; have HB1 := hideIt hb; clear hb)
      go_ret
      exact ⟨rfl, (below_new w _).trans (HB1.out.mono (below_new w _).size)⟩
    · rw [decide_eq_false (fun h => h2 h.2)]
      go_enter Tryz.func67, Tryz.ntmps67
      go_wp2_with (go_at_call 65; refine (HWI.out _).mono ?_; rintro e w1 ⟨rfl, hb⟩; have HB1 := hideIt hb; clear hb)
      go_ret
      exact ⟨by show Ending.returned (.bool (decide (x ≤ z))) = _; rw [decide_eq_false (Int.not_le.2 h2)], (below_new w _).trans (HB1.out.mono (below_new w _).size)⟩
  · rw [decide_eq_false (fun h => h1 h.1)]
    go_enter Tryz.func67, Tryz.ntmps67
    go_wp2_with fail
    go_ret
    exact ⟨rfl, below_new w _⟩
end

section
open Go.RowKit
set_option linter.unusedVariables false
set_option linter.unusedSimpArgs false
theorem wrong_anyL (x : Cd) (v : Value) (hf : x.field = 8 ∨ x.field = 16) (cb : Nat) (w : World) (hb : Blk w cb 24 (cdCL x.name x.field x.data v x.dom)) (n : Int) :
    Calls Tryz.prog 92 #[.int .i64 n, .pointer (some ⟨cb, 0, none⟩)] w fun e w' => e = .returned (.bool (!coefB x.field n)) ∧ w = w' := by
  have HCO := hideIt (isCoef_any x.field n hf)
  have hc := hb.cell 1
  have hnot : ∀ (x : Bool) (w : World), (Op.unary .not (.bool x)).run Tryz.prog w = .ok (.bool (!x)) w := fun _ _ => rfl
  generalize coefB x.field n = b at *
  clear hb hf
  go_enter Tryz.func92, Tryz.ntmps92
  go_wp2_with (go_at_call 93; refine (HCO.out _).mono ?_; rintro e w' ⟨rfl, rfl⟩)
  go_ret
  exact ⟨rfl, rfl⟩
set_option maxHeartbeats 1000000 in
set_option maxRecDepth 100000 in
theorem isRow_anyL (x : Cd) (v : Value) (hf : x.field = 8 ∨ x.field = 16) (l : List Int) (hl : l.length ≤ 9223372036854775807) (A : Option Addr) (c B : Nat) (w : World) (hs : Sl w B A 1 l.length (l.map iv)) (hB : B ≤ w.heap.size) :
    Calls Tryz.prog 66 #[cdVL x.name x.field x.data v x.dom, .slice A l.length c] w fun e w' => e = .returned (.bool (rowOkL x.field x.data l)) ∧ Below w.heap.size w w' := by
  obtain ⟨W1, hW1⟩ : ∃ W1, W1 = w.alloc (.cells #[svL x.name, .int .i64 x.field, .int .i64 x.data, v, .int .i64 x.dom] 24) := ⟨_, rfl⟩
  have hb : Blk W1 w.heap.size 24 [svL x.name, .int .i64 x.field, .int .i64 x.data, v, .int .i64 x.dom] := by rw [hW1]; exact Blk.new w 24 [svL x.name, .int .i64 x.field, .int .i64 x.data, v, .int .i64 x.dom]
  have hbl : Below w.heap.size w W1 := by rw [hW1]; exact below_new w _
  have hs1 := hs.below (hbl.mono hB)
  have c2 := hb.cell 2
  have hK : AsksI W1 (.func (.func 92) #[] #[.pointer (some ⟨w.heap.size, 0, none⟩)]) (fun y => !coefB x.field y) := ⟨_, _, rfl, enters_of Tryz.func92 (by kernel_rfl) rfl, fun y => wrong_anyL x v hf w.heap.size W1 hb y⟩
  have HC := hideIt (containsI_any l hl A c B _ (fun y => !coefB x.field y) W1 hs1 hK)
  have HZ := hideIt (isZero_any l hl A c B W1 hs1)
  rw [hW1] at c2
  have HW1 := hideIt hW1
  clear hK hW1
  have hnot : ∀ (x : Bool) (w : World), (Op.unary .not (.bool x)).run Tryz.prog w = .ok (.bool (!x)) w := fun _ _ => rfl
  have hmf : ∀ (fn : Fn) (first cap : Array Value) (w : World), (Instr.makeFunc fn first cap).run Tryz.prog w = .ok (.func fn first cap) w := fun _ _ _ _ => rfl
  have heq := i_eql 3 .i64 (l.length : Int) x.data
  have hr : rowOkL x.field x.data l = (decide ((l.length : Int) = x.data) && !(l.any fun y => !coefB x.field y) && !(!l.any nz)) := by
    unfold rowOkL
    have h1 : (l.all fun y => decide (0 ≤ y ∧ y ≤ topF x.field)) = !(l.any fun y => !coefB x.field y) := by
      rw [List.any_eq_not_all_not, Bool.not_not]
      congr 1
      funext y
      show decide (0 ≤ y ∧ y ≤ topF x.field) = !!coefB x.field y
      rw [Bool.not_not]; rfl
    rw [h1, Bool.not_not]
    rfl
  rw [hr]
  have HBL := hideIt hbl
  generalize (l.any fun y => !coefB x.field y) = b2 at *
  generalize l.any nz = b3 at *
  generalize decide ((l.length : Int) = x.data) = b1 at *
  generalize l.length = n at *
  clear hb hbl hs1 hs hB hl hr hf
  cases b1 <;> cases b2 <;> cases b3 <;>
  · go_enter Tryz.func66, Tryz.ntmps66
    go_wp2_with (first
      | (go_at_call 94; rw [← HW1.out]; refine HC.out.mono ?_; rintro e w' ⟨rfl, rfl⟩)
      | (go_at_call 95; (try rw [← HW1.out]); refine HZ.out.mono ?_; rintro e w' ⟨rfl, rfl⟩))
    go_ret
    exact ⟨rfl, by first | exact HBL.out | exact below_new w _⟩
end

section
open Go.RowKit
set_option linter.unusedVariables false
set_option linter.unusedSimpArgs false
/-- The width as the machine adds it. -/
def widX (c : Cd) : Int := IntKind.i64.wrap (c.data + c.par.length)
/-- P7.1, with the machine's sum. -/
def checkX (c : Cd) : Int :=
  if wordB c.name = false then 4
  else if 12 < c.name.length then 2
  else if fieldB c.field = false then 1
  else if dataB c.data = false then 1
  else if c.par.length = 0 then 1
  else if 32 < widX c then 2
  else if c.par.all (rowOkL c.field c.data) = false then 1
  else if decide (1 ≤ c.dom ∧ c.dom ≤ widX c) = false then 1
  else 0
set_option maxHeartbeats 2000000 in
set_option maxRecDepth 100000 in
theorem check_any (x : Cd) (A : Option Addr) (c : Nat) (w : World) (hx : CIn w x A) :
    Calls Tryz.prog 45 #[cdVL x.name x.field x.data (.slice A x.par.length c) x.dom] w fun e w' => e = .returned (.int .i64 (checkX x)) ∧ Below w.heap.size w w' := by
  obtain ⟨W1, hW1⟩ : ∃ W1, W1 = w.alloc (.cells #[svL x.name, .int .i64 x.field, .int .i64 x.data, .slice A x.par.length c, .int .i64 x.dom] 24) := ⟨_, rfl⟩
  have hb : Blk W1 w.heap.size 24 [svL x.name, .int .i64 x.field, .int .i64 x.data, .slice A x.par.length c, .int .i64 x.dom] := by rw [hW1]; exact Blk.new w 24 [svL x.name, .int .i64 x.field, .int .i64 x.data, .slice A x.par.length c, .int .i64 x.dom]
  have HBL : Hid (Below w.heap.size w W1) := by rw [hW1]; exact below_new w _
  have HB := hideIt hb
  have c0 := hb.cell 0
  rw [hW1] at c0
  have HW1 := hideIt hW1
  have HIW := hideIt (isWord_any x.name W1)
  have HIF := hideIt (isField_any x.field)
  have HID := hideIt (isData_any x.data)
  have HWI := hideIt (fun W => width_anyL x.name x.field x.data A x.par.length c x.dom (widX x) (by rw [binOp_add]; rfl) W)
  have HDO := hideIt (fun W => isDomain_any x.name x.field x.data A x.par.length c x.dom (widX x) (by rw [binOp_add]; rfl) x.dom W)
  have HX := hideIt hx
  have hnot : ∀ (x : Bool) (w : World), (Op.unary .not (.bool x)).run Tryz.prog w = .ok (.bool (!x)) w := fun _ _ => rfl
  have hln := len_c x.name
  clear hb hW1 hx
  by_cases q1 : wordB x.name = false
  · rw [show checkX x = 4 from if_pos q1]
    rw [q1] at HIW
    clear q1
    go_enter Tryz.func45, Tryz.ntmps45
    go_wp2_with (go_at_call 62; rw [← HW1.out]; refine HIW.out.mono ?_; rintro e w1 ⟨rfl, hb1⟩; have HB1 := hideIt hb1; clear hb1)
    go_ret
    exact ⟨rfl, HBL.out.trans (HB1.out.mono HBL.out.size)⟩
  rw [show checkX x = _ from if_neg q1]
  rw [Bool.not_eq_false] at q1
  rw [q1] at HIW
  clear q1
  by_cases q2 : 12 < x.name.length
  · rw [if_pos q2]
    have hgt : (x.name.length : Int) > 12 := by omega
    clear q2
    go_enter Tryz.func45, Tryz.ntmps45
    go_wp2_with (go_at_call 62; rw [← HW1.out]; refine HIW.out.mono ?_; rintro e w1 ⟨rfl, hb1⟩; have hbk := HB.out.kept hb1 HB.out.lt; have c0 := hbk.cell 0; have HX1 := hideIt (HBL.out.trans (hb1.mono HBL.out.size)); clear hb1 hbk)
    go_ret
    exact ⟨rfl, HX1.out⟩
  rw [if_neg q2]
  have hgt : ¬ (x.name.length : Int) > 12 := by omega
  clear q2
  by_cases q3 : fieldB x.field = false
  · rw [if_pos q3]
    rw [q3] at HIF
    clear q3
    go_enter Tryz.func45, Tryz.ntmps45
    go_wp2_with (first
      | (go_at_call 63; refine (HIF.out _).mono ?_; rintro e w2 ⟨rfl, rfl⟩)
      | (go_at_call 62; rw [← HW1.out]; refine HIW.out.mono ?_; rintro e w1 ⟨rfl, hb1⟩; have hbk := HB.out.kept hb1 HB.out.lt; have c0 := hbk.cell 0; have c1 := hbk.cell 1; have HX1 := hideIt (HBL.out.trans (hb1.mono HBL.out.size)); clear hb1 hbk))
    go_ret
    exact ⟨rfl, HX1.out⟩
  rw [if_neg q3]
  rw [Bool.not_eq_false] at q3
  have hf : x.field = 8 ∨ x.field = 16 := of_decide_eq_true q3
  have HF := hideIt hf
  rw [q3] at HIF
  clear q3 hf
  by_cases q4 : dataB x.data = false
  · rw [if_pos q4]
    rw [q4] at HID
    clear q4
    go_enter Tryz.func45, Tryz.ntmps45
    go_wp2_with (first
      | (go_at_call 64; refine (HID.out _).mono ?_; rintro e w2 ⟨rfl, rfl⟩)
      | (go_at_call 63; refine (HIF.out _).mono ?_; rintro e w2 ⟨rfl, rfl⟩)
      | (go_at_call 62; rw [← HW1.out]; refine HIW.out.mono ?_; rintro e w1 ⟨rfl, hb1⟩; have hbk := HB.out.kept hb1 HB.out.lt; have c0 := hbk.cell 0; have c1 := hbk.cell 1; have c2 := hbk.cell 2; have HX1 := hideIt (HBL.out.trans (hb1.mono HBL.out.size)); clear hb1 hbk))
    go_ret
    exact ⟨rfl, HX1.out⟩
  rw [if_neg q4]
  rw [Bool.not_eq_false] at q4
  rw [q4] at HID
  clear q4
  obtain ⟨n, hn⟩ : ∃ n, n = x.par.length := ⟨_, rfl⟩
  have hn0 := i_eql 3 .i64 (n : Int) 0
  rw [← hn] at HB c0 HW1 HWI HDO ⊢
  by_cases q5 : n = 0
  · rw [if_pos q5]
    rw [decide_eq_true (by omega)] at hn0
    clear q5 hn
    go_enter Tryz.func45, Tryz.ntmps45
    go_wp2_with (first
      | (go_at_call 64; refine (HID.out _).mono ?_; rintro e w2 ⟨rfl, rfl⟩)
      | (go_at_call 63; refine (HIF.out _).mono ?_; rintro e w2 ⟨rfl, rfl⟩)
      | (go_at_call 62; rw [← HW1.out]; refine HIW.out.mono ?_; rintro e w1 ⟨rfl, hb1⟩; have hbk := HB.out.kept hb1 HB.out.lt; have c0 := hbk.cell 0; have c1 := hbk.cell 1; have c2 := hbk.cell 2; have c3 := hbk.cell 3; have HX1 := hideIt (HBL.out.trans (hb1.mono HBL.out.size)); clear hb1 hbk))
    go_ret
    exact ⟨rfl, HX1.out⟩
  rw [if_neg q5]
  rw [decide_eq_false (by omega)] at hn0
  have HN := hideIt hn
  clear q5 hn
  by_cases q6 : 32 < widX x
  · rw [if_pos q6]
    have hwg : widX x > 32 := q6
    generalize widX x = z at *
    clear q6
    go_enter Tryz.func45, Tryz.ntmps45
    go_wp2_with (first
      | (go_at_call 65; refine (HWI.out _).mono ?_; rintro e w3 ⟨rfl, hb2⟩; have HX2 := hideIt (HX1.out.trans (hb2.mono HX1.out.size)); clear hb2)
      | (go_at_call 64; refine (HID.out _).mono ?_; rintro e w2 ⟨rfl, rfl⟩)
      | (go_at_call 63; refine (HIF.out _).mono ?_; rintro e w2 ⟨rfl, rfl⟩)
      | (go_at_call 62; rw [← HW1.out]; refine HIW.out.mono ?_; rintro e w1 ⟨rfl, hb1⟩; have hbk := HB.out.kept hb1 HB.out.lt; have c0 := hbk.cell 0; have c1 := hbk.cell 1; have c2 := hbk.cell 2; have c3 := hbk.cell 3; have c4 := hbk.cell 4; have HX1 := hideIt (HBL.out.trans (hb1.mono HBL.out.size)); clear hb1 hbk))
    go_ret
    exact ⟨rfl, HX2.out⟩
  rw [if_neg q6]
  have hwg : ¬ widX x > 32 := q6
  generalize widX x = z at *
  clear q6
  obtain ⟨R, hR⟩ : ∃ R : Int, R = if (x.par.all (rowOkL x.field x.data)) = false then 1 else if decide (1 ≤ x.dom ∧ x.dom ≤ z) = false then 1 else 0 := ⟨_, rfl⟩
  rw [← hR]
  have HR := hideIt hR
  have hnl : n ≤ 9223372036854775807 := by rw [HN.out]; exact HX.out.len
  clear hR
  go_enter Tryz.func45, Tryz.ntmps45
  go_wp2_with (first
      | (go_at_call 65; refine (HWI.out _).mono ?_; rintro e w3 ⟨rfl, hb2⟩; have HX2 := hideIt (HX1.out.trans (hb2.mono HX1.out.size)); have hbk := HBK.out.kept hb2 HBK.out.lt; have e3 := hbk.cell 3; have HBK2 := hideIt hbk; clear hb2 hbk)
      | (go_at_call 64; refine (HID.out _).mono ?_; rintro e w2 ⟨rfl, rfl⟩)
      | (go_at_call 63; refine (HIF.out _).mono ?_; rintro e w2 ⟨rfl, rfl⟩)
      | (go_at_call 62; rw [← HW1.out]; refine HIW.out.mono ?_; rintro e w1 ⟨rfl, hb1⟩; have hbk := HB.out.kept hb1 HB.out.lt; have c0 := hbk.cell 0; have c1 := hbk.cell 1; have c2 := hbk.cell 2; have c3 := hbk.cell 3; have c4 := hbk.cell 4; have HBK := hideIt hbk; have HX1 := hideIt (HBL.out.trans (hb1.mono HBL.out.size)); clear hb1 hbk))
  go_loopg [35] n (fun gk s35 wr => ∃ j : Nat, j + gk = n ∧ s35 = .int .i64 (j : Int) ∧ Aside ((x.par.take j).all (rowOkL x.field x.data) = true ∧ Below w.heap.size w wr ∧ Blk wr w.heap.size 24 [svL x.name, .int .i64 x.field, .int .i64 x.data, .slice A n c, .int .i64 x.dom]))
  case atStart => exact ⟨0, by omega, rfl, rfl, HX2.out, HBK2.out⟩
  case round =>
    obtain ⟨j, hj, rfl, HI⟩ := hrel
    have hbk := HI.out.2.2
    have e0 := hbk.cell 0
    have e1 := hbk.cell 1
    have e2 := hbk.cell 2
    have e3 := hbk.cell 3
    have e4 := hbk.cell 4
    clear hbk
    by_cases hlt : j < n
    · have hjl : j < x.par.length := by rw [← HN.out]; exact hlt
      obtain ⟨b, o, A', c', hA, hb, hcell, hsl⟩ := HX.out.pm.row hjl
      subst hA
      have hq : wr.cell? ⟨b, o + j, none⟩ = some (.slice A' (x.par[j]).length c') := (HI.out.2.1.cell (p := ⟨b, _, none⟩) hb).trans hcell
      have HT := hideIt (take_snoc x.par j hjl)
      have hll := HX.out.lens _ (List.getElem_mem hjl)
      have HM := hideIt (List.getElem_mem hjl)
      have hinc : binOp .add 3 (.int .i64 (j : Int)) (.int .i64 1) = pure (.int .i64 ((j + 1 : Nat) : Int)) := by
        rw [binOp_add]
        simp only [Op.intArith]
        rw [IntWalk.i64_in _ (by omega)]
        rfl
      have hji : (j : Int) < (n : Int) := by omega
      have HRW := hideIt (isRow_anyL x (.slice (some ⟨b, o, none⟩) n c) HF.out (x.par[j]) hll A' c' w.heap.size wr (hsl.below HI.out.2.1) HI.out.2.1.size)
      generalize x.par[j] = l at *
      clear hjl hb hcell hsl hll
      cases hk : rowOkL x.field x.data l with
      | true =>
        rw [hk] at HRW
        have HK := hideIt hk
        clear hk
        go_wp2_with (go_at_call 66; refine HRW.out.mono ?_; rintro e w4 ⟨rfl, hb4⟩; have HX4 := hideIt (HI.out.2.1.trans (hb4.mono HI.out.2.1.size)); have HBK4 := hideIt (HI.out.2.2.kept hb4 HI.out.2.2.lt); clear hb4)
        go_roundg (gk - 1)
        case measure => omega
        case rel =>
          refine ⟨j + 1, by omega, by go_num, ?_, HX4.out, HBK4.out⟩
          rw [HT.out, List.all_append, HI.out.1]
          simp [HK.out]
      | false =>
        rw [hk] at HRW
        have HK := hideIt hk
        clear hk
        go_wp2_with (go_at_call 66; refine HRW.out.mono ?_; rintro e w4 ⟨rfl, hb4⟩; have HX4 := hideIt (HI.out.2.1.trans (hb4.mono HI.out.2.1.size)); clear hb4)
        go_ret
        have HRR : R = 1 := HR.out.trans (if_pos (List.all_eq_false.2 ⟨l, HM.out, by rw [HK.out]; decide⟩))
        exact ⟨congrArg (fun v => Ending.returned (.int .i64 v)) HRR.symm, HX4.out⟩
    · have hji : ¬ (j : Int) < (n : Int) := by omega
      have HE : Hid (x.par.all (rowOkL x.field x.data) = true) := by
        have := HI.out.1
        rw [List.take_of_length_le (by rw [← HN.out]; omega)] at this
        exact this
      have HDD := hideIt (HDO.out wr)
      by_cases q8 : decide (1 ≤ x.dom ∧ x.dom ≤ z) = false
      · rw [q8] at HDD
        have HRR : Hid (R = 1) := by
          show R = 1
          rw [HR.out, if_neg (by rw [HE.out]; decide), if_pos q8]
        clear q8
        go_wp2_with (go_at_call 67; refine HDD.out.mono ?_; rintro e w4 ⟨rfl, hb4⟩; have HX4 := hideIt (HI.out.2.1.trans (hb4.mono HI.out.2.1.size)); clear hb4)
        go_ret
        exact ⟨congrArg (fun v => Ending.returned (.int .i64 v)) HRR.out.symm, HX4.out⟩
      · have HRR : Hid (R = 0) := by
          show R = 0
          rw [HR.out, if_neg (by rw [HE.out]; decide), if_neg q8]
        rw [Bool.not_eq_false] at q8
        rw [q8] at HDD
        clear q8
        go_wp2_with (go_at_call 67; refine HDD.out.mono ?_; rintro e w4 ⟨rfl, hb4⟩; have HX4 := hideIt (HI.out.2.1.trans (hb4.mono HI.out.2.1.size)); clear hb4)
        go_ret
        exact ⟨congrArg (fun v => Ending.returned (.int .i64 v)) HRR.out.symm, HX4.out⟩
end

end Go.Proofs.YtkfahoaiialndaaGreatDoor
