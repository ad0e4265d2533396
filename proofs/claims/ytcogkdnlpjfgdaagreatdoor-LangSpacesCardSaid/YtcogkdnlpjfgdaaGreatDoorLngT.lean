/-
  What the library's functions on strings do at the texts of codelang: TrimLeft, IndexByte, HasPrefix, Cut.
-/
import Derived.Test.YtcogkdnlpjfgdaaGreatDoorLngM
import Derived.Test.YtcogkdnlpjfgdaaGreatDoorLayT
import Derived.Shelf.Strings.SlTrimAscii
import Derived.Shelf.Small.Strs
import Derived.Shelf.Strings.Prefix
import Derived.Shelf.Strings.Search2
namespace Go.Proofs.YtcogkdnlpjfgdaaGreatDoor
open Go.RowKit
set_option linter.unusedVariables false

/-- The alphabets. -/
def csB : Bs := [32, 9, 10]
def csL : Bs := [97, 98, 99, 100, 101, 102, 103, 104, 105, 106, 107, 108, 109, 110, 111, 112, 113, 114, 115, 116, 117, 118, 119, 120, 121, 122]
def csD : Bs := [48, 49, 50, 51, 52, 53, 54, 55, 56, 57]
def csS : Bs := [123, 125, 59, 58]
theorem u8_all {p : UInt8 → Bool} (h : (List.range 256).all (fun n => p (UInt8.ofNat n)) = true) (c : UInt8) : p c = true := by
  have := List.all_eq_true.1 h c.toNat (List.mem_range.2 (UInt8.toNat_lt c))
  rwa [UInt8.ofNat_toNat] at this
theorem csB_is (c : UInt8) : csB.contains c = blank c := by
  have := u8_all (p := fun c => csB.contains c == blank c) (by decide +kernel) c
  exact eq_of_beq this
theorem csA_is (c : UInt8) : (csL ++ csD).contains c = alnB c := by
  have := u8_all (p := fun c => (csL ++ csD).contains c == alnB c) (by decide +kernel) c
  exact eq_of_beq this
theorem csD_is (c : UInt8) : csD.contains c = digB c := by
  have := u8_all (p := fun c => csD.contains c == digB c) (by decide +kernel) c
  exact eq_of_beq this
theorem csL_ix (c : UInt8) : decide (Lib.indexByte csL c ≥ 0) = letB c := by
  have := u8_all (p := fun c => decide (Lib.indexByte csL c ≥ 0) == letB c) (by decide +kernel) c
  exact eq_of_beq this
theorem csS_ix (c : UInt8) : decide (Lib.indexByte csS c ≥ 0) = signB c := by
  have := u8_all (p := fun c => decide (Lib.indexByte csS c ≥ 0) == signB c) (by decide +kernel) c
  exact eq_of_beq this

theorem trim_any (l cs : Bs) (p : UInt8 → Bool) (hp : ∀ c, cs.contains c = p c) (h1 : cs.length < 1000) (h2 : cs.all (fun b => decide (b.toNat < 128)) = true) (w : World) :
    Calls Tryz.prog 57 #[sv l, sv cs] w fun e w' => e = .returned (sv (l.dropWhile p)) ∧ Below w.heap.size w w' := by
  have h3 : (fun c => cs.contains c) = p := funext hp
  refine (Any.strings_TrimLeft_laid layTrim (by kernel_rfl) (ss l) (ss cs) w (by rw [ss_size]; omega) (by rw [ss_list]; exact ascii_of_all h2)).mono ?_
  rintro e w' ⟨rfl, hb⟩
  refine ⟨?_, hb⟩
  rw [ss_list, ss_list]
  unfold Lib.trimLeftS
  rw [h3]; rfl
theorem trimB_any (l : Bs) (w : World) : Calls Tryz.prog 57 #[sv l, .string ⟨#[32, 9, 10]⟩] w fun e w' => e = .returned (sv (l.dropWhile blank)) ∧ Below w.heap.size w w' :=
  trim_any l csB blank csB_is (by decide) (by decide +kernel) w
theorem trimD_any (l : Bs) (w : World) : Calls Tryz.prog 57 #[sv l, .string ⟨#[48, 49, 50, 51, 52, 53, 54, 55, 56, 57]⟩] w fun e w' => e = .returned (sv (l.dropWhile digB)) ∧ Below w.heap.size w w' :=
  trim_any l csD digB csD_is (by decide) (by decide +kernel) w
theorem trimA_any (l : Bs) (w : World) : Calls Tryz.prog 57 #[sv l, .string ⟨#[97, 98, 99, 100, 101, 102, 103, 104, 105, 106, 107, 108, 109, 110, 111, 112, 113, 114, 115, 116, 117, 118, 119, 120, 121, 122, 48, 49, 50, 51, 52, 53, 54, 55, 56, 57]⟩] w
    fun e w' => e = .returned (sv (l.dropWhile alnB)) ∧ Below w.heap.size w w' :=
  trim_any l (csL ++ csD) alnB csA_is (by decide) (by decide +kernel) w
theorem index_any (cs : Bs) (c : UInt8) (w : World) : Calls Tryz.prog 27 #[sv cs, .int .u8 (c.toNat : Int)] w fun e w' => e = .returned (.int .i64 (Lib.indexByte cs c)) ∧ w = w' := by
  refine (Any.strings_IndexByte layIdx (ss cs) (c.toNat : Int) w).mono ?_
  rintro e w' ⟨rfl, rfl⟩
  refine ⟨?_, rfl⟩
  rw [ss_list, Int.toNat_natCast]
  have : c.toNat.toUInt8 = c := UInt8.ofNat_toNat
  rw [this]
theorem ixL_any (c : UInt8) (w : World) : Calls Tryz.prog 27 #[.string ⟨#[97, 98, 99, 100, 101, 102, 103, 104, 105, 106, 107, 108, 109, 110, 111, 112, 113, 114, 115, 116, 117, 118, 119, 120, 121, 122]⟩, .int .u8 (c.toNat : Int)] w
    fun e w' => ∃ z : Int, e = .returned (.int .i64 z) ∧ decide (z ≥ 0) = letB c ∧ w = w' :=
  (index_any csL c w).mono fun e w' ⟨h1, h2⟩ => ⟨_, h1, csL_ix c, h2⟩
theorem ixS_any (c : UInt8) (w : World) : Calls Tryz.prog 27 #[.string ⟨#[123, 125, 59, 58]⟩, .int .u8 (c.toNat : Int)] w
    fun e w' => ∃ z : Int, e = .returned (.int .i64 z) ∧ decide (z ≥ 0) = signB c ∧ w = w' :=
  (index_any csS c w).mono fun e w' ⟨h1, h2⟩ => ⟨_, h1, csS_ix c, h2⟩
/-- Does a text begin with a comment's sign? -/
def hashB : Bs → Bool
  | [] => false
  | c :: _ => decide (c = 35)
theorem hash_any (l : Bs) (w : World) : Calls Tryz.prog 103 #[sv l, .string ⟨#[35]⟩] w fun e w' => e = .returned (.bool (hashB l)) ∧ w = w' := by
  refine (Any.strings_HasPrefix layPre (ss l) (ss [35]) w).mono ?_
  rintro e w' ⟨rfl, rfl⟩
  refine ⟨?_, rfl⟩
  rw [ss_list, ss_list]
  unfold Lib.hasPrefix hashB
  cases l with
  | nil => rfl
  | cons c l =>
    simp only [List.isPrefixOf, Bool.and_true]
    congr 2
    rw [Bool.eq_iff_iff, beq_iff_eq, decide_eq_true_iff]
    exact eq_comm
theorem ix10 : ∀ l : Bs, (∃ k : Nat, Lib.indexByte l 10 = (k : Int) ∧ k < l.length ∧ cutN l = l.drop (k + 1)) ∨ (Lib.indexByte l 10 = -1 ∧ cutN l = [])
  | [] => .inr ⟨rfl, rfl⟩
  | c :: l => by
    rw [Lib.indexByte, cutN]
    by_cases h : c = 10
    · rw [if_pos h, if_pos (by rw [h]; rfl)]
      exact .inl ⟨0, rfl, by simp, by simp⟩
    · have hb : ¬ (c == 10) = true := fun q => h (eq_of_beq q)
      rw [if_neg h, if_neg hb]
      rcases ix10 l with ⟨k, h1, h2, h3⟩ | ⟨h1, h2⟩
      · refine .inl ⟨k + 1, ?_, by simp only [List.length_cons]; omega, by rw [h3, List.drop_succ_cons]⟩
        rw [h1, if_neg (by rw [beq_iff_eq]; omega)]
        omega
      · refine .inr ⟨?_, h2⟩
        rw [h1]; rfl

end Go.Proofs.YtcogkdnlpjfgdaaGreatDoor
