/-
  Proofs and prefix proofs for every integer, in one form.
-/
import Derived.Test.YtefalanfkihcdaaDoorRSub
import Derived.Test.YtefalanfkihcdaaDoorRProve
namespace Go.Proofs.YtefalanfkihcdaaDoor
open Go.RowKit
set_option linter.unusedVariables false

def prL (l : List (List UInt8)) (i : Int) : List (List UInt8) := if 0 ≤ i ∧ i < l.length then proofD l i.toNat else []
def prE (l : List (List UInt8)) (i : Int) : Int := if 0 ≤ i ∧ i < l.length then 0 else 12
def ppL (l : List (List UInt8)) (m : Int) : List (List UInt8) := if 1 ≤ m ∧ m ≤ l.length then subD l m.toNat true else []
def ppE (l : List (List UInt8)) (m : Int) : Int := if 1 ≤ m ∧ m ≤ l.length then 0 else 12
theorem own_nil (w : World) (base : Nat) (e : TypeId) (size : Nat) : w.ownsRow base e size (.slice none 0 0) 0 [] := ⟨by simp, .inl ⟨rfl, rfl⟩⟩
section
variable (A : Option Addr) (B n c : Nat) (l : List (List UInt8)) (w : World)
theorem prove_un (i : Int) (hD : Ds w B A n l) (hnc : n ≤ c) (hn : n ≤ 1000000000) (hB : B ≤ w.heap.size) (hT : Tab w 1) :
    Calls Tryd.prog 15 #[.slice A n c, .int .i64 i] w fun e w' => ∃ v, e = .returned (.tuple #[v, .int .i64 (prE l i)]) ∧ w'.ownsRow w.heap.size 30 16 v (prL l i).length ((prL l i).flatten.map bv) ∧ Below w.heap.size w w' := by
  unfold prL prE
  rw [hD.1]
  by_cases h : 0 ≤ i ∧ i < n
  · rw [if_pos h, if_pos h]
    have := prove_any A B n c i.toNat l w hD hnc hn hB hT (by omega)
    rw [show ((i.toNat : Nat) : Int) = i by omega] at this
    exact this
  · rw [if_neg h, if_neg h]
    refine (prove_none A n c i w hn (by omega)).mono ?_
    rintro e w' ⟨rfl, hb⟩
    exact ⟨_, rfl, own_nil _ _ _ _, hb⟩
theorem refProve_un (i : Int) (hD : Ds w B A n l) (hnc : n ≤ c) (hn : n ≤ 1000000000) (hB : B ≤ w.heap.size) (hT : Tab w 0) :
    Calls Tryd.prog 16 #[.slice A n c, .int .i64 i] w fun e w' => ∃ v, e = .returned (.tuple #[v, .int .i64 (prE l i)]) ∧ w'.ownsRow w.heap.size 30 16 v (prL l i).length ((prL l i).flatten.map bv) ∧ Below w.heap.size w w' := by
  unfold prL prE
  rw [hD.1]
  by_cases h : 0 ≤ i ∧ i < n
  · rw [if_pos h, if_pos h]
    have := refProve_any n l A B n c i.toNat w (Nat.le_refl _) hn hD hnc hB hT (by omega)
    rw [show ((i.toNat : Nat) : Int) = i by omega] at this
    exact this
  · rw [if_neg h, if_neg h]
    refine (refProve_none A n c i w hn (by omega)).mono ?_
    rintro e w' ⟨rfl, hb⟩
    exact ⟨_, rfl, own_nil _ _ _ _, hb⟩
theorem pp_un (m : Int) (hD : Ds w B A n l) (hnc : n ≤ c) (hn : n ≤ 1000000000) (hB : B ≤ w.heap.size) (hT : Tab w 1) :
    Calls Tryd.prog 17 #[.slice A n c, .int .i64 m] w fun e w' => ∃ v, e = .returned (.tuple #[v, .int .i64 (ppE l m)]) ∧ w'.ownsRow w.heap.size 30 16 v (ppL l m).length ((ppL l m).flatten.map bv) ∧ Below w.heap.size w w' := by
  unfold ppL ppE
  rw [hD.1]
  by_cases h : 1 ≤ m ∧ m ≤ n
  · rw [if_pos h, if_pos h]
    have := pp_any l A B n c m.toNat w hn hD hnc hB hT (by omega) (by omega)
    rw [show ((m.toNat : Nat) : Int) = m by omega] at this
    exact this
  · rw [if_neg h, if_neg h]
    refine (pp_none A n c m w hn (by omega)).mono ?_
    rintro e w' ⟨rfl, hb⟩
    exact ⟨_, rfl, own_nil _ _ _ _, hb⟩
theorem refPP_un (m : Int) (hD : Ds w B A n l) (hnc : n ≤ c) (hn : n ≤ 1000000000) (hB : B ≤ w.heap.size) (hT : Tab w 0) :
    Calls Tryd.prog 18 #[.slice A n c, .int .i64 m] w fun e w' => ∃ v, e = .returned (.tuple #[v, .int .i64 (ppE l m)]) ∧ w'.ownsRow w.heap.size 30 16 v (ppL l m).length ((ppL l m).flatten.map bv) ∧ Below w.heap.size w w' := by
  unfold ppL ppE
  rw [hD.1]
  by_cases h : 1 ≤ m ∧ m ≤ n
  · rw [if_pos h, if_pos h]
    have := refPP_any l A B n c m.toNat w hn hD hnc hB hT (by omega) (by omega)
    rw [show ((m.toNat : Nat) : Int) = m by omega] at this
    exact this
  · rw [if_neg h, if_neg h]
    refine (refPP_none A n c m w hn (by omega)).mono ?_
    rintro e w' ⟨rfl, hb⟩
    exact ⟨_, rfl, own_nil _ _ _ _, hb⟩
end
theorem pow30 (n : Nat) (h : n ≤ 1000000000) : n ≤ 2 ^ 30 := by omega
theorem prL_16 (l : List (List UInt8)) (i : Int) : ∀ d ∈ prL l i, d.length = 16 := by
  unfold prL; split
  · exact proofD_16 _ _
  · simp
theorem ppL_16 (l : List (List UInt8)) (hl : l.length ≤ 1000000000) (i : Int) : ∀ d ∈ ppL l i, d.length = 16 := by
  unfold ppL; split
  · exact subD_16 l 30 _ _ (pow30 _ hl)
  · simp
theorem prL_len (l : List (List UInt8)) (hl : l.length ≤ 1000000000) (i : Int) : (prL l i).length ≤ 30 := by
  unfold prL; split
  · exact proofD_len _ _ 30 (pow30 _ hl)
  · simp
theorem ppL_len (l : List (List UInt8)) (hl : l.length ≤ 1000000000) (i : Int) : (ppL l i).length ≤ 31 := by
  unfold ppL; split
  · exact subD_len 30 l _ _ (pow30 _ hl)
  · simp

end Go.Proofs.YtefalanfkihcdaaDoor
