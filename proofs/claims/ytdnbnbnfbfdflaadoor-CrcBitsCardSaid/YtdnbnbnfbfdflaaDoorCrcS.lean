/-
  The examples that every statement of layer 3 plays first: sanity.
-/
import Derived.Test.YtdnbnbnfbfdflaaDoorCrcZ
import Derived.Lib.SlBytesConst
namespace Go.Proofs.YtdnbnbnfbfdflaaDoor
open Go.RowKit
set_option linter.unusedVariables false

theorem lit_slc (w : World) (t : TypeId) (l : List UInt8) (cs : Array Value) (z : Nat × Nat) (hcs : cs = (l.map bv).toArray) :
    Sl (w.alloc (.cells cs t z)) (w.heap.size + 1) (some ⟨w.heap.size, 0, none⟩) 1 l.length (l.map bv) := by
  subst hcs
  refine ⟨by simp, fun _ => ⟨_, _, rfl, by simp, fun j u hu => ?_⟩⟩
  have h := heap_alloc_new w (.cells (l.map bv).toArray t z)
  rw [Nat.zero_add]
  simp only [World.cell?, h]
  simpa using hu
theorem below_lit {w0 w : World} (h : Below w0.heap.size w0 w) (cs : Array Value) (t : TypeId) (z : Nat × Nat) : Below w0.heap.size w0 (w.alloc (.cells cs t z)) := h.alloc h.size _
/-- Of, of a literal. -/
theorem of_lit {w0 : World} (hT : Tabs w0) (w : World) (hb : Below w0.heap.size w0 w) (t : TypeId) (l : List UInt8) (cs : Array Value) (z : Nat × Nat) (hcs : cs = (l.map bv).toArray) (n : Nat) (hn : l.length = n) (h100 : n ≤ 100) :
    Calls Tryd.prog 11 #[.slice (some ⟨w.heap.size, 0, none⟩) n n] (w.alloc (.cells cs t z)) fun e w' => e = .returned (wv (crc l)) ∧ w.alloc (.cells cs t z) = w' := by
  subst hn
  exact of_any _ _ _ l _ (lit_slc w t l cs z hcs) (by omega) (hT.keep (below_lit hb cs t z))
theorem ext_lit {w0 : World} (hT : Tabs w0) (w : World) (hb : Below w0.heap.size w0 w) (t : TypeId) (a : UInt32) (l : List UInt8) (cs : Array Value) (z : Nat × Nat) (hcs : cs = (l.map bv).toArray) (n : Nat) (hn : l.length = n) (h100 : n ≤ 100) :
    Calls Tryd.prog 13 #[wv a, .slice (some ⟨w.heap.size, 0, none⟩) n n] (w.alloc (.cells cs t z)) fun e w' => e = .returned (wv (ext a l)) ∧ w.alloc (.cells cs t z) = w' := by
  subst hn
  exact extend_any _ _ _ a l _ (lit_slc w t l cs z hcs) (by omega) (hT.keep (below_lit hb cs t z))
theorem comb_75 (n : Int) (h : n ≤ 0) (h2 : -9223372036854775808 ≤ n) (w : World) (hT : Tabs w) :
    Calls Tryd.prog 17 #[.int .u32 7, .int .u32 5, .int .i64 n] w fun e w' => e = .returned (.int .u32 2) ∧ Below w.heap.size w w' := by
  refine (show Calls Tryd.prog 17 #[.int .u32 7, .int .u32 5, .int .i64 n] w _ from comb_any 7 5 n (by omega) w hT).mono ?_
  rintro e w' ⟨rfl, hb⟩
  refine ⟨?_, hb⟩
  rw [show n.toNat = 0 by omega, show cmb 7 5 0 = 2 by decide +kernel]
  rfl
theorem zeros_7 (w : World) (hT : Tabs w) :
    Calls Tryd.prog 15 #[.int .u32 7, .int .i64 (-1)] w fun e w' => e = .returned (.int .u32 7) ∧ Below w.heap.size w w' := by
  refine (show Calls Tryd.prog 15 #[.int .u32 7, .int .i64 (-1)] w _ from zeros_any 7 (-1) (by omega) w hT).mono ?_
  rintro e w' ⟨rfl, hb⟩
  refine ⟨?_, hb⟩
  rw [show (-1 : Int).toNat = 0 by rfl, show zro 7 0 = 7 by decide +kernel]
  rfl
def l4 : List UInt8 := [49, 50, 51, 52]
def l5 : List UInt8 := [53, 54, 55, 56, 57]
def l9 : List UInt8 := [49, 50, 51, 52, 53, 54, 55, 56, 57]
theorem wv_is (x : UInt32) (n : Int) (h : (x.toNat : Int) = n) : wv x = .int .u32 n := by rw [← h]; rfl

set_option maxHeartbeats 1600000 in
set_option maxRecDepth 100000 in
theorem sanity_any (w : World) (hT : Tabs w) : Calls Tryd.prog 10 #[] w fun e w' => e = .returned (.bool true) ∧ Below w.heap.size w w' := by
  have HT := hideIt hT
  obtain ⟨a, ha⟩ : ∃ a, a = crc l4 := ⟨_, rfl⟩
  obtain ⟨b, hb⟩ : ∃ b, b = crc l5 := ⟨_, rfl⟩
  have H9 : Hid (wv (crc l9) = .int .u32 3808858755) := hideIt (wv_is _ _ (by decide +kernel))
  have H0 : Hid (wv (crc []) = .int .u32 0) := hideIt (wv_is _ _ (by decide +kernel))
  have HE : Hid (wv (ext a l5) = .int .u32 3808858755) := by rw [ha]; exact (wv_is _ _ (by decide +kernel))
  have HC : Hid (wv (cmb a b 5) = .int .u32 3808858755) := by rw [ha, hb]; exact (wv_is _ _ (by decide +kernel))
  have HA := hideIt ha
  have HB := hideIt hb
  clear hT ha hb
  have kc := fun (w : World) (C : Array Value) (n c : Nat) => Go.Lib.run_convert_bytes_const (P := Tryd.prog) w 22 5 C n c Tryd.underlying22 Tryd.underlying5
  go_enter Tryd.func10, Tryd.ntmps10
  have B0 := hideIt (Below.refl w.heap.size w)
  go_wp2_with fail
  refine (of_lit HT.out _ B0.out _ l4 _ _ rfl 4 rfl (by omega)).mono ?_
  rintro e w1 ⟨rfl, hw1⟩
  rw [← HA.out]
  have B1 : Hid (Below w.heap.size w w1) := by rw [← hw1]; exact below_lit B0.out _ _ _
  clear hw1 B0
  go_wp2_with fail
  refine (of_lit HT.out _ B1.out _ l5 _ _ rfl 5 rfl (by omega)).mono ?_
  rintro e w2 ⟨rfl, hw2⟩
  rw [← HB.out]
  have B2 : Hid (Below w.heap.size w w2) := by rw [← hw2]; exact below_lit B1.out _ _ _
  clear hw2 B1
  go_wp2_with fail
  refine (of_lit HT.out _ B2.out _ l9 _ _ rfl 9 rfl (by omega)).mono ?_
  rintro e w3 ⟨rfl, hw3⟩
  rw [H9.out]
  have B3 : Hid (Below w.heap.size w w3) := by rw [← hw3]; exact below_lit B2.out _ _ _
  clear hw3 B2
  go_wp2_with fail
  refine (of_any none 0 0 [] w3 (Sl.nil _ _ _ _) (by simp) (HT.out.keep B3.out)).mono ?_
  rintro e w4 ⟨rfl, rfl⟩
  rw [H0.out]
  go_wp2_with fail
  refine (ext_lit HT.out _ B3.out _ a l5 _ _ rfl 5 rfl (by omega)).mono ?_
  rintro e w4 ⟨rfl, hw4⟩
  rw [HE.out]
  have B4 : Hid (Below w.heap.size w w4) := by rw [← hw4]; exact below_lit B3.out _ _ _
  clear hw4 B3
  go_wp2_with fail
  refine (comb_any a b 5 (by omega) w4 (HT.out.keep B4.out)).mono ?_
  rintro e w5 ⟨rfl, hb5⟩
  rw [show (5 : Int).toNat = 5 from rfl, HC.out]
  have B5 := hideIt (B4.out.trans (hb5.mono B4.out.size))
  clear hb5 B4
  go_wp2_with fail
  refine (comb_75 0 (by omega) (by omega) w5 (HT.out.keep B5.out)).mono ?_
  rintro e w6 ⟨rfl, hb6⟩
  have B6 := hideIt (B5.out.trans (hb6.mono B5.out.size))
  clear hb6 B5
  go_wp2_with fail
  refine (comb_75 (-1) (by omega) (by omega) w6 (HT.out.keep B6.out)).mono ?_
  rintro e w7 ⟨rfl, hb7⟩
  have B7 := hideIt (B6.out.trans (hb7.mono B6.out.size))
  clear hb7 B6
  go_wp2_with fail
  refine (zeros_7 w7 (HT.out.keep B7.out)).mono ?_
  rintro e w8 ⟨rfl, hb8⟩
  have B8 := hideIt (B7.out.trans (hb8.mono B7.out.size))
  clear hb8 B7
  go_wp2_with fail
  go_ret
  exact ⟨rfl, B8.out⟩

end Go.Proofs.YtdnbnbnfbfdflaaDoor
