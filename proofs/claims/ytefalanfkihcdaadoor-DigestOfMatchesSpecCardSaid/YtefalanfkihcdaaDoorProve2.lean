/-
  Proofs of elements, walked: digest.Prove.
-/
import Derived.Test.YtefalanfkihcdaaDoorProve
namespace Go.Proofs.YtefalanfkihcdaaDoor
open Go.RowKit
set_option linter.unusedVariables false

theorem proofD_len (l : List (List UInt8)) (i e : Nat) (h : l.length ≤ 2 ^ e) : (proofD l i).length ≤ e := by
  unfold proofD
  rw [List.length_map]
  exact sibs_le e 0 _ i (by omega)
theorem proofD_16 (l : List (List UInt8)) (i : Nat) : ∀ d ∈ proofD l i, d.length = 16 := by
  intro d hd
  unfold proofD at hd
  obtain ⟨s, _, rfl⟩ := List.mem_map.1 hd
  exact rootD_len _

set_option maxHeartbeats 800000 in
set_option maxRecDepth 100000 in
theorem prove_none (A : Option Addr) (n c : Nat) (i : Int) (w : World) (hn : n ≤ 1000000000) (hi : i < 0 ∨ (n : Int) ≤ i) :
    Calls Tryd.prog 15 #[.slice A n c, .int .i64 i] w fun e w' => e = .returned (.tuple #[.slice none 0 0, .int .i64 12]) ∧ Below w.heap.size w w' := by
  by_cases h0 : i < 0
  · clear hi
    go_enter Tryd.func15, Tryd.ntmps15
    go_wp2
    go_ret2
    exact ⟨rfl, below_new w _⟩
  · have h1 : (n : Int) ≤ i := by omega
    have h2 : decide (i < 0) = false := by simpa using h0
    have h3 : decide ((n : Int) ≤ i) = true := by simpa using h1
    clear hi
    go_enter Tryd.func15, Tryd.ntmps15
    go_wp2
    go_ret2
    exact ⟨rfl, below_new w _⟩

set_option maxHeartbeats 800000 in
set_option maxRecDepth 100000 in
theorem prove_any (A : Option Addr) (B n c i : Nat) (l : List (List UInt8)) (w : World) (hD : Ds w B A n l) (hnc : n ≤ c) (hn : n ≤ 1000000000) (hB : B ≤ w.heap.size) (hT : Tab w 1) (hi : i < n) :
    Calls Tryd.prog 15 #[.slice A n c, .int .i64 (i : Int)] w fun e w' => ∃ v, e = .returned (.tuple #[v, .int .i64 0]) ∧ w'.ownsRow w.heap.size 30 16 v (proofD l i).length ((proofD l i).flatten.map bv) ∧ Below w.heap.size w w' := by
  have h2 : decide ((i : Int) < 0) = false := by simp
  have h3 : decide ((n : Int) ≤ (i : Int)) = false := by simp; omega
  have HW := hideIt (fun (W : World) (g0 g1 : Nat) (hg : g0 ≠ g1) (q0 : w.heap.size ≤ g0) (q1 : w.heap.size ≤ g1) (hI : PrI w A n c l g0 g1 [] W) =>
    walkP_any (PrI w A n c l g0 g1) g0 g1 n 100 (by omega) (fun done lo hi b W' r1 r2 r3 r4 => prove1_any w A B n c 100 l g0 g1 hg hD hnc hn hB hT (by omega) q0 q1 done lo hi b W' r1 r2 r3 r4) 30 0 n i [] W (by omega) (by simp) (by omega) hi (Nat.le_refl _) hI)
  have HL := hideIt hD.1
  clear hD hT
  go_enter Tryd.func15, Tryd.ntmps15
  go_wp2_with fail
  have hz1 : (w.alloc (.cells #[Value.slice A n c] 34)).heap.size = w.heap.size + 1 := by simp
  have hz2 : ((w.alloc (.cells #[Value.slice A n c] 34)).alloc (.cells #[] 30)).heap.size = w.heap.size + 1 + 1 := by simp
  refine (HW.out _ (w.heap.size + 1 + 1) w.heap.size (by omega) (by omega) (by omega) ⟨?_, ?_, .slice (some ⟨w.heap.size + 1, 0, none⟩) 0 0, ?_, ?_⟩).mono ?_
  · exact (((below_new w _).alloc (by rw [hz1]; omega) _).alloc (by rw [hz2]; omega) _)
  · exact (((Blk.new w 34 [.slice A n c]).alloc _).alloc _)
  · exact hz2 ▸ Blk.new ((w.alloc (.cells #[Value.slice A n c] 34)).alloc (.cells #[] 30)) 34 [.slice (some ⟨w.heap.size + 1, 0, none⟩) 0 0]
  · have h9 := own_empty (w.alloc (.cells #[Value.slice A n c] 34)) 30 16
    rw [hz1] at h9
    exact own_low (h9.alloc _) (by omega)
  clear hz1 hz2
  rintro e w1 ⟨rfl, hI⟩
  obtain ⟨v, hbv, hown⟩ := hI.out
  have hcv : w1.cell? ⟨w.heap.size + 1 + 1, 0, none⟩ = some v := by rw [hbv.cell]; rfl
  have HO := hideIt hown
  have HB := hideIt hI.bel
  clear hI hbv hown
  go_wp2
  go_ret2
  refine ⟨_, rfl, ?_, HB.out⟩
  have h8 := HO.out
  rw [List.nil_append] at h8
  unfold proofD
  rw [HL.out, List.length_map]
  exact h8

end Go.Proofs.YtefalanfkihcdaaDoor
