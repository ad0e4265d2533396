/-
  Proofs of elements, walked: digest.Prove and its closure.
  Proofs of elements, walked: digest.Prove.
-/
import Derived.Test.YtkjnimcapjjfdaaDoorWalk
import Derived.Test.YtkjnimcapjjfdaaDoorOnce
namespace Go.Proofs.YtkjnimcapjjfdaaDoor
open Go.RowKit
set_option linter.unusedVariables false

/-- The root of a sibling. -/
def sibD (l : List (List UInt8)) (s : Nat × Nat × Bool) : List UInt8 := rootD ((l.drop s.1).take (s.2.1 - s.1))
def proofD (l : List (List UInt8)) (i : Nat) : List (List UInt8) := (sibs 0 l.length i).map (sibD l)
/-- What Prove's closure keeps. -/
structure PrI (w0 : World) (A : Option Addr) (n c : Nat) (l : List (List UInt8)) (g0 g1 : Nat) (done : List (Nat × Nat × Bool)) (W : World) : Prop where
  bel : Below w0.heap.size w0 W
  cap : Blk W g1 34 [.slice A n c]
  out : ∃ v, Blk W g0 34 [v] ∧ W.ownsRow w0.heap.size 30 16 v done.length ((done.map (sibD l)).flatten.map bv)
theorem run_cut (A : Option Addr) {n cap k h : Nat} (hk : k ≤ h) (hn : h ≤ n) (hc : n ≤ cap) : ∃ A', (∀ W, (Instr.sliceAt 34 (.slice A n cap) (some (.int .i64 (k : Int))) (some (.int .i64 (h : Int))) none).run Tryd.prog W = .ok (.slice A' (h - k) (cap - k)) W) ∧
    ∀ w B l, Ds w B A n l → Ds w B A' (h - k) ((l.drop k).take (h - k)) := by
  obtain ⟨A', h1, h2⟩ := cut_both (P := Tryd.prog) (T := 34) (e := 30) (size := 16) Tryd.underlying34 (fun W => by kernel_rfl) A hk hn hc
  refine ⟨A', fun W => h1 W _ _ rfl rfl, fun w B l hD => ⟨by rw [List.length_take, List.length_drop, hD.1]; omega, fun d hd => hD.2.1 d (List.mem_of_mem_drop (List.mem_of_mem_take hd)), ?_⟩⟩
  have := h2 w B _ hD.2.2
  rw [flatten_take _ _ (fun d hd => hD.2.1 d (List.mem_of_mem_drop hd)), flatten_drop l k hD.2.1, List.map_take, List.map_drop]
  exact this

set_option maxHeartbeats 800000 in
set_option maxRecDepth 100000 in
theorem prove1_any (w0 : World) (A : Option Addr) (B n c M : Nat) (l : List (List UInt8)) (g0 g1 : Nat) (hg : g0 ≠ g1) (hD : Ds w0 B A n l) (hnc : n ≤ c) (hn : n ≤ 1000000000) (hB : B ≤ w0.heap.size) (hT : Tab w0 1) (hM : M ≤ 1000000000)
    (h0 : w0.heap.size ≤ g0) (h1 : w0.heap.size ≤ g1)
    (done : List (Nat × Nat × Bool)) (lo hi : Nat) (b : Bool) (W : World) (hlo : lo < hi) (hhi : hi ≤ n) (hd : done.length + 1 ≤ M) (hI : PrI w0 A n c l g0 g1 done W) :
    Calls Tryd.prog 39 #[.int .i64 (lo : Int), .int .i64 (hi : Int), .bool b, .pointer (some ⟨g0, 0, none⟩), .pointer (some ⟨g1, 0, none⟩)] W fun e w' => e = .returned (.tuple #[]) ∧ PrI w0 A n c l g0 g1 (done ++ [(lo, hi, b)]) w' := by
  obtain ⟨i0, hi0, hz0, hz1, hz2⟩ := info_parts Tryd.infoDig
  obtain ⟨v, hbv, hown⟩ := hI.out
  obtain ⟨Av, cv, rfl, hcv1, hcv2⟩ := own_form hown
  obtain ⟨A', hcut, hDs⟩ := run_cut A (n := n) (cap := c) (k := lo) (h := hi) (by omega) hhi hnc
  have HCUT := hideIt hcut
  have hcv : W.cell? ⟨g0, 0, none⟩ = some (.slice Av done.length cv) := by rw [hbv.cell]; rfl
  have hcl : W.cell? ⟨g1, 0, none⟩ = some (.slice A n c) := by rw [hI.cap.cell]; rfl
  have HI := hideIt hI
  have HBV := hideIt hbv
  have HOWN := hideIt hown
  have hDW : Ds W B A' (hi - lo) ((l.drop lo).take (hi - lo)) := hDs W B l (hD.below hI.bel hB)
  have HR := hideIt (fun (W' : World) (h : Below W.heap.size W W') => root_any (hi - lo) _ A' B (hi - lo) (c - lo) W' (Nat.le_refl _) (by omega) (hDW.below h (Nat.le_trans hB hI.bel.size)) (by omega) (Nat.le_trans hB (Nat.le_trans hI.bel.size h.size)) ((hT.below (show 1 < w0.heap.size from hT.1) hI.bel).below (Nat.lt_of_lt_of_le hT.1 hI.bel.size) h))
  obtain ⟨d, hdd⟩ : ∃ d, d = rootD ((l.drop lo).take (hi - lo)) := ⟨_, rfl⟩
  have HDL : Hid (d.length = 16) := by rw [hdd]; exact rootD_len _
  rw [← hdd] at HR
  have HDD := hideIt hdd
  clear hI hbv hown hdd hDW hDs HCUT hD
  go_enter Tryd.func39, Tryd.ntmps39
  go_wp2_with fail
  refine once_begin (fun W' => W'.cell? ⟨g0, 0, none⟩ = some (.slice Av done.length cv)) 7 (by kernel_rfl) ?_
  refine wpAnyU_take 0 (.slice Av done.length cv) rfl (by kernel_rfl) (by kernel_rfl) (by kernel_rfl) (by kernel_rfl) (by kernel_rfl) (fun _ _ _ h => h) (by kernel_rfl) (fun W' hW' => by (try dsimp only at hW'); go_simp) hcv ?_
  refine wpAnyU_move 2 (.int .i64 (lo : Int)) rfl (by kernel_rfl) (by kernel_rfl) (by kernel_rfl) (by kernel_rfl) (fun _ _ _ h => h) (by kernel_rfl) (fun W' => by go_simp) (fun _ => hcv) ?_
  refine wpAnyU_move 3 (.int .i64 (hi : Int)) rfl (by kernel_rfl) (by kernel_rfl) (by kernel_rfl) (by kernel_rfl) (fun _ _ _ h => h) (by kernel_rfl) (fun W' => by go_simp) (fun _ => hcv) ?_
  refine wpAnyU_one 1 (by kernel_rfl) rfl (fun K hK => ?_)
  go_wp2_with fail
  refine hK _ _ (fun _ => hcv) ?_
  clear hK K
  refine wpAnyU_one 4 (by kernel_rfl) rfl (fun K hK => ?_)
  go_wp2_with fail
  refine hK _ _ (fun _ => hcv) ?_
  clear hK K
  refine wpAnyU_one 5 (by kernel_rfl) rfl (fun K hK => ?_)
  go_wp2_with (go_at_call 19; refine (HR.out _ ((Below.refl _ _).drew)).mono ?_; rintro e w1 ⟨rfl, hb1⟩; have HB1 := hideIt (((Below.refl W.heap.size W).drew).trans hb1); clear hb1)
  have HV1 := hideIt (HBV.out.kept HB1.out HBV.out.lt)
  refine hK _ _ (fun _ => by show w1.cell? _ = _; rw [HV1.out.cell]; rfl) ?_
  clear hK K
  refine wpAnyU_one 6 (by kernel_rfl) rfl (fun K hK => ?_)
  refine wpList_buildSlice rfl 34 30 1 #[(0, .tmp 13)] rfl (d.map bv).toArray i0 (.agg (List.replicate 16 (.int .u8 0)).toArray) Tryd.underlying34 hi0 hz0 (by rw [hz1]; omega) (by rw [hz1]; omega) (by rw [hz1, Array.toList_map]; exact fill_dig _ d HDL.out (by simp)) ?_
  refine hK _ _ (fun _ => by show (w1.alloc _).cell? _ = _; rw [(HV1.out.alloc _).cell]; rfl) ?_
  clear hK K
  refine once_tail (by kernel_rfl) (by kernel_rfl) (by kernel_rfl) ?_
  simp only [List.drop_succ_cons, List.drop_zero]
  refine wpList_app2 rfl (.tmp 8) (.tmp 14) 34 rfl w0.heap.size 30 i0 (.agg (List.replicate 16 (.int .u8 0)).toArray) 16 16 Tryd.underlying34 hi0 hz0 hz1 hz2 rfl (by decide) (.slice Av done.length cv) done.length _ rfl ((own_kept HOWN.out HB1.out).alloc _) (w1.heap.size + 1) _ 1 1 (d.map bv) rfl (sl_dig w1 d HDL.out) (bv_one d) (by unfold maxLen; omega) (by omega) (by have := HB1.out.size; have := HI.out.bel.size; simp; omega) ?_
  intro v3 w3 ho3 hg3
  have HO3 := hideIt ho3
  have HG3 := hideIt hg3
  have HV3 := hideIt ((HV1.out.alloc (.cells (d.map bv).toArray 30)).grown hg3 (own_ne ((own_kept HOWN.out HB1.out).alloc (.cells (d.map bv).toArray 30)) (HV1.out.alloc (.cells (d.map bv).toArray 30)) (by decide)))
  obtain ⟨A3, c3, rfl, hc31, hc32⟩ := own_form ho3
  have hcv3 : w3.cell? ⟨g0, 0, none⟩ = some (.slice Av done.length cv) := by rw [HV3.out.cell]; rfl
  have hfr3 : w3.frozen? ⟨g0, 0, none⟩ = false := HV3.out.free 0
  clear ho3 hg3
  go_wp2
  first | go_end0 | refine bodyPost_ret (results_none rfl _ _ _) rfl ?_
  have HT4 : Turned g0 w3 (w3.setCell ⟨g0, 0, none⟩ (.slice A3 (done.length + 1) c3)) := ⟨rfl, rfl, rfl, by simp, fun k hk => heap_setCell_other w3 ⟨g0, 0, none⟩ k _ hk⟩
  have hB4 : Below w0.heap.size w0 w3 := (((HI.out.bel.trans (HB1.out.mono HI.out.bel.size)).trans ((below_new w1 _).mono (Nat.le_trans HI.out.bel.size HB1.out.size))).grown HG3.out (by have := HI.out.bel.size; have := HB1.out.size; simp; omega) (fun k hk => (((own_kept HOWN.out HB1.out).alloc (.cells (d.map bv).toArray 30)).lt k hk).1))
  refine ⟨rfl, HT4.below hB4 h0, HT4.blk ((((HI.out.cap.kept HB1.out HI.out.cap.lt).alloc (.cells (d.map bv).toArray 30)).grown HG3.out (own_ne ((own_kept HOWN.out HB1.out).alloc (.cells (d.map bv).toArray 30)) ((HI.out.cap.kept HB1.out HI.out.cap.lt).alloc (.cells (d.map bv).toArray 30)) (by decide)))) (Ne.symm hg), _, HV3.out.store 0 _, ?_⟩
  have h9 := own_turned HO3.out HV3.out (by decide) HT4
  rw [List.length_append, List.map_append, List.flatten_append, List.map_append]
  simp only [List.map_cons, List.map_nil, List.flatten_cons, List.flatten_nil, List.append_nil, List.length_cons, List.length_nil]
  rw [show sibD l (lo, hi, b) = d from HDD.out.symm]
  exact h9

theorem proofD_len (l : List (List UInt8)) (i e : Nat) (h : l.length ≤ 2 ^ e) : (proofD l i).length ≤ e := by
  unfold proofD
  rw [List.length_map]
  exact sibs_le e 0 _ i (by omega)
theorem proofD_16 (l : List (List UInt8)) (i : Nat) : ∀ d ∈ proofD l i, d.length = 16 := by
  intro d hd
  unfold proofD at hd
  obtain ⟨s, _, rfl⟩ := List.mem_map.1 hd
  exact rootD_len _

set_option maxHeartbeats 800000 in
set_option maxRecDepth 100000 in
theorem prove_none (A : Option Addr) (n c : Nat) (i : Int) (w : World) (hn : n ≤ 1000000000) (hi : i < 0 ∨ (n : Int) ≤ i) :
    Calls Tryd.prog 15 #[.slice A n c, .int .i64 i] w fun e w' => e = .returned (.tuple #[.slice none 0 0, .int .i64 12]) ∧ Below w.heap.size w w' := by
  by_cases h0 : i < 0
  · clear hi
    go_enter Tryd.func15, Tryd.ntmps15
    go_wp2
    go_ret2
    exact ⟨rfl, below_new w _⟩
  · have h1 : (n : Int) ≤ i := by omega
    have h2 : decide (i < 0) = false := by simpa using h0
    have h3 : decide ((n : Int) ≤ i) = true := by simpa using h1
    clear hi
    go_enter Tryd.func15, Tryd.ntmps15
    go_wp2
    go_ret2
    exact ⟨rfl, below_new w _⟩

set_option maxHeartbeats 800000 in
set_option maxRecDepth 100000 in
theorem prove_any (A : Option Addr) (B n c i : Nat) (l : List (List UInt8)) (w : World) (hD : Ds w B A n l) (hnc : n ≤ c) (hn : n ≤ 1000000000) (hB : B ≤ w.heap.size) (hT : Tab w 1) (hi : i < n) :
    Calls Tryd.prog 15 #[.slice A n c, .int .i64 (i : Int)] w fun e w' => ∃ v, e = .returned (.tuple #[v, .int .i64 0]) ∧ w'.ownsRow w.heap.size 30 16 v (proofD l i).length ((proofD l i).flatten.map bv) ∧ Below w.heap.size w w' := by
  have h2 : decide ((i : Int) < 0) = false := by simp
  have h3 : decide ((n : Int) ≤ (i : Int)) = false := by simp; omega
  have HW := hideIt (fun (W : World) (g0 g1 : Nat) (hg : g0 ≠ g1) (q0 : w.heap.size ≤ g0) (q1 : w.heap.size ≤ g1) (hI : PrI w A n c l g0 g1 [] W) =>
    walkP_any (PrI w A n c l g0 g1) g0 g1 n 100 (by omega) (fun done lo hi b W' r1 r2 r3 r4 => prove1_any w A B n c 100 l g0 g1 hg hD hnc hn hB hT (by omega) q0 q1 done lo hi b W' r1 r2 r3 r4) 30 0 n i [] W (by omega) (by simp) (by omega) hi (Nat.le_refl _) hI)
  have HL := hideIt hD.1
  clear hD hT
  go_enter Tryd.func15, Tryd.ntmps15
  go_wp2_with fail
  have hz1 : (w.alloc (.cells #[Value.slice A n c] 34)).heap.size = w.heap.size + 1 := by simp
  have hz2 : ((w.alloc (.cells #[Value.slice A n c] 34)).alloc (.cells #[] 30)).heap.size = w.heap.size + 1 + 1 := by simp
  refine (HW.out _ (w.heap.size + 1 + 1) w.heap.size (by omega) (by omega) (by omega) ⟨?_, ?_, .slice (some ⟨w.heap.size + 1, 0, none⟩) 0 0, ?_, ?_⟩).mono ?_
  · exact (((below_new w _).alloc (by rw [hz1]; omega) _).alloc (by rw [hz2]; omega) _)
  · exact (((Blk.new w 34 [.slice A n c]).alloc _).alloc _)
  · exact hz2 ▸ Blk.new ((w.alloc (.cells #[Value.slice A n c] 34)).alloc (.cells #[] 30)) 34 [.slice (some ⟨w.heap.size + 1, 0, none⟩) 0 0]
  · have h9 := own_empty (w.alloc (.cells #[Value.slice A n c] 34)) 30 16
    rw [hz1] at h9
    exact own_low (h9.alloc _) (by omega)
  clear hz1 hz2
  rintro e w1 ⟨rfl, hI⟩
  obtain ⟨v, hbv, hown⟩ := hI.out
  have hcv : w1.cell? ⟨w.heap.size + 1 + 1, 0, none⟩ = some v := by rw [hbv.cell]; rfl
  have HO := hideIt hown
  have HB := hideIt hI.bel
  clear hI hbv hown
  go_wp2
  go_ret2
  refine ⟨_, rfl, ?_, HB.out⟩
  have h8 := HO.out
  rw [List.nil_append] at h8
  unfold proofD
  rw [HL.out, List.length_map]
  exact h8

end Go.Proofs.YtkjnimcapjjfdaaDoor
