/-
  The examples that every statement of layer 4 plays first: sanity.
-/
import Derived.Test.YtbejmcndflmgaaaDoorTwl
namespace Go.Proofs.YtbejmcndflmgaaaDoor
open Go.RowKit Go.Shelf
set_option linter.unusedVariables false
attribute [local go_sem] Oper.semAt_some

theorem results_cell_bool {fn : Func} {p : Tmp} (h : fn.results = #[.cell p 4]) (tmps : Array Value) (w : World) (g : Nat) (hp : tmps.getD p undef = .pointer (some ⟨g, 0, none⟩)) (b : Bool) (hc : w.cell? ⟨g, 0, none⟩ = some (.bool b)) :
    (results fn tmps).run Tryd.prog w = .ok (.bool b) w := by
  have hp2 : tmps[p]?.getD undef = .pointer (some ⟨g, 0, none⟩) := by simpa using hp
  simp only [results, h]
  simp [hp2, Sem.run_bind, go_sem, hc]

def abcde : List UInt8 := [97, 98, 99, 100, 101]
def five0 : List UInt8 := [0, 0, 0, 0, 0]
def nine : List UInt8 := [49, 50, 51, 52, 53, 54, 55, 56, 57]
theorem abcde_len : (twinsL abcde).length = 8 := by rw [twinsL_len]; rfl
theorem abcde_five (x : List UInt8) (h : x ∈ twinsL abcde) : x.length = 5 := by
  unfold twinsL at h
  obtain ⟨j, hj, rfl⟩ := List.mem_map.1 h
  have hj := List.mem_range.1 hj
  have h8 : (spc abcde.length).toNat = 8 := rfl
  rw [twin_len abcde j (by show j + 32 < 8 * 5; omega)]
  rfl
theorem wv_is (x : UInt32) (n : Int) (h : (x.toNat : Int) = n) : wv x = .int .u32 n := by rw [← h]; rfl

set_option maxHeartbeats 1000000 in
set_option maxRecDepth 100000 in
theorem sanity_any (w : World) (hT : Tabs w) : Calls Tryd.prog 8 #[] w fun e w' => e = .returned (.bool true) ∧ Below w.heap.size w w' := by
  have HTA : Hid (∀ W, Below w.heap.size w W → Calls Tryd.prog 9 #[.string { data := #[0, 0, 0, 0, 0] }, .int .i64 0] W fun e w' => e = .returned (.tuple #[.string { data := #[241, 118, 236, 5, 1] }, .int .i64 0]) ∧ Below W.heap.size W w') := fun W hW => by
    refine (show Calls Tryd.prog 9 #[.string { data := #[0, 0, 0, 0, 0] }, .int .i64 0] W _ from tw_any five0 0 W (hT.keep hW)).mono ?_
    rintro e w' ⟨rfl, hb⟩
    rw [show twS five0 0 = [241, 118, 236, 5, 1] by decide +kernel, show twE five0 0 = 0 by decide +kernel]
    exact ⟨rfl, hb⟩
  have HTB : Hid (∀ W, Below w.heap.size w W → Calls Tryd.prog 9 #[.string { data := #[0, 0, 0, 0] }, .int .i64 0] W fun e w' => e = .returned (.tuple #[.string { data := #[] }, .int .i64 1]) ∧ Below W.heap.size W w') := fun W hW => by
    refine (show Calls Tryd.prog 9 #[.string { data := #[0, 0, 0, 0] }, .int .i64 0] W _ from tw_any [0, 0, 0, 0] 0 W (hT.keep hW)).mono ?_
    rintro e w' ⟨rfl, hb⟩
    rw [show twS [0, 0, 0, 0] 0 = [] by decide +kernel, show twE [0, 0, 0, 0] 0 = 1 by decide +kernel]
    exact ⟨rfl, hb⟩
  have HOF : Hid (∀ W, Below w.heap.size w W → Calls Tryd.prog 11 #[.string { data := #[49, 50, 51, 52, 53, 54, 55, 56, 57] }] W fun e w' => e = .returned (.int .u32 3808858755) ∧ Below W.heap.size W w') := fun W hW => by
    refine (show Calls Tryd.prog 11 #[.string { data := #[49, 50, 51, 52, 53, 54, 55, 56, 57] }] W _ from fof_any nine W (by decide) (hT.keep hW)).mono ?_
    rintro e w' ⟨rfl, hb⟩
    rw [wv_is (crc nine) 3808858755 (by decide +kernel)]
    exact ⟨rfl, hb⟩
  have HS4 : Hid (∀ W, Calls Tryd.prog 10 #[.int .i64 4] W fun e w' => e = .returned (.int .i64 0) ∧ W = w') := fun W => space_any 4 W
  have HS32 : Hid (∀ W, Calls Tryd.prog 10 #[.int .i64 32] W fun e w' => e = .returned (.int .i64 224) ∧ W = w') := fun W => space_any 32 W
  have HT := hideIt hT
  clear hT
  refine callsIn_wide.1 (callsIn_of_wp_marks (n := 0) Tryd.func8 rfl trivial ((wpIn_wide (n := 0)).2 ?_))
  simp only [Tryd.ntmps8, List.size_toArray, List.length_nil, Nat.reduceSub, Array.replicate_succ, Array.replicate_zero, List.push_toArray, List.append_toArray, List.nil_append, List.cons_append]
  go_wp2_with fail
  have B0 := hideIt (below_new w (.cells #[.bool false] 4))
  have C0 := hideIt (cell_one w 4 (.bool false))
  have F0 := hideIt (free_one w 4 (.bool false))
  have S0 := hideIt (World.size_alloc w (.cells #[.bool false] 4))
  refine (HTA.out _ B0.out).mono ?_
  rintro e w1 ⟨rfl, hb1⟩
  have B1 := hideIt (B0.out.trans (hb1.mono B0.out.size))
  have S1 := hideIt (show w.heap.size + 1 ≤ w1.heap.size by rw [← S0.out]; exact hb1.size)
  have C1 := hideIt ((hb1.cell (p := ⟨w.heap.size, 0, none⟩) (by rw [S0.out]; show w.heap.size < _; omega)).trans C0.out)
  have F1 := hideIt ((hb1.frozen (p := ⟨w.heap.size, 0, none⟩) (by rw [S0.out]; show w.heap.size < _; omega)).trans F0.out)
  clear hb1 B0 C0 F0 S0 HTA
  go_wp2_with fail
  refine (HTB.out _ B1.out).mono ?_
  rintro e w2 ⟨rfl, hb2⟩
  have B2 := hideIt (B1.out.trans (hb2.mono B1.out.size))
  have S2 := hideIt (Nat.le_trans S1.out hb2.size)
  have C2 := hideIt ((hb2.cell (p := ⟨w.heap.size, 0, none⟩) (by have := S1.out; show w.heap.size < _; omega)).trans C1.out)
  have F2 := hideIt ((hb2.frozen (p := ⟨w.heap.size, 0, none⟩) (by have := S1.out; show w.heap.size < _; omega)).trans F1.out)
  clear hb2 B1 C1 F1 S1 HTB
  go_wp2_with fail
  have hcn := cell_one w2 3 (.int .i64 0)
  have hfn := free_one w2 3 (.int .i64 0)
  have hbn := below_new w2 (.cells #[.int .i64 0] 3)
  have hsn := World.size_alloc w2 (.cells #[.int .i64 0] 3)
  have htw := twins_any { data := #[97, 98, 99, 100, 101] } (w2.alloc (.cells #[.int .i64 0] 3))
  generalize w2.alloc (.cells #[.int .i64 0] 3) = w3 at *
  obtain ⟨B, hB⟩ : ∃ B, B = w3.heap.size := ⟨_, rfl⟩
  obtain ⟨nb, hnb⟩ : ∃ nb, nb = w2.heap.size := ⟨_, rfl⟩
  rw [← hB] at htw
  rw [← hnb] at hcn hfn ⊢
  have HTW := hideIt htw
  have hS2 := S2.out
  have S3 := hideIt (show w.heap.size < nb ∧ B = nb + 1 by omega)
  have B3 := hideIt (B2.out.trans (hbn.mono B2.out.size))
  have C3 := hideIt ((hbn.cell (p := ⟨w.heap.size, 0, none⟩) (by show w.heap.size < _; omega)).trans C2.out)
  have F3 := hideIt ((hbn.frozen (p := ⟨w.heap.size, 0, none⟩) (by show w.heap.size < _; omega)).trans F2.out)
  have CN := hideIt hcn
  have FN := hideIt hfn
  have HBB := hideIt hB
  clear htw hcn hfn hbn hsn hB hnb S2 B2 C2 F2 hS2
  refine HTW.out.mono ?_
  rintro e w4 ⟨rfl, hw4⟩
  clear HTW
  have hct := cell_two w3 9 34 (.string { data := #[97, 98, 99, 100, 101] }) (.func (.func 22) #[] #[.pointer (some ⟨B, 0, none⟩)])
  have hz4 : w4.heap.size = B + 2 := by rw [hw4, HBB.out]; simp
  have hb4 : Below B w3 w4 := by rw [hw4, HBB.out]; exact ((Below.refl _ w3).alloc (Nat.le_refl _) _).alloc (by simp) _
  rw [← hw4, ← HBB.out] at hct
  have hs3 := S3.out
  have HIT := hideIt (law_iter abcde B w4 (HT.out.keep (B3.out.trans (hb4.mono (by omega)))) (by omega) hct.1 hct.2)
  have B4 := hideIt (B3.out.trans (hb4.mono (by omega)))
  have C4 := hideIt ((hb4.cell (p := ⟨w.heap.size, 0, none⟩) (by show w.heap.size < _; omega)).trans C3.out)
  have F4 := hideIt ((hb4.frozen (p := ⟨w.heap.size, 0, none⟩) (by show w.heap.size < _; omega)).trans F3.out)
  have CN4 := hideIt ((hb4.cell (p := ⟨nb, 0, none⟩) (by show nb < _; omega)).trans CN.out)
  have FN4 := hideIt ((hb4.frozen (p := ⟨nb, 0, none⟩) (by show nb < _; omega)).trans FN.out)
  have Z4 := hideIt (show w4.heap.size = nb + 3 by omega)
  have hx0 := HT.out.hi
  have hx1 := HT.out.lo
  have q1 : ∀ k, capL B k → k < w4.heap.size := fun k hk => by
    rcases hk with rfl | rfl | rfl | rfl <;> omega
  have q2 : ∀ k, k = nb → k < w4.heap.size ∧ ¬ capL B k := fun k hk => by
    subst hk
    exact ⟨by omega, fun hh => by rcases hh with hh | hh | hh | hh <;> omega⟩
  have q3 : Low w4.heap.size (fun (pre : List (List UInt8)) V => V.cell? ⟨nb, 0, none⟩ = some (.int .i64 (pre.length : Int)) ∧ V.frozen? ⟨nb, 0, none⟩ = false) := fun s A V h hb =>
    ⟨(hb.cell (p := ⟨nb, 0, none⟩) (by show nb < _; omega)).trans h.1, (hb.frozen (p := ⟨nb, 0, none⟩) (by show nb < _; omega)).trans h.2⟩
  have Q1 := hideIt q1
  have Q2 := hideIt q2
  have Q3 := hideIt q3
  clear q1 q2 q3 hx0 hx1 hs3 hb4 hz4 hct hw4 B3 C3 F3 CN FN HBB
  go_wp2_with fail
  refine range_any (gf := 18) (lb := #[.pointer (some ⟨B + 1, 0, none⟩)]) rfl (enters_of Tryd.func18 (by kernel_rfl) rfl) HIT.out (fun k hk => ⟨Q1.out k hk, rfl⟩) (fun _ => rfl) (fun k => k = nb) Q2.out
    (fun pre V => V.cell? ⟨nb, 0, none⟩ = some (.int .i64 (pre.length : Int)) ∧ V.frozen? ⟨nb, 0, none⟩ = false) (fun _ _ _ => False) Q3.out (fun _ _ _ _ h _ => h) ⟨CN4.out, FN4.out⟩ ?a1 ?assign ?body ?done ?stop
  case assign =>
    intro l' x V K hK
    have HK2 := hideIt hK
    clear hK
    gi_wp2
    exact HK2.out
  case body =>
    rintro l' pre x V hpre hKV ⟨hn, hf⟩
    have h5 : (str x).size = 5 := by rw [str_size]; exact abcde_five x (hpre.subset (by simp))
    have hl8 : pre.length + 1 ≤ 8 := by
      have h1 := hpre.length_le
      rw [abcde_len] at h1
      simpa using h1
    have hinc := inc_c 3 pre.length (by omega)
    have HM := hideIt (show (pre ++ [x]).length = pre.length + 1 by simp)
    have HKS := hideIt (fun u => (Keeps.refl (fun k => k = nb) V).setCell (p := ⟨nb, 0, none⟩) rfl u)
    have HCS := hideIt (fun u => World.cell?_setCell_same' V ⟨nb, 0, none⟩ u (by rw [hn]; rfl))
    have HFS := hideIt (show ∀ u, (V.setCell ⟨nb, 0, none⟩ u).frozen? ⟨nb, 0, none⟩ = false from fun u => by rw [World.frozen?_setCell]; exact hf)
    generalize str x = s at *
    clear hpre hKV hl8
    gi_wp2_with fail
    exact ⟨HKS.out _, by rw [HM.out]; exact HCS.out _, HFS.out _⟩
  case done =>
    rintro D V hD hKV ⟨hn, hf⟩ hDf
    rw [abcde_len] at hn
    have hs3 := S3.out
    have hz4 := Z4.out
    have BV := hideIt (B4.out.trans (hKV.below (B := w.heap.size) (by omega) (fun k hk hh => by omega)))
    have hcv := (hKV.cell (p := ⟨w.heap.size, 0, none⟩) (by show w.heap.size < _; omega) (by show ¬ w.heap.size = nb; omega)).trans C4.out
    have hfv := (hKV.frozen (p := ⟨w.heap.size, 0, none⟩) (by show w.heap.size < _; omega) (by show ¬ w.heap.size = nb; omega)).trans F4.out
    have HNV := hideIt hn
    have HCV := hideIt hcv
    have HFV := hideIt hfv
    have HSV := hideIt (show w.heap.size < V.heap.size ∧ nb < V.heap.size by have := hKV.size; omega)
    have HDV := hideIt (show D < V.heap.size ∧ w.heap.size < D from ⟨(Array.getElem?_eq_some_iff.1 hDf).1, by omega⟩)
    have HDF := hideIt hDf
    clear hn hf hDf hD hKV hcv hfv hs3 hz4
    go_wp2_with fail
    refine (HOF.out _ BV.out).mono ?_
    rintro e w5 ⟨rfl, hb5⟩
    have hn5 := (hb5.cell (p := ⟨nb, 0, none⟩) HSV.out.2).trans HNV.out
    have hc5 := (hb5.cell (p := ⟨w.heap.size, 0, none⟩) HSV.out.1).trans HCV.out
    have hf5 := (hb5.frozen (p := ⟨w.heap.size, 0, none⟩) HSV.out.1).trans HFV.out
    have HB5 := hideIt (BV.out.trans (hb5.mono BV.out.size))
    have HD5 := hideIt ((hb5.block D HDV.out.1).trans HDF.out)
    clear hb5
    go_wp2_with fail
    refine (HS4.out _).mono ?_
    rintro e w' ⟨rfl, rfl⟩
    go_wp2_with fail
    refine (HS32.out _).mono ?_
    rintro e w' ⟨rfl, rfl⟩
    go_wp2_with fail
    refine ⟨by simp, .inl ⟨_, _, rfl, run_takeDeferred ((Below.heap_setCell _ _ _ _ (by have := HDV.out; show D ≠ w.heap.size; omega)).trans HD5.out), ?_⟩⟩
    refine ⟨_, results_cell_bool rfl _ _ w.heap.size rfl true ?_, rfl, (HB5.out.setCell (p := ⟨w.heap.size, 0, none⟩) (Nat.le_refl _) _).trans (below_putObj _ (by have := HDV.out; omega) _)⟩
    rw [(below_putObj (B := D) _ (Nat.le_refl _) _).cell (p := ⟨w.heap.size, 0, none⟩) (by have := HDV.out; show w.heap.size < D; omega)]
    exact World.cell?_setCell_same' _ _ _ (by rw [hc5]; rfl)
  case stop =>
    rintro D c pre V _ _ _ h _
    exact h.elim

end Go.Proofs.YtbejmcndflmgaaaDoor
