/-
  The walk of the law: For every unit of at most 300 bytes, every position and any four bytes, replacing the bytes from the position on by the beginning of these changes the fingerprint if it changes the unit.
-/
import Derived.Test.YtbejmcndflmgaaaDoorDet
import Derived.Test.YtbejmcndflmgaaaDoorBQ
namespace Go.Proofs.YtbejmcndflmgaaaDoor.printDetects
open Go.RowKit
set_option linter.unusedVariables false
attribute [local go_sem] eqGuard_wv binOp_add_wv binOp_and_wv binOp_or_wv binOp_xor_wv binOp_shr_wv binOp_shl_wv unary_xor_wv run_convert_wv run_store_wv run_storeCells_wv run_convert_bw

theorem wp_region_quiet_below {P : Program} {id : Nat} {Q : Exit → Act → World → Prop} {a : Act} {w w0 : World} {B : Nat} {l : List Oper} (hm : P.follows .mixedOrders = true) (hB : Region.lexB .any l.toArray = true) (hC : Below B w0 w)
    (h : wpQuiet P l.toArray (fun w' => Below B w0 w') (fun a' => ∀ w', Below B w0 w' → Q .normal a' w') l a) : (Code.region id l.toArray true).wp P Q a w :=
  wp_region_quiet (C := fun w' => Below B w0 w') hm hB hC.drew (by simpa using h)

set_option maxHeartbeats 1000000 in
set_option maxRecDepth 100000 in
theorem walk (l0 : List UInt8) (a1 : Int) (l2 : List UInt8) (w : World) (s0 : l0.length ≤ 140737488351232) (w1 : -9223372036854775808 ≤ a1 ∧ a1 ≤ 9223372036854775807) (w2 : l2.length = 4) (T1 : Tabs w) :
    Calls Tryd.prog 6 #[.string (str l0), .int .i64 a1, .agg (l2.map bv).toArray] w fun e w' => e = .returned (.bool true) ∧ Below w.heap.size w w' := by
  have HT := hideIt T1
  obtain ⟨f0, f1, f2, f3, rfl⟩ : ∃ f0 f1 f2 f3, l2 = [f0, f1, f2, f3] := by
    match l2, w2 with
    | [a, b, c, d], _ => exact ⟨a, b, c, d, rfl⟩
  have HS0 := hideIt (fun W hW => sanity_any W (T1.keep hW))
  have HB0 := hideIt (below_new w (.cells #[bv f0, bv f1, bv f2, bv f3] 31))
  simp only [List.map_cons, List.map_nil]
  clear T1 w2
  by_cases h300 : (300 : Int) < (l0.length : Int)
  · have HZ := hideIt (str_size l0)
    generalize str l0 = s at *
    have hsz : (300 : Int) < (s.size : Int) := by rw [HZ.out]; exact h300
    go_enter Tryd.func6, Tryd.ntmps6
    go_wp2_with fail
    refine (HS0.out _ HB0.out).mono ?_
    rintro e w' ⟨rfl, hb⟩
    have HB := hideIt (HB0.out.trans (hb.mono HB0.out.size))
    clear hb
    go_wp2_with fail
    go_ret
    exact ⟨rfl, HB.out⟩
  have hs3 : ¬ (300 : Int) < ((str l0).size : Int) := by rw [str_size]; exact h300
  by_cases h1 : a1 < 0
  · clear w1 s0
    generalize str l0 = s at *
    go_enter Tryd.func6, Tryd.ntmps6
    go_wp2_with fail
    refine (HS0.out _ HB0.out).mono ?_
    rintro e w' ⟨rfl, hb⟩
    have HB := hideIt (HB0.out.trans (hb.mono HB0.out.size))
    clear hb
    go_wp2_with fail
    go_ret
    exact ⟨rfl, HB.out⟩
  by_cases h2 : ((str l0).size : Int) ≤ a1
  · clear w1 s0
    generalize str l0 = s at *
    go_enter Tryd.func6, Tryd.ntmps6
    go_wp2_with fail
    refine (HS0.out _ HB0.out).mono ?_
    rintro e w' ⟨rfl, hb⟩
    have HB := hideIt (HB0.out.trans (hb.mono HB0.out.size))
    clear hb
    go_wp2_with fail
    go_ret
    exact ⟨rfl, HB.out⟩
  have hlen := str_size l0
  obtain ⟨k, rfl⟩ : ∃ k : Nat, a1 = (k : Int) := ⟨a1.toNat, by omega⟩
  have hkn : k < l0.length := by omega
  clear w1
  have hd2 : decide ((l0.length : Int) ≤ (k : Int)) = false := decide_eq_false (by omega)
  have hn300 : l0.length ≤ 300 := by omega
  have hcv := Lib.run_convert_string_bytes (w.alloc (.cells #[bv f0, bv f1, bv f2, bv f3] 31)) 9 32 5 (str l0) Tryd.underlying9 Tryd.underlying32 Tryd.underlying5
  have hrow := brow_new (w.alloc (.cells #[bv f0, bv f1, bv f2, bv f3] 31)) 5 l0
  have hbb := below_bytes (w.alloc (.cells #[bv f0, bv f1, bv f2, bv f3] 31)) 5 (str l0)
  have hge := grownCap_ge (w.alloc (.cells #[bv f0, bv f1, bv f2, bv f3] 31)) (str l0).size 0 5
  have hsa := World.size_alloc w (.cells #[bv f0, bv f1, bv f2, bv f3] 31)
  have hblk : ∀ j (hj : j < 4), (w.alloc (.cells #[bv f0, bv f1, bv f2, bv f3] 31)).cell? ⟨w.heap.size, j, none⟩ = some (bv ([f0, f1, f2, f3][j])) := fun j hj => by
    have h := Blk.new w 31 [bv f0, bv f1, bv f2, bv f3]
    have h2 := h.cell j
    match j, hj with
    | 0, _ => exact h2
    | 1, _ => exact h2
    | 2, _ => exact h2
    | 3, _ => exact h2
  have hbox : ∀ j (hj : j < 4), (Lib.bytesWorld (w.alloc (.cells #[bv f0, bv f1, bv f2, bv f3] 31)) 5 (str l0)).cell? ⟨w.heap.size, j, none⟩ = some (bv ([f0, f1, f2, f3][j])) := fun j hj =>
    (hbb.cell (p := ⟨w.heap.size, j, none⟩) (by rw [hsa]; show w.heap.size < _; omega)).trans (hblk j hj)
  have HBB := hideIt (HB0.out.trans (hbb.mono HB0.out.size))
  rw [hlen] at hcv hge
  rw [hsa] at hcv hrow
  have HROW := hideIt hrow
  have HBX := hideIt hbox
  generalize Lib.bytesWorld (w.alloc (.cells #[bv f0, bv f1, bv f2, bv f3] 31)) 5 (str l0) = w1 at *
  generalize grownCap (w.alloc (.cells #[bv f0, bv f1, bv f2, bv f3] 31)) l0.length 0 5 = c at *
  obtain ⟨s, hs⟩ : ∃ s, s = str l0 := ⟨_, rfl⟩
  have HSS := hideIt hs
  rw [← hs] at hcv hlen hs3 ⊢
  have HLEN := hideIt hlen
  have hsz3 : ¬ (300 : Int) < (s.size : Int) := hs3
  have hk0 : ¬ (k : Int) < 0 := by omega
  have hks : ¬ (s.size : Int) ≤ (k : Int) := by rw [hlen]; omega
  have hds : decide ((s.size : Int) ≤ (k : Int)) = false := decide_eq_false hks
  have HKN := hideIt hkn
  have HN3 := hideIt hn300
  have HGE := hideIt hge
  clear hs hbox hblk hrow hbb hge hsa hd2 h2 h1 h300 s0 hlen hkn hn300 hs3 HB0
  go_enter Tryd.func6, Tryd.ntmps6
  go_wp2_with fail
  refine still_tail 4 (by kernel_rfl) (by kernel_rfl) ?_
  intro w3 hw3
  have hcut := fun W => cut_at (P := Tryd.prog) (T := 32) Tryd.underlying32 Tryd.sizeOf5 (w.heap.size + 1) HKN.out HGE.out W
  have harr := arr4_all w.heap.size
  have HR3 := hideIt (show BRow w3 (w.heap.size + 1) l0 by rw [hw3]; exact ⟨HROW.out.lt, HROW.out.cell, HROW.out.free⟩)
  have HX3 := hideIt (show ∀ j (hj : j < 4), w3.cell? ⟨w.heap.size, j, none⟩ = some (bv ([f0, f1, f2, f3][j])) by rw [hw3]; exact HBX.out)
  have HB3 := hideIt (show Below w.heap.size w w3 by rw [hw3]; exact HBB.out.drew)
  have h4l : ([f0, f1, f2, f3].take (l0.length - k)).length = min (l0.length - k) 4 := by simp
  have hkn := HKN.out
  have hcp := run_copy_cells (P := Tryd.prog) w3 32 32 3 5 (w.heap.size + 1) k (l0.length - k) (c - k) ⟨w.heap.size, 0, none⟩ 4 4 (([f0, f1, f2, f3].take (l0.length - k)).map bv) Tryd.underlying32 (by kernel_rfl)
    (by rw [List.length_map, h4l]; exact Nat.min_comm _ _)
    (fun j v hj => by
      obtain ⟨h1, h2⟩ := List.getElem?_eq_some_iff.1 hj
      rw [List.length_map, h4l] at h1
      rw [addr_add, Nat.zero_add, HX3.out j (by omega), ← h2, List.getElem_map, List.getElem_take])
    (fun j hj => by
      rw [List.length_map, h4l] at hj
      rw [HR3.out.cell (k + j) (by omega)]; rfl)
    (fun j hj => by
      rw [List.length_map, h4l] at hj
      exact HR3.out.free (k + j) (by omega))
    (bv_one _)
  have HCP := hideIt hcp
  have HRP := hideIt (brow_patch HR3.out k (Nat.le_of_lt hkn) (f := [f0, f1, f2, f3]) rfl)
  have HBP := hideIt (below_setCells (Nat.le_succ _) (([f0, f1, f2, f3].take (l0.length - k)).map bv) k w3 HB3.out)
  clear hw3 hcp hkn h4l
  simp only [List.take_succ_cons, List.take_zero, List.drop_succ_cons, List.drop_zero]
  repeat still_step
  refine wpStill_nil ?_
  go_wp2_with ((with_reducible refine at_copy ?_); refine wpList_copyv rfl _ _ _ _ rfl _ HCP.out ?_)
  obtain ⟨p, hp⟩ : ∃ p, p = patch l0 k [f0, f1, f2, f3] := ⟨_, rfl⟩
  have hpl : p.length = l0.length := by rw [hp]; exact patch_len l0 k _ (Nat.le_of_lt HKN.out) rfl
  have hps : crc p = crc l0 → p = l0 := by rw [hp]; exact patch_same l0 k _ (Nat.le_of_lt HKN.out) rfl
  rw [← hp] at HRP
  generalize w3.setCells (w.heap.size + 1) k (([f0, f1, f2, f3].take (l0.length - k)).map bv) = wr at *
  have hbw : Below w.heap.size w wr := HBP.out
  have hb31 : BRow wr (w.heap.size + 1) p := HRP.out
  have CV := hideIt (show ∀ W, Below wr.heap.size wr W → (convert 32 9 (.slice (some ⟨w.heap.size + 1, 0, none⟩) l0.length c)).run Tryd.prog W = .ok (.string (str p)) W from fun W hW => by
    have := conv_bytes (P := Tryd.prog) (T := 32) (S := 9) (e := 5) Tryd.underlying32 Tryd.underlying5 Tryd.underlying9 (c := c) (hb31.kept hW hb31.lt).sl
    rw [hpl] at this
    exact this)
  have CS := hideIt (fun W (hW : Below wr.heap.size wr W) => HS0.out W (hbw.trans (hW.mono hbw.size)))
  have C1 := hideIt (fun W (hW : Below wr.heap.size wr W) => fof_any p W (by rw [hpl]; have := HN3.out; omega) (HT.out.keep (hbw.trans (hW.mono hbw.size))))
  have C2 := hideIt (fun W (hW : Below wr.heap.size wr W) => fof_any l0 W (by have := HN3.out; omega) (HT.out.keep (hbw.trans (hW.mono hbw.size))))
  have HBW := hideIt hbw
  obtain ⟨b, hq1, hq2⟩ : ∃ b, binOp .eql 9 (.string (str p)) (.string (str l0)) = pure (.bool b) ∧ binOp .eql 27 (wv (crc p)) (wv (crc l0)) = pure (.bool b) := by
    by_cases h : p = l0
    · rw [h]; exact ⟨true, str_eqlT _ _, wv_eqlT _ _⟩
    · exact ⟨false, str_eqlF _ h, wv_eqlF _ (fun hh => h (hps hh))⟩
  rw [← HSS.out] at hq1 C2
  clear HS0 HBP HRP hb31 hbw hps hpl hp HCP HR3 HX3 HB3 hcut harr hcv hds hks hk0 hsz3
  generalize crc p = z1 at *
  generalize crc l0 = z2 at *
  generalize str p = sp at *
  refine wp_region_quiet_below (by kernel_rfl) (by kernel_rfl) (Below.refl wr.heap.size wr) ?_
  try simp only [Act.put]
  try simp only [List.setIfInBounds_toArray]
  try simp only [List.set_cons_succ]
  try simp only [List.set_cons_zero]
  go_big_quiet_step ((intro hb; refine (CS.out _ hb).mono ?_; rintro x wc ⟨rfl, hb2⟩; exact ⟨rfl, hb.trans (hb2.mono hb.size)⟩))
  go_big_quiet_step (fail)
  go_big_quiet_step (fail)
  go_big_quiet_want
  refine quiet_run (.string sp) (fun W hW => by simp [execOp, CV.out W hW, Result.andThen, go_sem]) ?_
  go_big_quiet_on
  try simp only [Act.put]
  try simp only [List.setIfInBounds_toArray]
  try simp only [List.set_cons_succ]
  try simp only [List.set_cons_zero]
  go_big_quiet_step (fail)
  go_big_quiet_step ((first | (intro _; rfl) | (intro _; exact ⟨rfl, rfl⟩)))
  go_big_quiet_step (fail)
  go_big_quiet_want
  refine quiet_run (.string sp) (fun W hW => by simp [execOp, CV.out W hW, Result.andThen, go_sem]) ?_
  go_big_quiet_on
  try simp only [Act.put]
  try simp only [List.setIfInBounds_toArray]
  try simp only [List.set_cons_succ]
  try simp only [List.set_cons_zero]
  go_big_quiet_step ((intro hb; refine (C1.out _ hb).mono ?_; rintro x wc ⟨rfl, hb2⟩; exact ⟨rfl, hb.trans (hb2.mono hb.size)⟩))
  go_big_quiet_step (fail)
  go_big_quiet_step ((intro hb; refine (C2.out _ hb).mono ?_; rintro x wc ⟨rfl, hb2⟩; exact ⟨rfl, hb.trans (hb2.mono hb.size)⟩))
  repeat (go_big_quiet_step ((first | (intro _; rfl) | (intro _; exact ⟨rfl, rfl⟩))))
  refine wpQuiet_nil ?_
  intro wc BC
  go_wp2_with fail
  go_ret
  exact ⟨rfl, HBW.out.trans (BC.mono HBW.out.size)⟩

end Go.Proofs.YtbejmcndflmgaaaDoor.printDetects
