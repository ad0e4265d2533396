/-
  The examples that every statement of layer 2 plays first: sanity. First: a proof is accepted.
-/
import Derived.Test.YtkjnimcapjjfdaaDoorVerify
import Derived.Test.YtkjnimcapjjfdaaDoorProve
namespace Go.Proofs.YtkjnimcapjjfdaaDoor
open Go.RowKit
set_option linter.unusedVariables false

theorem sha_nil0 : (sha [])[0]? = some 227 := by decide +kernel
theorem sha_nil31 : (sha [])[31]? = some 85 := by decide +kernel

theorem rootK_app (leaf : List UInt8) (bs bs' : List Bool) (ds ds' : List (List UInt8)) : ∀ k, k ≤ bs.length → k ≤ ds.length → rootK (bs ++ bs') (ds ++ ds') leaf k = rootK bs ds leaf k
  | 0, _, _ => rfl
  | k + 1, h1, h2 => by
    rw [rootK, rootK, rootK_app leaf bs bs' ds ds' k (by omega) (by omega)]
    simp only [List.getD_eq_getElem?_getD]
    rw [List.getElem?_append_left (by omega), List.getElem?_append_left (by omega)]
theorem cut_len (l : List (List UInt8)) (low high : Nat) (h : high ≤ l.length) : ((l.drop low).take (high - low)).length = high - low := by
  rw [List.length_take, List.length_drop]; omega
theorem climb_accept (l : List (List UInt8)) : ∀ (e low high i : Nat), high - low ≤ 2 ^ e → low ≤ i → i < high → high ≤ l.length →
    rootK (befD (sibs low high i)) ((sibs low high i).map (sibD l)) (l.getD i []) (sibs low high i).length = rootD ((l.drop low).take (high - low)) := by
  have one : ∀ (low high i : Nat), ¬ 2 ≤ high - low → low ≤ i → i < high → high ≤ l.length →
      rootK (befD (sibs low high i)) ((sibs low high i).map (sibD l)) (l.getD i []) (sibs low high i).length = rootD ((l.drop low).take (high - low)) := by
    intro low high i h h1 h2 h3
    obtain rfl : i = low := by omega
    rw [sibs_one _ _ _ h, show high - i = 1 by omega, List.take_one, List.head?_drop, List.getElem?_eq_getElem (by omega)]
    simp only [Option.toList_some, rootD_one, List.length_nil, rootK, List.getD_eq_getElem?_getD]
    rw [List.getElem?_eq_getElem (by omega)]
    rfl
  intro e
  induction e with
  | zero => intro low high i h h1 h2 h3; exact one low high i (by simp at h; omega) h1 h2 h3
  | succ e ih =>
    intro low high i h h1 h2 h3
    by_cases h5 : 2 ≤ high - low
    · have hs := splitK_spec _ h5
      have hl := splitK_le _ e h5 h
      obtain ⟨k, hk⟩ : ∃ k, k = splitK (high - low) := ⟨_, rfl⟩
      have hL := sibs_left low high i h5
      have hR := sibs_right low high i h5
      have hroot := rootD_two ((l.drop low).take (high - low)) (by rw [cut_len l low high h3]; omega)
      rw [cut_len l low high h3, ← hk, List.take_take, Nat.min_eq_left (by omega), List.drop_take, List.drop_drop] at hroot
      rw [← hk] at hs hl hL hR
      by_cases hi : i < low + k
      · have ih1 := ih low (low + k) i (by omega) h1 hi (by omega)
        rw [hL hi, List.length_append, List.length_cons, List.length_nil, Nat.zero_add, befD, List.map_append, List.map_append, rootK]
        rw [rootK_app _ _ _ _ _ _ (by rw [List.length_map]; omega) (by rw [List.length_map]; omega)]
        simp only [befD] at ih1
        rw [ih1]
        simp only [List.getD_eq_getElem?_getD]
        rw [List.getElem?_append_right (by rw [List.length_map]; omega), List.getElem?_append_right (by rw [List.length_map]; omega)]
        simp only [List.length_map, Nat.sub_self, List.map_cons, List.map_nil, List.getElem?_cons_zero, Option.getD_some, stepIn]
        rw [hroot, if_neg (by decide), sibD, nodeD]
        simp only
        rw [show low + k - low = k by omega, show high - (low + k) = high - low - k by omega]
      · have ih1 := ih (low + k) high i (by omega) (by omega) h2 h3
        rw [hR hi, List.length_append, List.length_cons, List.length_nil, Nat.zero_add, befD, List.map_append, List.map_append, rootK]
        rw [rootK_app _ _ _ _ _ _ (by rw [List.length_map]; omega) (by rw [List.length_map]; omega)]
        simp only [befD] at ih1
        rw [ih1]
        simp only [List.getD_eq_getElem?_getD]
        rw [List.getElem?_append_right (by rw [List.length_map]; omega), List.getElem?_append_right (by rw [List.length_map]; omega)]
        simp only [List.length_map, Nat.sub_self, List.map_cons, List.map_nil, List.getElem?_cons_zero, Option.getD_some, stepIn]
        rw [hroot, if_pos trivial, sibD, nodeD]
        simp only
        rw [show low + k - low = k by omega, show high - (low + k) = high - low - k by omega]
    · exact one low high i h5 h1 h2 h3
theorem verB_proof (l : List (List UInt8)) (i : Nat) (hi : i < l.length) (hl : l.length ≤ 1000000000) : verB (rootD l) l.length i (l.getD i []) (proofD l i) = true := by
  unfold verB
  rw [decide_eq_true_iff]
  simp only [Int.toNat_natCast]
  refine ⟨by omega, by omega, by unfold proofD; rw [List.length_map], ?_⟩
  have := climb_accept l 30 0 l.length i (by omega) (by omega) hi (Nat.le_refl _)
  unfold proofD
  rw [List.length_map, this, List.drop_zero, Nat.sub_zero, List.take_length]

theorem lit_sl (w : World) (t : TypeId) (xs : List Value) (cs : Array Value) (hcs : cs = xs.toArray) (size n : Nat) (hn : xs.length = n * size) :
    Sl (w.alloc (.cells cs t)) (w.alloc (.cells cs t)).heap.size (some ⟨w.heap.size, 0, none⟩) size n xs := by
  subst hcs
  refine ⟨hn, fun _ => ⟨_, _, rfl, by simp, fun j u hu => ?_⟩⟩
  rw [Nat.zero_add, (Blk.new w t xs).cell]
  exact hu
def dlit (b : UInt8) : List UInt8 := b :: List.replicate 15 0
def lit3 : List (List UInt8) := [dlit 1, dlit 2, dlit 3]

theorem sib32 : sibs 0 3 2 = [(0, 2, true)] := by
  rw [sibs_right 0 3 2 (by omega) (by decide +kernel), show splitK (3 - 0) = 2 by decide +kernel, sibs_one _ _ _ (by omega)]; rfl
theorem sib31 : (sibs 0 3 1).length = 2 := by
  rw [sibs_left 0 3 1 (by omega) (by decide +kernel), show splitK (3 - 0) = 2 by decide +kernel, sibs_right 0 (0 + 2) 1 (by omega) (by decide +kernel), show splitK (0 + 2 - 0) = 1 by decide +kernel, sibs_one _ _ _ (by omega)]; rfl
theorem lit3_16 : ∀ d ∈ lit3, d.length = 16 := by decide +kernel
theorem verB_lit : verB (rootD lit3) 3 2 (dlit 3) (proofD lit3 2) = true := verB_proof lit3 2 (by decide) (by decide)
theorem verB_bad (r : List UInt8) : verB r 3 1 (dlit 3) [] = false := by
  unfold verB
  refine decide_eq_false fun h => ?_
  have h3 := h.2.2.1
  rw [show (3 : Int).toNat = 3 from rfl, show (1 : Int).toNat = 1 from rfl, sib31] at h3
  simp at h3
theorem proof_lit : (proofD lit3 2).length = 1 := by
  unfold proofD
  rw [List.length_map, show lit3.length = 3 from rfl, sib32]; rfl

set_option maxHeartbeats 1600000 in
set_option maxRecDepth 100000 in
theorem sanity_any (w : World) (hT : Tab w 1) : Calls Tryd.prog 10 #[] w fun e w' => e = .returned (.bool true) ∧ Below w.heap.size w w' := by
  have HT := hideIt hT
  have HSU := hideIt (fun (W : World) (h : Tab W 1) => sum_any none 0 0 [] W (Sl.nil _ _ _ _) (Nat.le_refl _) (by simp) (by omega) h)
  obtain ⟨z, hz⟩ : ∃ z, z = sha [] := ⟨_, rfl⟩
  have HZL : Hid (z.length = 32) := by rw [hz]; exact sha_len _
  have HZ0 : Hid (z[0]? = some 227) := by rw [hz]; exact sha_nil0
  have HZ31 : Hid (z[31]? = some 85) := by rw [hz]; exact sha_nil31
  rw [← hz] at HSU
  clear hz hT
  go_enter Tryd.func10, Tryd.ntmps10
  go_wp2_with (first
    | (go_at_call 11; refine (HSU.out _ HT.out).mono ?_; rintro e w1 ⟨rfl, hb1⟩; have HB1 := hideIt hb1; clear hb1)
    | ((with_reducible refine at_store ?_); refine wpList_put rfl 24 (.tmp 1) (.tmp 7) rfl w1.heap.size (z.map bv) _ _ rfl rfl (Blk.new w1 24 (List.replicate 32 (Value.int .u8 0))) (by rw [List.length_map, HZL.out]; kernel_rfl) (by rw [List.length_map, HZL.out]; rfl) (bv_one _) ?_; intro w2 ht2 hb2; have HT2 := hideIt ht2; have HB2 := hideIt hb2; clear ht2 hb2))
  have hlit := lit_sl w2 30 (lit3.flatten.map bv) (lit3.flatten.map bv).toArray rfl 16 3 (by kernel_rfl)
  rw [show (lit3.flatten.map bv).toArray = #[Value.int .u8 1, Value.int .u8 0, Value.int .u8 0, Value.int .u8 0, Value.int .u8 0, Value.int .u8 0, Value.int .u8 0, Value.int .u8 0, Value.int .u8 0, Value.int .u8 0, Value.int .u8 0, Value.int .u8 0, Value.int .u8 0, Value.int .u8 0, Value.int .u8 0, Value.int .u8 0, Value.int .u8 2, Value.int .u8 0, Value.int .u8 0, Value.int .u8 0, Value.int .u8 0, Value.int .u8 0, Value.int .u8 0, Value.int .u8 0, Value.int .u8 0, Value.int .u8 0, Value.int .u8 0, Value.int .u8 0, Value.int .u8 0, Value.int .u8 0, Value.int .u8 0, Value.int .u8 0, Value.int .u8 3, Value.int .u8 0, Value.int .u8 0, Value.int .u8 0, Value.int .u8 0, Value.int .u8 0, Value.int .u8 0, Value.int .u8 0, Value.int .u8 0, Value.int .u8 0, Value.int .u8 0, Value.int .u8 0, Value.int .u8 0, Value.int .u8 0, Value.int .u8 0, Value.int .u8 0] by kernel_rfl] at hlit
  have hB2 : Below w.heap.size w w2 := HT2.out.below (HB1.out.alloc HB1.out.size _) HB1.out.size
  have hs2 := hB2.size
  have hB3 := hB2.alloc hs2 (.cells #[Value.int .u8 1, Value.int .u8 0, Value.int .u8 0, Value.int .u8 0, Value.int .u8 0, Value.int .u8 0, Value.int .u8 0, Value.int .u8 0, Value.int .u8 0, Value.int .u8 0, Value.int .u8 0, Value.int .u8 0, Value.int .u8 0, Value.int .u8 0, Value.int .u8 0, Value.int .u8 0, Value.int .u8 2, Value.int .u8 0, Value.int .u8 0, Value.int .u8 0, Value.int .u8 0, Value.int .u8 0, Value.int .u8 0, Value.int .u8 0, Value.int .u8 0, Value.int .u8 0, Value.int .u8 0, Value.int .u8 0, Value.int .u8 0, Value.int .u8 0, Value.int .u8 0, Value.int .u8 0, Value.int .u8 3, Value.int .u8 0, Value.int .u8 0, Value.int .u8 0, Value.int .u8 0, Value.int .u8 0, Value.int .u8 0, Value.int .u8 0, Value.int .u8 0, Value.int .u8 0, Value.int .u8 0, Value.int .u8 0, Value.int .u8 0, Value.int .u8 0, Value.int .u8 0, Value.int .u8 0] 30)
  have hblk := HB2.out.alloc (.cells #[Value.int .u8 1, Value.int .u8 0, Value.int .u8 0, Value.int .u8 0, Value.int .u8 0, Value.int .u8 0, Value.int .u8 0, Value.int .u8 0, Value.int .u8 0, Value.int .u8 0, Value.int .u8 0, Value.int .u8 0, Value.int .u8 0, Value.int .u8 0, Value.int .u8 0, Value.int .u8 0, Value.int .u8 2, Value.int .u8 0, Value.int .u8 0, Value.int .u8 0, Value.int .u8 0, Value.int .u8 0, Value.int .u8 0, Value.int .u8 0, Value.int .u8 0, Value.int .u8 0, Value.int .u8 0, Value.int .u8 0, Value.int .u8 0, Value.int .u8 0, Value.int .u8 0, Value.int .u8 0, Value.int .u8 3, Value.int .u8 0, Value.int .u8 0, Value.int .u8 0, Value.int .u8 0, Value.int .u8 0, Value.int .u8 0, Value.int .u8 0, Value.int .u8 0, Value.int .u8 0, Value.int .u8 0, Value.int .u8 0, Value.int .u8 0, Value.int .u8 0, Value.int .u8 0, Value.int .u8 0] 30)
  obtain ⟨b3, hb3⟩ : ∃ b, b = w2.heap.size := ⟨_, rfl⟩
  rw [← hb3] at hlit
  rw [← hb3]
  clear hb3
  generalize w2.alloc _ = w3 at hlit hB3 hblk
  have hD3 : Ds w3 w3.heap.size (some ⟨b3, 0, none⟩) 3 lit3 := ⟨rfl, lit3_16, hlit⟩
  have HD3 := hideIt hD3
  have HB3 := hideIt hB3
  have HBK3 := hideIt hblk
  have HT3 := hideIt (HT.out.keep hB3)
  clear hlit hB2 hs2 hB3 hblk hD3
  refine (prove_any (some ⟨b3, 0, none⟩) _ 3 3 2 lit3 _ HD3.out (Nat.le_refl _) (by omega) (Nat.le_refl _) HT3.out (by omega)).mono ?_
  rintro e w4 ⟨v4, rfl, hown4, hb4⟩
  rw [proof_lit] at hown4
  obtain ⟨A4, c4, rfl, hc41, hc42⟩ := own_form hown4
  have HD4 : Hid (Ds w4 w4.heap.size A4 1 (proofD lit3 2)) := ⟨proof_lit, proofD_16 _ _, Sl.of_own hown4⟩
  have HB4 := hideIt hb4
  clear hown4 hb4
  go_wp2_with fail
  refine (prove_none _ _ _ _ _ (by omega) (.inr (by omega))).mono ?_
  rintro e w5 ⟨rfl, hb5⟩
  have HB35 := hideIt (HB4.out.trans (hb5.mono HB4.out.size))
  have HB45 := hideIt hb5
  clear hb5
  have hbk5 := HBK3.out.kept HB35.out HBK3.out.lt
  have hcz0 : w5.cell? ⟨w1.heap.size, 0, none⟩ = some (.int .u8 227) := by rw [hbk5.cell, List.getElem?_map, HZ0.out]; rfl
  have hcz31 : w5.cell? ⟨w1.heap.size, 31, none⟩ = some (.int .u8 85) := by rw [hbk5.cell, List.getElem?_map, HZ31.out]; rfl
  clear hbk5
  obtain ⟨r, hr⟩ : ∃ r, r = rootD lit3 := ⟨_, rfl⟩
  have HRL : Hid (r.length = 16) := by rw [hr]; exact rootD_len _
  have HV1 : Hid (verB r 3 2 (dlit 3) (proofD lit3 2) = true) := by rw [hr]; exact verB_lit
  have HRT := hideIt (fun (W : World) (h : Below w3.heap.size w3 W) => root_any 3 lit3 (some ⟨b3, 0, none⟩) w3.heap.size 3 3 W (by omega) (by omega) (HD3.out.below h (Nat.le_refl _)) (by omega) h.size (HT3.out.keep h))
  rw [← hr] at HRT
  clear hr
  go_wp2_with fail
  refine (HRT.out _ HB35.out).mono ?_
  rintro e w6 ⟨rfl, hb6⟩
  have HB36 := hideIt (HB35.out.trans (hb6.mono HB35.out.size))
  have HB46 := hideIt (HB45.out.trans (hb6.mono HB45.out.size))
  clear hb6
  have HVA := hideIt (verify_any r (dlit 3) HRL.out rfl 3 2 (by omega) A4 1 c4 _ w6 ((HD4.out.below HB46.out (Nat.le_refl _)).wide HB46.out.size) (HT3.out.keep HB36.out) (by omega))
  go_wp2_with fail
  refine HVA.out.mono ?_
  rintro e w7 ⟨rfl, hb7⟩
  rw [HV1.out]
  have HB37 := hideIt (HB36.out.trans (hb7.mono HB36.out.size))
  clear hb7
  go_wp2_with fail
  refine (HRT.out _ HB37.out).mono ?_
  rintro e w8 ⟨rfl, hb8⟩
  have HB38 := hideIt (HB37.out.trans (hb8.mono HB37.out.size))
  clear hb8
  have HVB := hideIt (verify_any r (dlit 3) HRL.out rfl 3 1 (by omega) none 0 0 [] w8 ⟨rfl, by simp, Sl.nil _ _ _ _⟩ (HT3.out.keep HB38.out) (by omega))
  go_wp2_with fail
  refine HVB.out.mono ?_
  rintro e w9 ⟨rfl, hb9⟩
  rw [verB_bad]
  have HB39 := hideIt (HB38.out.trans (hb9.mono HB38.out.size))
  clear hb9
  go_wp2
  go_ret
  exact ⟨rfl, HB3.out.trans (HB39.out.mono HB3.out.size)⟩

end Go.Proofs.YtkjnimcapjjfdaaDoor
