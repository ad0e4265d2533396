/-
  Print, walked.
-/
import Derived.Test.YtcogkdnlpjfgdaaGreatDoorLpB
namespace Go.Proofs.YtcogkdnlpjfgdaaGreatDoor
open Go.RowKit
set_option linter.unusedVariables false
set_option linter.unusedSimpArgs false

section
variable {P : Program} {md : Region.Mode} {ops : Array Oper} {Q : Exit → Act → World → Prop} {L : List (Nat × (World → Prop))}
/-- Whatever way is gone: what stands behind the region is gone through once. -/
theorem fork_by {ι : Type} (A : Act → ι → Act) (R : ι → World → Prop) {fuel : Nat} {listed : Array Bool} {a : Act} {w : World}
    (hP : ∀ c (a : Act) d v w, Q (.panic c) (a.put d v) w → Q (.panic c) a w)
    (h1 : ∀ Q' : Exit → Act → World → Prop, (∀ c (a : Act) d v w, Q' (.panic c) (a.put d v) w → Q' (.panic c) a w) → (∀ i W, R i W → Q' .normal (A a i) W) → wpAnyL P md ops Q' L fuel listed a w)
    (h2 : ∀ i W, R i W → Q .normal (A a i) W) : wpAnyL P md ops Q L fuel listed a w := h1 Q hP h2
end
theorem sl_new1 (W : World) (v : Int) : Sl (W.alloc (.cells #[.int .i64 v] 3)) (W.alloc (.cells #[.int .i64 v] 3)).heap.size (some ⟨W.heap.size, 0, none⟩) 1 1 [iv v] :=
  (sl_one W 3 (iv v)).wide (by simp)
theorem num1_any (v : Int) (h0 : 0 ≤ v) (h1 : v ≤ 100000) (A : Option Addr) (c : Nat) (w : World) (hs : Sl w w.heap.size A 1 1 [iv v]) (ht : TabW w) :
    Calls Tryz.prog 29 #[.slice A 1 c] w fun e w' => e = .returned (sv (sp v.toNat)) ∧ Below w.heap.size w w' := by
  have h := numerals_any [v] (fun x hx => by rw [List.mem_singleton] at hx; omega) (by simp) A c w.heap.size w hs (Nat.le_refl _) ht
  refine h.mono ?_
  rintro e w' ⟨rfl, hb⟩
  exact ⟨by show Ending.returned (sv (sp v.toNat ++ [])) = _; rw [List.append_nil], hb⟩
/-- P7.3, with the machine's sum. -/
def printX (x : Cd) : Bs × Int := if checkX x ≠ 0 then ([], checkX x) else if 2000 < (printS x).length then ([], 2) else (printS x, 0)
def stS (t : Bs) : Bs := [9] ++ t ++ [59, 10]
def headS (x : Cd) : Bs := kCode ++ [32] ++ x.name ++ [32, 123, 10] ++ stS (kField ++ sp x.field.toNat) ++ stS (kData ++ sp x.data.toNat)
theorem printS_is (x : Cd) : headS x ++ x.par.flatMap (fun l => stS (rowN l)) ++ (stS (kDomain ++ sp x.dom.toNat) ++ [125, 10]) = printS x := by
  have h : (fun l => stS (rowN l)) = fun l => [9] ++ rowS l ++ [10] := by
    funext l
    rw [rowS_is]
    unfold stS
    simp
  rw [h]
  unfold printS headS stS
  simp only [List.append_assoc, List.cons_append, List.nil_append]
theorem rowN_len (l : List Int) (hr : ∀ x ∈ l, 0 ≤ x ∧ x ≤ 65535) (hl : l.length ≤ 31) : (rowN l).length ≤ 600 := by
  have h1 := fsp_len (idxs 0 l) (fun x hx => by have := idxs_le l 0 x hx; omega)
  have h2 := fsp_len (vals l) (fun x hx => by have := vals_le l 65535 hr x hx; omega)
  have h3 := fsp_len (l.map Int.toNat) (fun x hx => by
    obtain ⟨y, hy, rfl⟩ := List.mem_map.1 hx
    have := hr y hy
    omega)
  have h4 := idxs_len l 0
  rw [List.length_map] at h3
  unfold rowN
  split
  · rw [List.length_append, List.length_append, List.length_append]
    show 5 + _ + 1 + _ ≤ 600
    omega
  · rw [List.length_append]
    show 6 + _ ≤ 600
    omega
theorem fst_len : ∀ (ps : List (List Int)), (∀ l ∈ ps, (rowN l).length ≤ 600) → (ps.flatMap fun l => stS (rowN l)).length ≤ 603 * ps.length
  | [], _ => by simp
  | l :: r, h => by
    rw [List.flatMap_cons, List.length_append, List.length_cons]
    have h1 := h l (by simp)
    have h2 := fst_len r (fun y hy => h y (by simp [hy]))
    have h3 : (stS (rowN l)).length = (rowN l).length + 3 := by unfold stS; simp
    omega

set_option maxHeartbeats 20000000 in
set_option maxRecDepth 100000 in
theorem print_any (x : Cd) (A : Option Addr) (c : Nat) (w : World) (hx : CIn w x A) (ht : TabW w) :
    Calls Tryz.prog 11 #[cdV x.name x.field x.data (.slice A x.par.length c) x.dom] w fun e w' => e = .returned (.tuple #[sv (printX x).1, .int .i64 (printX x).2]) ∧ Below w.heap.size w w' := by
  obtain ⟨W0, hW0⟩ : ∃ W0, W0 = w.alloc (.cells #[sv x.name, .int .i64 x.field, .int .i64 x.data, .slice A x.par.length c, .int .i64 x.dom] 24) := ⟨_, rfl⟩
  have hb : Blk W0 w.heap.size 24 [sv x.name, .int .i64 x.field, .int .i64 x.data, .slice A x.par.length c, .int .i64 x.dom] := by rw [hW0]; exact Blk.new w 24 [sv x.name, .int .i64 x.field, .int .i64 x.data, .slice A x.par.length c, .int .i64 x.dom]
  have hbl : Below w.heap.size w W0 := by rw [hW0]; exact below_new w _
  have c0 := hb.cell 0
  have c1 := hb.cell 1
  have c2 := hb.cell 2
  have c3 := hb.cell 3
  have c4 := hb.cell 4
  rw [hW0] at c0 c1 c2 c3 c4
  have HB := hideIt hb
  have HBL := hideIt hbl
  have HCK := hideIt (check_any x A c W0 (hx.keep hbl))
  have HX := hideIt hx
  have HT := hideIt ht
  have HW0 := hideIt hW0
  have hne := i_neq 25 .i64 (checkX x) 0
  clear hb hbl hx ht hW0
  by_cases hq : checkX x ≠ 0
  · rw [decide_eq_true hq] at hne
    rw [show printX x = ([], checkX x) from if_pos hq]
    generalize checkX x = z at *
    clear hq
    go_enter Tryz.func11, Tryz.ntmps11
    go_wp2_with (go_at_call 14; rw [← HW0.out]; refine HCK.out.mono ?_; rintro e w1 ⟨rfl, hb⟩; have HX1 := hideIt (HBL.out.trans (hb.mono HBL.out.size)); clear hb)
    refine bodyPost_ret (results_tmp2 rfl _ _ _) rfl ?_
    exact ⟨rfl, HX1.out⟩
  · rw [decide_eq_false hq] at hne
    rw [show printX x = _ from if_neg hq]
    have hz : checkX x = 0 := Decidable.byContradiction hq
    have hgd := (checkC_good x).1 ((checkX_zero x (by have := HX.out.len; unfold maxLen; omega)).1 hz)
    have HG := hideIt hgd
    rw [hz] at hne HCK
    clear hz hq
    obtain ⟨R, hR⟩ : ∃ R : Bs × Int, R = if 2000 < (printS x).length then ([], 2) else (printS x, 0) := ⟨_, rfl⟩
    rw [← hR]
    have HR := hideIt hR
    clear hR
    have hfr : 0 ≤ x.field ∧ x.field ≤ 16 := by have := hgd.field; omega
    have hdr : 1 ≤ x.data ∧ x.data ≤ 31 := ⟨hgd.d1, hgd.d2⟩
    have hnl := hgd.len
    have HNF := hideIt (fun A W hs (hW : Below w.heap.size w W) => num1_any x.field hfr.1 (by omega) A 1 W hs (HT.out.keep hW))
    have HND := hideIt (fun A W hs (hW : Below w.heap.size w W) => num1_any x.data (by omega) (by omega) A 1 W hs (HT.out.keep hW))
    have lf := sp_len x.field.toNat (by omega)
    have ld := sp_len x.data.toNat (by omega)
    obtain ⟨s20, e20⟩ : ∃ s, s = sp x.field.toNat := ⟨_, rfl⟩
    obtain ⟨s27, e27⟩ : ∃ s, s = sp x.data.toNat := ⟨_, rfl⟩
    rw [← e20] at HNF lf
    rw [← e27] at HND ld
    obtain ⟨s15, e15⟩ : ∃ s, s = kCode ++ [32] ++ x.name := ⟨_, rfl⟩
    have l15 : s15.length ≤ 20 := by rw [e15, List.length_append, List.length_append]; show 4 + 1 + _ ≤ 20; omega
    have a15 : binOp .add 9 (.string ⟨#[99, 111, 100, 101, 32]⟩) (sv x.name) = pure (sv s15) := by
      rw [e15]; exact s_add 9 [99, 111, 100, 101, 32] x.name (by show 5 + _ ≤ _; omega)
    obtain ⟨s16, e16⟩ : ∃ s, s = s15 ++ [32, 123, 10] := ⟨_, rfl⟩
    have l16 : s16.length ≤ 23 := by rw [e16, List.length_append]; show _ + 3 ≤ 23; omega
    have a16 : binOp .add 9 (sv s15) (.string ⟨#[32, 123, 10]⟩) = pure (sv s16) := by
      rw [e16]; exact s_add 9 s15 [32, 123, 10] (by show _ + 3 ≤ _; omega)
    obtain ⟨s21, e21⟩ : ∃ s, s = kField ++ s20 := ⟨_, rfl⟩
    have l21 : s21.length ≤ 13 := by rw [e21, List.length_append]; show 5 + _ ≤ 13; omega
    have a21 : binOp .add 9 (.string ⟨#[102, 105, 101, 108, 100]⟩) (sv s20) = pure (sv s21) := by
      rw [e21]; exact s_add 9 kField s20 (by show 5 + _ ≤ _; omega)
    have HSF := hideIt (fun W => statement_any s21 (by omega) W)
    obtain ⟨s22, e22⟩ : ∃ s, s = [9] ++ s21 ++ [59, 10] := ⟨_, rfl⟩
    rw [← e22] at HSF
    have l22 : s22.length ≤ 16 := by rw [e22, List.length_append, List.length_append]; show 1 + _ + 2 ≤ 16; omega
    obtain ⟨s23, e23⟩ : ∃ s, s = s16 ++ s22 := ⟨_, rfl⟩
    have l23 : s23.length ≤ 39 := by rw [e23, List.length_append]; omega
    have a23 : binOp .add 9 (sv s16) (sv s22) = pure (sv s23) := by
      rw [e23]; exact s_add 9 s16 s22 (by omega)
    obtain ⟨s28, e28⟩ : ∃ s, s = kData ++ s27 := ⟨_, rfl⟩
    have l28 : s28.length ≤ 12 := by rw [e28, List.length_append]; show 4 + _ ≤ 12; omega
    have a28 : binOp .add 9 (.string ⟨#[100, 97, 116, 97]⟩) (sv s27) = pure (sv s28) := by
      rw [e28]; exact s_add 9 kData s27 (by show 4 + _ ≤ _; omega)
    have HSD := hideIt (fun W => statement_any s28 (by omega) W)
    obtain ⟨s29, e29⟩ : ∃ s, s = [9] ++ s28 ++ [59, 10] := ⟨_, rfl⟩
    rw [← e29] at HSD
    have l29 : s29.length ≤ 15 := by rw [e29, List.length_append, List.length_append]; show 1 + _ + 2 ≤ 15; omega
    obtain ⟨s30, e30⟩ : ∃ s, s = s23 ++ s29 := ⟨_, rfl⟩
    have l30 : s30.length ≤ 54 := by rw [e30, List.length_append]; omega
    have a30 : binOp .add 9 (sv s23) (sv s29) = pure (sv s30) := by
      rw [e30]; exact s_add 9 s23 s29 (by omega)
    have HE30 : Hid (s30 = headS x) := by
      show s30 = headS x
      rw [e30, e29, e28, e27, e23, e22, e21, e20, e16, e15]
      unfold headS stS
      rfl
    have HL30 := hideIt l30
    clear e15 e16 e20 e21 e22 e23 e27 e28 e29 e30 l15 l16 l21 l22 l23 l28 l29 l30 lf ld hfr hdr hnl hgd
    go_enter Tryz.func11, Tryz.ntmps11
    go_wp2_with (go_at_call 14; rw [← HW0.out]; refine HCK.out.mono ?_; rintro e w1 ⟨rfl, hb⟩; have HX1 := hideIt (HBL.out.trans (hb.mono HBL.out.size)); have HD1 := hideIt (HB.out.kept hb HB.out.lt); clear hb)
    have HXV : Hid (Below w.heap.size w w1.drew) := HX1.out.drew
    have HDV : Hid (Blk w1.drew w.heap.size 24 [sv x.name, .int .i64 x.field, .int .i64 x.data, .slice A x.par.length c, .int .i64 x.dom]) := HD1.out
    refine loads_begin_n 19 [(18, (fun W => Blk W w.heap.size 24 [sv x.name, .int .i64 x.field, .int .i64 x.data, .slice A x.par.length c, .int .i64 x.dom]))] rfl (by kernel_rfl) ?_
    clear c0 c1 c2 c3 c4 hne HX1 HD1 HCK HB HBL HW0
    generalize w1.drew = V at *
    refine wpAnyL_move (oi := ⟨some 13, _, _, _, _, _⟩) 0 ?_ rfl (by kernel_rfl) (by kernel_rfl) (by kernel_rfl) (by kernel_rfl) (fun _ _ _ h => h) (by kernel_rfl) ?_ (Hooks.add HDV.out (Hooks.nil _ _)) ?_
    rotate_left
    · intro W'; go_simp; first | done | with_reducible rfl
    try simp only [Act.put]
    try simp only [List.setIfInBounds_toArray]
    try simp only [List.set_cons_succ]
    try simp only [List.set_cons_zero]
    refine wpAnyL_take (oi := ⟨some 14, _, _, _, _, _⟩) 1 18 (sv x.name) _ rfl (by kernel_rfl) (by kernel_rfl) (by kernel_rfl) (by kernel_rfl) (by kernel_rfl) (by kernel_rfl) (.head _) (fun _ _ _ h => h) (by kernel_rfl) (fun W' hW' => by have hW' : Blk W' w.heap.size 24 [sv x.name, .int .i64 x.field, .int .i64 x.data, .slice A x.par.length c, .int .i64 x.dom] := hW'; have q := hW'.cell 0; go_simp) (Hooks.add HDV.out (Hooks.nil _ _)) ?_
    try simp only [Act.put]
    try simp only [List.setIfInBounds_toArray]
    try simp only [List.set_cons_succ]
    try simp only [List.set_cons_zero]
    refine wpAnyL_move (oi := ⟨some 15, _, _, _, _, _⟩) 2 ?_ rfl (by kernel_rfl) (by kernel_rfl) (by kernel_rfl) (by kernel_rfl) (fun _ _ _ h => h) (by kernel_rfl) ?_ (Hooks.add HDV.out (Hooks.nil _ _)) ?_
    rotate_left
    · intro W'; go_simp; first | done | with_reducible rfl
    try simp only [Act.put]
    try simp only [List.setIfInBounds_toArray]
    try simp only [List.set_cons_succ]
    try simp only [List.set_cons_zero]
    refine wpAnyL_move (oi := ⟨some 16, _, _, _, _, _⟩) 3 ?_ rfl (by kernel_rfl) (by kernel_rfl) (by kernel_rfl) (by kernel_rfl) (fun _ _ _ h => h) (by kernel_rfl) ?_ (Hooks.add HDV.out (Hooks.nil _ _)) ?_
    rotate_left
    · intro W'; go_simp; first | done | with_reducible rfl
    try simp only [Act.put]
    try simp only [List.setIfInBounds_toArray]
    try simp only [List.set_cons_succ]
    try simp only [List.set_cons_zero]
    refine wpAnyL_move (oi := ⟨some 17, _, _, _, _, _⟩) 4 ?_ rfl (by kernel_rfl) (by kernel_rfl) (by kernel_rfl) (by kernel_rfl) (fun _ _ _ h => h) (by kernel_rfl) ?_ (Hooks.add HDV.out (Hooks.nil _ _)) ?_
    rotate_left
    · intro W'; go_simp; first | done | with_reducible rfl
    try simp only [Act.put]
    try simp only [List.setIfInBounds_toArray]
    try simp only [List.set_cons_succ]
    try simp only [List.set_cons_zero]
    refine wpAnyL_take (oi := ⟨some 18, _, _, _, _, _⟩) 5 18 (.int .i64 x.field) _ rfl (by kernel_rfl) (by kernel_rfl) (by kernel_rfl) (by kernel_rfl) (by kernel_rfl) (by kernel_rfl) (.head _) (fun _ _ _ h => h) (by kernel_rfl) (fun W' hW' => by have hW' : Blk W' w.heap.size 24 [sv x.name, .int .i64 x.field, .int .i64 x.data, .slice A x.par.length c, .int .i64 x.dom] := hW'; have q := hW'.cell 1; go_simp) (Hooks.add HDV.out (Hooks.nil _ _)) ?_
    try simp only [Act.put]
    try simp only [List.setIfInBounds_toArray]
    try simp only [List.set_cons_succ]
    try simp only [List.set_cons_zero]
    refine wpAnyL_move (oi := ⟨some 24, _, _, _, _, _⟩) 11 ?_ rfl (by kernel_rfl) (by kernel_rfl) (by kernel_rfl) (by kernel_rfl) (fun _ _ _ h => h) (by kernel_rfl) ?_ (Hooks.add HDV.out (Hooks.nil _ _)) ?_
    rotate_left
    · intro W'; go_simp; first | done | with_reducible rfl
    try simp only [Act.put]
    try simp only [List.setIfInBounds_toArray]
    try simp only [List.set_cons_succ]
    try simp only [List.set_cons_zero]
    refine wpAnyL_take (oi := ⟨some 25, _, _, _, _, _⟩) 12 18 (.int .i64 x.data) _ rfl (by kernel_rfl) (by kernel_rfl) (by kernel_rfl) (by kernel_rfl) (by kernel_rfl) (by kernel_rfl) (.head _) (fun _ _ _ h => h) (by kernel_rfl) (fun W' hW' => by have hW' : Blk W' w.heap.size 24 [sv x.name, .int .i64 x.field, .int .i64 x.data, .slice A x.par.length c, .int .i64 x.dom] := hW'; have q := hW'.cell 2; go_simp) (Hooks.add HDV.out (Hooks.nil _ _)) ?_
    try simp only [Act.put]
    try simp only [List.setIfInBounds_toArray]
    try simp only [List.set_cons_succ]
    try simp only [List.set_cons_zero]
    refine fork_by (ι := Nat × Nat) (fun a g => (((((((((((a.put (some 19) (.slice (some ⟨g.1, 0, none⟩) 1 1)).put (some 20) (sv s20)).put (some 21) (sv s21)).put (some 22) (sv s22)).put (some 23) (sv s23)).put (some 26) (.slice (some ⟨g.2, 0, none⟩) 1 1)).put (some 27) (sv s27)).put (some 28) (sv s28)).put (some 29) (sv s29)).put (some 30) (sv s30)).put (some 5) (sv s30))) (fun g W => Below w.heap.size w W ∧ Blk W w.heap.size 24 [sv x.name, .int .i64 x.field, .int .i64 x.data, .slice A x.par.length c, .int .i64 x.dom]) (fun c a d v w h => by cases d <;> exact h) (fun Q' hP' hQ' => ?_) (fun g W hW => ?_)
    · have HQQ := hideIt hQ'
      have HQP := hideIt hP'
      clear hQ' hP'
      refine wpAnyL_two 6 13 (by kernel_rfl) rfl rfl (fun K hK => ?_) (fun K hK => ?_)
      · go_wp2_with fail
        have HX1 := hideIt (HXV.out.alloc HXV.out.size (.cells #[.int .i64 x.field] 3))
        have HD2 := hideIt (HDV.out.alloc (.cells #[.int .i64 x.field] 3))
        have HS3 := hideIt (sl_new1 V x.field)
        refine hK _ _ (Hooks.add HD2.out (Hooks.nil _ _)) ?_
        clear hK K
        generalize V.alloc (.cells #[.int .i64 x.field] 3) = V4 at *
        refine wpAnyL_two 7 13 (by kernel_rfl) rfl rfl (fun K hK => ?_) (fun K hK => ?_)
        · go_wp2_with (go_at_call 29; refine (HNF.out _ _ HS3.out HX1.out).mono ?_; rintro e wa5 ⟨rfl, hb⟩; have HX6 := hideIt (HX1.out.trans (hb.mono HX1.out.size)); have HD7 := hideIt (HD2.out.kept hb HD2.out.lt); clear hb)
          refine hK _ _ (Hooks.add HD7.out (Hooks.nil _ _)) ?_
          clear hK K
          refine wpAnyL_move (oi := ⟨some 21, _, _, _, _, _⟩) 8 ?_ rfl (by kernel_rfl) (by kernel_rfl) (by kernel_rfl) (by kernel_rfl) (fun _ _ _ h => HQP.out _ _ _ _ _ h) (by kernel_rfl) ?_ (Hooks.add HD7.out (Hooks.nil _ _)) ?_
          rotate_left
          · intro W'; go_simp; first | done | with_reducible rfl
          try simp only [Act.put]
          try simp only [List.setIfInBounds_toArray]
          try simp only [List.set_cons_succ]
          try simp only [List.set_cons_zero]
          refine wpAnyL_two 9 13 (by kernel_rfl) rfl rfl (fun K hK => ?_) (fun K hK => ?_)
          · go_wp2_with (go_at_call 28; refine (HSF.out _).mono ?_; rintro e w' ⟨rfl, rfl⟩)
            refine hK _ _ (Hooks.add HD7.out (Hooks.nil _ _)) ?_
            clear hK K
            refine wpAnyL_move (oi := ⟨some 23, _, _, _, _, _⟩) 10 ?_ rfl (by kernel_rfl) (by kernel_rfl) (by kernel_rfl) (by kernel_rfl) (fun _ _ _ h => HQP.out _ _ _ _ _ h) (by kernel_rfl) ?_ (Hooks.add HD7.out (Hooks.nil _ _)) ?_
            rotate_left
            · intro W'; go_simp; first | done | with_reducible rfl
            try simp only [Act.put]
            try simp only [List.setIfInBounds_toArray]
            try simp only [List.set_cons_succ]
            try simp only [List.set_cons_zero]
            refine wpAnyL_one 13 (by kernel_rfl) rfl (fun K hK => ?_)
            go_wp2_with fail
            have HX8 := hideIt (HX6.out.alloc HX6.out.size (.cells #[.int .i64 x.data] 3))
            have HD9 := hideIt (HD7.out.alloc (.cells #[.int .i64 x.data] 3))
            have HS10 := hideIt (sl_new1 wa5 x.data)
            refine hK _ _ (Hooks.add HD9.out (Hooks.nil _ _)) ?_
            clear hK K
            generalize wa5.alloc (.cells #[.int .i64 x.data] 3) = V11 at *
            refine wpAnyL_one 14 (by kernel_rfl) rfl (fun K hK => ?_)
            go_wp2_with (go_at_call 29; refine (HND.out _ _ HS10.out HX8.out).mono ?_; rintro e wa12 ⟨rfl, hb⟩; have HX13 := hideIt (HX8.out.trans (hb.mono HX8.out.size)); have HD14 := hideIt (HD9.out.kept hb HD9.out.lt); clear hb)
            refine hK _ _ (Hooks.add HD14.out (Hooks.nil _ _)) ?_
            clear hK K
            refine wpAnyL_move (oi := ⟨some 28, _, _, _, _, _⟩) 15 ?_ rfl (by kernel_rfl) (by kernel_rfl) (by kernel_rfl) (by kernel_rfl) (fun _ _ _ h => HQP.out _ _ _ _ _ h) (by kernel_rfl) ?_ (Hooks.add HD14.out (Hooks.nil _ _)) ?_
            rotate_left
            · intro W'; go_simp; first | done | with_reducible rfl
            try simp only [Act.put]
            try simp only [List.setIfInBounds_toArray]
            try simp only [List.set_cons_succ]
            try simp only [List.set_cons_zero]
            refine wpAnyL_one 16 (by kernel_rfl) rfl (fun K hK => ?_)
            go_wp2_with (go_at_call 28; refine (HSD.out _).mono ?_; rintro e w' ⟨rfl, rfl⟩)
            refine hK _ _ (Hooks.add HD14.out (Hooks.nil _ _)) ?_
            clear hK K
            refine wpAnyL_move (oi := ⟨some 30, _, _, _, _, _⟩) 17 ?_ rfl (by kernel_rfl) (by kernel_rfl) (by kernel_rfl) (by kernel_rfl) (fun _ _ _ h => HQP.out _ _ _ _ _ h) (by kernel_rfl) ?_ (Hooks.add HD14.out (Hooks.nil _ _)) ?_
            rotate_left
            · intro W'; go_simp; first | done | with_reducible rfl
            try simp only [Act.put]
            try simp only [List.setIfInBounds_toArray]
            try simp only [List.set_cons_succ]
            try simp only [List.set_cons_zero]
            refine loads_tail 18 (by kernel_rfl) (by kernel_rfl) (by kernel_rfl) (by kernel_rfl) ?_
            simp only [List.drop_succ_cons, List.drop_zero]
            go_wp2_with fail
            have hh := HQQ.out (V.heap.size, wa5.heap.size) _ ⟨HX13.out, HD14.out⟩
            dsimp only at hh
            simp only [Act.put] at hh
            simp only [List.setIfInBounds_toArray] at hh
            simp only [List.set_cons_succ, List.set_cons_zero] at hh
            with_reducible exact hh
          · go_wp2_with fail
            have HX15 := hideIt (HX6.out.alloc HX6.out.size (.cells #[.int .i64 x.data] 3))
            have HD16 := hideIt (HD7.out.alloc (.cells #[.int .i64 x.data] 3))
            have HS17 := hideIt (sl_new1 wa5 x.data)
            refine hK _ _ (Hooks.add HD16.out (Hooks.nil _ _)) ?_
            clear hK K
            generalize wa5.alloc (.cells #[.int .i64 x.data] 3) = V18 at *
            refine wpAnyL_one 9 (by kernel_rfl) rfl (fun K hK => ?_)
            go_wp2_with (go_at_call 28; refine (HSF.out _).mono ?_; rintro e w' ⟨rfl, rfl⟩)
            refine hK _ _ (Hooks.add HD16.out (Hooks.nil _ _)) ?_
            clear hK K
            refine wpAnyL_move (oi := ⟨some 23, _, _, _, _, _⟩) 10 ?_ rfl (by kernel_rfl) (by kernel_rfl) (by kernel_rfl) (by kernel_rfl) (fun _ _ _ h => HQP.out _ _ _ _ _ h) (by kernel_rfl) ?_ (Hooks.add HD16.out (Hooks.nil _ _)) ?_
            rotate_left
            · intro W'; go_simp; first | done | with_reducible rfl
            try simp only [Act.put]
            try simp only [List.setIfInBounds_toArray]
            try simp only [List.set_cons_succ]
            try simp only [List.set_cons_zero]
            refine wpAnyL_one 14 (by kernel_rfl) rfl (fun K hK => ?_)
            go_wp2_with (go_at_call 29; refine (HND.out _ _ HS17.out HX15.out).mono ?_; rintro e wa19 ⟨rfl, hb⟩; have HX20 := hideIt (HX15.out.trans (hb.mono HX15.out.size)); have HD21 := hideIt (HD16.out.kept hb HD16.out.lt); clear hb)
            refine hK _ _ (Hooks.add HD21.out (Hooks.nil _ _)) ?_
            clear hK K
            refine wpAnyL_move (oi := ⟨some 28, _, _, _, _, _⟩) 15 ?_ rfl (by kernel_rfl) (by kernel_rfl) (by kernel_rfl) (by kernel_rfl) (fun _ _ _ h => HQP.out _ _ _ _ _ h) (by kernel_rfl) ?_ (Hooks.add HD21.out (Hooks.nil _ _)) ?_
            rotate_left
            · intro W'; go_simp; first | done | with_reducible rfl
            try simp only [Act.put]
            try simp only [List.setIfInBounds_toArray]
            try simp only [List.set_cons_succ]
            try simp only [List.set_cons_zero]
            refine wpAnyL_one 16 (by kernel_rfl) rfl (fun K hK => ?_)
            go_wp2_with (go_at_call 28; refine (HSD.out _).mono ?_; rintro e w' ⟨rfl, rfl⟩)
            refine hK _ _ (Hooks.add HD21.out (Hooks.nil _ _)) ?_
            clear hK K
            refine wpAnyL_move (oi := ⟨some 30, _, _, _, _, _⟩) 17 ?_ rfl (by kernel_rfl) (by kernel_rfl) (by kernel_rfl) (by kernel_rfl) (fun _ _ _ h => HQP.out _ _ _ _ _ h) (by kernel_rfl) ?_ (Hooks.add HD21.out (Hooks.nil _ _)) ?_
            rotate_left
            · intro W'; go_simp; first | done | with_reducible rfl
            try simp only [Act.put]
            try simp only [List.setIfInBounds_toArray]
            try simp only [List.set_cons_succ]
            try simp only [List.set_cons_zero]
            refine loads_tail 18 (by kernel_rfl) (by kernel_rfl) (by kernel_rfl) (by kernel_rfl) ?_
            simp only [List.drop_succ_cons, List.drop_zero]
            go_wp2_with fail
            have hh := HQQ.out (V.heap.size, wa5.heap.size) _ ⟨HX20.out, HD21.out⟩
            dsimp only at hh
            simp only [Act.put] at hh
            simp only [List.setIfInBounds_toArray] at hh
            simp only [List.set_cons_succ, List.set_cons_zero] at hh
            with_reducible exact hh
        · go_wp2_with fail
          have HX22 := hideIt (HX1.out.alloc HX1.out.size (.cells #[.int .i64 x.data] 3))
          have HD23 := hideIt (HD2.out.alloc (.cells #[.int .i64 x.data] 3))
          have HS24 := hideIt (sl_new1 V4 x.data)
          have HS25 := hideIt ((HS3.out.below (below_new V4 (.cells #[.int .i64 x.data] 3))).wide (below_new V4 (.cells #[.int .i64 x.data] 3)).size)
          refine hK _ _ (Hooks.add HD23.out (Hooks.nil _ _)) ?_
          clear hK K
          generalize V4.alloc (.cells #[.int .i64 x.data] 3) = V26 at *
          refine wpAnyL_one 7 (by kernel_rfl) rfl (fun K hK => ?_)
          go_wp2_with (go_at_call 29; refine (HNF.out _ _ HS25.out HX22.out).mono ?_; rintro e wa27 ⟨rfl, hb⟩; have HX28 := hideIt (HX22.out.trans (hb.mono HX22.out.size)); have HD29 := hideIt (HD23.out.kept hb HD23.out.lt); have HS30 := hideIt ((HS24.out.below hb).wide hb.size); clear hb)
          refine hK _ _ (Hooks.add HD29.out (Hooks.nil _ _)) ?_
          clear hK K
          refine wpAnyL_move (oi := ⟨some 21, _, _, _, _, _⟩) 8 ?_ rfl (by kernel_rfl) (by kernel_rfl) (by kernel_rfl) (by kernel_rfl) (fun _ _ _ h => HQP.out _ _ _ _ _ h) (by kernel_rfl) ?_ (Hooks.add HD29.out (Hooks.nil _ _)) ?_
          rotate_left
          · intro W'; go_simp; first | done | with_reducible rfl
          try simp only [Act.put]
          try simp only [List.setIfInBounds_toArray]
          try simp only [List.set_cons_succ]
          try simp only [List.set_cons_zero]
          refine wpAnyL_one 9 (by kernel_rfl) rfl (fun K hK => ?_)
          go_wp2_with (go_at_call 28; refine (HSF.out _).mono ?_; rintro e w' ⟨rfl, rfl⟩)
          refine hK _ _ (Hooks.add HD29.out (Hooks.nil _ _)) ?_
          clear hK K
          refine wpAnyL_move (oi := ⟨some 23, _, _, _, _, _⟩) 10 ?_ rfl (by kernel_rfl) (by kernel_rfl) (by kernel_rfl) (by kernel_rfl) (fun _ _ _ h => HQP.out _ _ _ _ _ h) (by kernel_rfl) ?_ (Hooks.add HD29.out (Hooks.nil _ _)) ?_
          rotate_left
          · intro W'; go_simp; first | done | with_reducible rfl
          try simp only [Act.put]
          try simp only [List.setIfInBounds_toArray]
          try simp only [List.set_cons_succ]
          try simp only [List.set_cons_zero]
          refine wpAnyL_one 14 (by kernel_rfl) rfl (fun K hK => ?_)
          go_wp2_with (go_at_call 29; refine (HND.out _ _ HS30.out HX28.out).mono ?_; rintro e wa31 ⟨rfl, hb⟩; have HX32 := hideIt (HX28.out.trans (hb.mono HX28.out.size)); have HD33 := hideIt (HD29.out.kept hb HD29.out.lt); clear hb)
          refine hK _ _ (Hooks.add HD33.out (Hooks.nil _ _)) ?_
          clear hK K
          refine wpAnyL_move (oi := ⟨some 28, _, _, _, _, _⟩) 15 ?_ rfl (by kernel_rfl) (by kernel_rfl) (by kernel_rfl) (by kernel_rfl) (fun _ _ _ h => HQP.out _ _ _ _ _ h) (by kernel_rfl) ?_ (Hooks.add HD33.out (Hooks.nil _ _)) ?_
          rotate_left
          · intro W'; go_simp; first | done | with_reducible rfl
          try simp only [Act.put]
          try simp only [List.setIfInBounds_toArray]
          try simp only [List.set_cons_succ]
          try simp only [List.set_cons_zero]
          refine wpAnyL_one 16 (by kernel_rfl) rfl (fun K hK => ?_)
          go_wp2_with (go_at_call 28; refine (HSD.out _).mono ?_; rintro e w' ⟨rfl, rfl⟩)
          refine hK _ _ (Hooks.add HD33.out (Hooks.nil _ _)) ?_
          clear hK K
          refine wpAnyL_move (oi := ⟨some 30, _, _, _, _, _⟩) 17 ?_ rfl (by kernel_rfl) (by kernel_rfl) (by kernel_rfl) (by kernel_rfl) (fun _ _ _ h => HQP.out _ _ _ _ _ h) (by kernel_rfl) ?_ (Hooks.add HD33.out (Hooks.nil _ _)) ?_
          rotate_left
          · intro W'; go_simp; first | done | with_reducible rfl
          try simp only [Act.put]
          try simp only [List.setIfInBounds_toArray]
          try simp only [List.set_cons_succ]
          try simp only [List.set_cons_zero]
          refine loads_tail 18 (by kernel_rfl) (by kernel_rfl) (by kernel_rfl) (by kernel_rfl) ?_
          simp only [List.drop_succ_cons, List.drop_zero]
          go_wp2_with fail
          have hh := HQQ.out (V.heap.size, V4.heap.size) _ ⟨HX32.out, HD33.out⟩
          dsimp only at hh
          simp only [Act.put] at hh
          simp only [List.setIfInBounds_toArray] at hh
          simp only [List.set_cons_succ, List.set_cons_zero] at hh
          with_reducible exact hh
      · go_wp2_with fail
        have HX34 := hideIt (HXV.out.alloc HXV.out.size (.cells #[.int .i64 x.data] 3))
        have HD35 := hideIt (HDV.out.alloc (.cells #[.int .i64 x.data] 3))
        have HS36 := hideIt (sl_new1 V x.data)
        refine hK _ _ (Hooks.add HD35.out (Hooks.nil _ _)) ?_
        clear hK K
        generalize V.alloc (.cells #[.int .i64 x.data] 3) = V37 at *
        refine wpAnyL_one 6 (by kernel_rfl) rfl (fun K hK => ?_)
        go_wp2_with fail
        have HX38 := hideIt (HX34.out.alloc HX34.out.size (.cells #[.int .i64 x.field] 3))
        have HD39 := hideIt (HD35.out.alloc (.cells #[.int .i64 x.field] 3))
        have HS40 := hideIt (sl_new1 V37 x.field)
        have HS41 := hideIt ((HS36.out.below (below_new V37 (.cells #[.int .i64 x.field] 3))).wide (below_new V37 (.cells #[.int .i64 x.field] 3)).size)
        refine hK _ _ (Hooks.add HD39.out (Hooks.nil _ _)) ?_
        clear hK K
        generalize V37.alloc (.cells #[.int .i64 x.field] 3) = V42 at *
        refine wpAnyL_one 7 (by kernel_rfl) rfl (fun K hK => ?_)
        go_wp2_with (go_at_call 29; refine (HNF.out _ _ HS40.out HX38.out).mono ?_; rintro e wa43 ⟨rfl, hb⟩; have HX44 := hideIt (HX38.out.trans (hb.mono HX38.out.size)); have HD45 := hideIt (HD39.out.kept hb HD39.out.lt); have HS46 := hideIt ((HS41.out.below hb).wide hb.size); clear hb)
        refine hK _ _ (Hooks.add HD45.out (Hooks.nil _ _)) ?_
        clear hK K
        refine wpAnyL_move (oi := ⟨some 21, _, _, _, _, _⟩) 8 ?_ rfl (by kernel_rfl) (by kernel_rfl) (by kernel_rfl) (by kernel_rfl) (fun _ _ _ h => HQP.out _ _ _ _ _ h) (by kernel_rfl) ?_ (Hooks.add HD45.out (Hooks.nil _ _)) ?_
        rotate_left
        · intro W'; go_simp; first | done | with_reducible rfl
        try simp only [Act.put]
        try simp only [List.setIfInBounds_toArray]
        try simp only [List.set_cons_succ]
        try simp only [List.set_cons_zero]
        refine wpAnyL_one 9 (by kernel_rfl) rfl (fun K hK => ?_)
        go_wp2_with (go_at_call 28; refine (HSF.out _).mono ?_; rintro e w' ⟨rfl, rfl⟩)
        refine hK _ _ (Hooks.add HD45.out (Hooks.nil _ _)) ?_
        clear hK K
        refine wpAnyL_move (oi := ⟨some 23, _, _, _, _, _⟩) 10 ?_ rfl (by kernel_rfl) (by kernel_rfl) (by kernel_rfl) (by kernel_rfl) (fun _ _ _ h => HQP.out _ _ _ _ _ h) (by kernel_rfl) ?_ (Hooks.add HD45.out (Hooks.nil _ _)) ?_
        rotate_left
        · intro W'; go_simp; first | done | with_reducible rfl
        try simp only [Act.put]
        try simp only [List.setIfInBounds_toArray]
        try simp only [List.set_cons_succ]
        try simp only [List.set_cons_zero]
        refine wpAnyL_one 14 (by kernel_rfl) rfl (fun K hK => ?_)
        go_wp2_with (go_at_call 29; refine (HND.out _ _ HS46.out HX44.out).mono ?_; rintro e wa47 ⟨rfl, hb⟩; have HX48 := hideIt (HX44.out.trans (hb.mono HX44.out.size)); have HD49 := hideIt (HD45.out.kept hb HD45.out.lt); clear hb)
        refine hK _ _ (Hooks.add HD49.out (Hooks.nil _ _)) ?_
        clear hK K
        refine wpAnyL_move (oi := ⟨some 28, _, _, _, _, _⟩) 15 ?_ rfl (by kernel_rfl) (by kernel_rfl) (by kernel_rfl) (by kernel_rfl) (fun _ _ _ h => HQP.out _ _ _ _ _ h) (by kernel_rfl) ?_ (Hooks.add HD49.out (Hooks.nil _ _)) ?_
        rotate_left
        · intro W'; go_simp; first | done | with_reducible rfl
        try simp only [Act.put]
        try simp only [List.setIfInBounds_toArray]
        try simp only [List.set_cons_succ]
        try simp only [List.set_cons_zero]
        refine wpAnyL_one 16 (by kernel_rfl) rfl (fun K hK => ?_)
        go_wp2_with (go_at_call 28; refine (HSD.out _).mono ?_; rintro e w' ⟨rfl, rfl⟩)
        refine hK _ _ (Hooks.add HD49.out (Hooks.nil _ _)) ?_
        clear hK K
        refine wpAnyL_move (oi := ⟨some 30, _, _, _, _, _⟩) 17 ?_ rfl (by kernel_rfl) (by kernel_rfl) (by kernel_rfl) (by kernel_rfl) (fun _ _ _ h => HQP.out _ _ _ _ _ h) (by kernel_rfl) ?_ (Hooks.add HD49.out (Hooks.nil _ _)) ?_
        rotate_left
        · intro W'; go_simp; first | done | with_reducible rfl
        try simp only [Act.put]
        try simp only [List.setIfInBounds_toArray]
        try simp only [List.set_cons_succ]
        try simp only [List.set_cons_zero]
        refine loads_tail 18 (by kernel_rfl) (by kernel_rfl) (by kernel_rfl) (by kernel_rfl) ?_
        simp only [List.drop_succ_cons, List.drop_zero]
        go_wp2_with fail
        have hh := HQQ.out (V37.heap.size, V.heap.size) _ ⟨HX48.out, HD49.out⟩
        dsimp only at hh
        simp only [Act.put] at hh
        simp only [List.setIfInBounds_toArray] at hh
        simp only [List.set_cons_succ, List.set_cons_zero] at hh
        with_reducible exact hh
    · obtain ⟨hX, hD⟩ := hW
      obtain ⟨n, hn⟩ : ∃ n, n = x.par.length := ⟨_, rfl⟩
      rw [← hn] at hD
      have d3 := hD.cell 3
      have HX2 := hideIt hX
      have HD2 := hideIt hD
      have HN := hideIt hn
      have HGL := hideIt (fun l (hl : l ∈ x.par) => rowOk_is (HG.out.rows l hl))
      have hn2 : n ≤ 31 := by have := HG.out.width; have := HG.out.d1; omega
      have HTF : Hid (topF x.field ≤ 65535) := by show topF x.field ≤ 65535; unfold topF; split <;> omega
      have HL0 := HL30
      have hl30 := HL0.out
      clear hX hD hn HXV HDV HNF HND HSF HSD a15 a16 a21 a23 a28 a30
      simp only [Act.put]
      simp only [List.setIfInBounds_toArray]
      simp only [List.set_cons_succ, List.set_cons_zero]
      go_wp2_with fail
      go_loopg [5, 34] n (fun gk s5 s34 wr => ∃ (j : Nat) (t : Bs), j + gk = n ∧ s34 = .int .i64 (j : Int) ∧ s5 = sv t ∧ t.length ≤ 54 + 603 * j ∧ Aside (t = headS x ++ (x.par.take j).flatMap (fun l => stS (rowN l)) ∧ Below w.heap.size w wr ∧ Blk wr w.heap.size 24 [sv x.name, .int .i64 x.field, .int .i64 x.data, .slice A n c, .int .i64 x.dom]))
      case atStart => exact ⟨0, s30, by omega, rfl, rfl, by omega, by rw [HE30.out]; simp, HX2.out, HD2.out⟩
      case round =>
        obtain ⟨j, t, hj, rfl, rfl, htl, HI⟩ := hrel
        by_cases hlt : j < n
        · have hjl : j < x.par.length := by rw [← HN.out]; exact hlt
          obtain ⟨b, o, A', c', hA, hb, hcell, hsl⟩ := HX.out.pm.row hjl
          subst hA
          have hq : wr.cell? ⟨b, o + j, none⟩ = some (.slice A' (x.par[j]).length c') := (HI.out.2.1.cell (p := ⟨b, _, none⟩) hb).trans hcell
          have HTK := hideIt (take_snoc x.par j hjl)
          have hrk := HGL.out _ (List.getElem_mem hjl)
          have hinc := inc_w 3 j (by omega)
          have hji : (j : Int) < (n : Int) := by omega
          have hlr : ∀ y ∈ x.par[j], 0 ≤ y ∧ y ≤ 65535 := fun y hy => by have := hrk.2.1 y hy; have := HTF.out; omega
          have hll : (x.par[j]).length ≤ 31 := by have := hrk.1; have := HG.out.d2; omega
          have HRT := hideIt (rowText_any (x.par[j]) hlr hll A' c' w.heap.size wr (hsl.below HI.out.2.1) HI.out.2.1.size (HT.out.keep HI.out.2.1))
          have hrl := rowN_len (x.par[j]) hlr hll
          have HST := hideIt (fun W => statement_any (rowN (x.par[j])) (by omega) W)
          have hsl2 : (stS (rowN (x.par[j]))).length = (rowN (x.par[j])).length + 3 := by unfold stS; simp
          have hadd := s_add 9 t (stS (rowN (x.par[j]))) (by omega)
          have HTN : Hid (t ++ stS (rowN (x.par[j])) = headS x ++ (x.par.take (j + 1)).flatMap (fun l => stS (rowN l))) := by
            show _ = _
            rw [HTK.out, List.flatMap_append, HI.out.1, List.append_assoc]
            simp
          have htl2 : (t ++ stS (rowN (x.par[j]))).length ≤ 54 + 603 * (j + 1) := by rw [List.length_append]; omega
          generalize x.par[j] = l at *
          rw [show [9] ++ rowN l ++ [59, 10] = stS (rowN l) from rfl] at HST
          generalize t ++ stS (rowN l) = t2 at *
          generalize stS (rowN l) = st at *
          generalize rowN l = rt at *
          clear hjl hb hcell hsl hll hlr hrk hrl hsl2
          go_wp2_with (first
            | (go_at_call 30; refine HRT.out.mono ?_; rintro e w4 ⟨rfl, hb4⟩; have HX4 := hideIt (HI.out.2.1.trans (hb4.mono HI.out.2.1.size)); have HBK4 := hideIt (HI.out.2.2.kept hb4 HI.out.2.2.lt); clear hb4)
            | (go_at_call 28; refine (HST.out _).mono ?_; rintro e w5 ⟨rfl, rfl⟩))
          go_roundg (gk - 1)
          case measure => omega
          case rel =>
            exact ⟨j + 1, t2, by omega, by go_num, rfl, htl2, HTN.out, HX4.out, HBK4.out⟩
        · have hji : ¬ (j : Int) < (n : Int) := by omega
          have e4 := HI.out.2.2.cell 4
          have hdm : 0 ≤ x.dom ∧ x.dom ≤ 32 := by have := HG.out.dom1; have := HG.out.dom2; have := HG.out.width; omega
          have HTE : Hid (t = headS x ++ x.par.flatMap (fun l => stS (rowN l))) := by
            have := HI.out.1
            rw [List.take_of_length_le (by rw [← HN.out]; omega)] at this
            exact this
          have HNM := hideIt (fun A W hs (hW : Below w.heap.size w W) => num1_any x.dom hdm.1 (by omega) A 1 W hs (HT.out.keep hW))
          have lm := sp_len x.dom.toNat (by omega)
          obtain ⟨sd, ed⟩ : ∃ s, s = sp x.dom.toNat := ⟨_, rfl⟩
          rw [← ed] at HNM lm
          obtain ⟨s49, e49⟩ : ∃ s, s = kDomain ++ sd := ⟨_, rfl⟩
          have l49 : s49.length ≤ 14 := by rw [e49, List.length_append]; show 6 + _ ≤ 14; omega
          have a49 : binOp .add 9 (.string ⟨#[100, 111, 109, 97, 105, 110]⟩) (sv sd) = pure (sv s49) := by
            rw [e49]; exact s_add 9 kDomain sd (by show 6 + _ ≤ _; omega)
          have HSM := hideIt (fun W => statement_any s49 (by omega) W)
          obtain ⟨s50, e50⟩ : ∃ s, s = [9] ++ s49 ++ [59, 10] := ⟨_, rfl⟩
          rw [← e50] at HSM
          have l50 : s50.length ≤ 17 := by rw [e50, List.length_append, List.length_append]; show 1 + _ + 2 ≤ 17; omega
          obtain ⟨s51, e51⟩ : ∃ s, s = s50 ++ [125, 10] := ⟨_, rfl⟩
          have l51 : s51.length ≤ 19 := by rw [e51, List.length_append]; show _ + 2 ≤ 19; omega
          have a51 : binOp .add 9 (sv s50) (.string ⟨#[125, 10]⟩) = pure (sv s51) := by
            rw [e51]; exact s_add 9 s50 [125, 10] (by show _ + 2 ≤ _; omega)
          obtain ⟨s52, e52⟩ : ∃ s, s = t ++ s51 := ⟨_, rfl⟩
          have a52 : binOp .add 9 (sv t) (sv s51) = pure (sv s52) := by
            rw [e52]; exact s_add 9 t s51 (by omega)
          have hE52 : s52 = printS x := by
            rw [e52, e51, e50, e49, ed, HTE.out, ← printS_is]
            rfl
          have hln := len_c s52
          have HX5 := hideIt HI.out.2.1
          rw [← hE52] at HR
          clear ed e49 e50 e51 e52 l49 l50 l51 lm hdm hE52
          by_cases hq2 : 2000 < s52.length
          · rw [if_pos hq2] at HR
            have hgt : (s52.length : Int) > 2000 := by omega
            clear hq2
            go_wp2_with (first
              | (go_at_call 29; refine (HNM.out _ _ (sl_new1 wr x.dom) (HX5.out.alloc HX5.out.size _)).mono ?_; rintro e w6 ⟨rfl, hb6⟩; have HX6 := hideIt ((HX5.out.alloc HX5.out.size (.cells #[.int .i64 x.dom] 3)).trans (hb6.mono (HX5.out.alloc HX5.out.size (.cells #[.int .i64 x.dom] 3)).size)); clear hb6)
              | (go_at_call 28; refine (HSM.out _).mono ?_; rintro e w7 ⟨rfl, rfl⟩))
            refine bodyPost_ret (results_tmp2 rfl _ _ _) rfl ?_
            rw [HR.out]
            exact ⟨rfl, HX6.out⟩
          · rw [if_neg hq2] at HR
            have hgt : ¬ (s52.length : Int) > 2000 := by omega
            clear hq2
            go_wp2_with (first
              | (go_at_call 29; refine (HNM.out _ _ (sl_new1 wr x.dom) (HX5.out.alloc HX5.out.size _)).mono ?_; rintro e w6 ⟨rfl, hb6⟩; have HX6 := hideIt ((HX5.out.alloc HX5.out.size (.cells #[.int .i64 x.dom] 3)).trans (hb6.mono (HX5.out.alloc HX5.out.size (.cells #[.int .i64 x.dom] 3)).size)); clear hb6)
              | (go_at_call 28; refine (HSM.out _).mono ?_; rintro e w7 ⟨rfl, rfl⟩))
            refine bodyPost_ret (results_tmp2 rfl _ _ _) rfl ?_
            rw [HR.out]
            exact ⟨rfl, HX6.out⟩

end Go.Proofs.YtcogkdnlpjfgdaaGreatDoor
