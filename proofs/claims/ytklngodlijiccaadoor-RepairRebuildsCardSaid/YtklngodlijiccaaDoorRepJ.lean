/-
  The library's MinFunc at plans, Clone at truth values, walked.
-/
import Derived.Test.YtklngodlijiccaaDoorRepI
namespace Go.Proofs.YtklngodlijiccaaDoor
open Go.RowKit
set_option linter.unusedVariables false
set_option linter.unusedSimpArgs false

section
variable {ops : Array Oper} {rest : List Oper} {o : Oper} {a : Act} {Q : Exit → Act → World → Prop} {w : World}
theorem wpList_ldP (hw : Region.wanted o (yielded ops a.tmps) = true) (x : Operand) (ho : o.op = .load 30 x) {b off : Nat} {u v : Value} (hx : a.eval x = .pointer (some ⟨b, off, none⟩)) (hg : w.rangeAt b off [u, v]) (h : wpList Tryd.prog ops Q rest (a.put o.dst (.agg #[u, v])) w) : wpList Tryd.prog ops Q (o :: rest) a w := by
  refine wpList_wanted hw ?_
  unfold Oper.wp execOp
  simp only [ho, hx, Sem.run_bind, run_loadAt_mid w b off 30 [u, v] _ hg Tryd.underlying30 rfl iszP, Result.andThen_ok, Sem.run_pure]
  exact h
end
theorem rangeAt_keep {w w' : World} {b off : Nat} {cs : List Value} (h : w.rangeAt b off cs) (hb : b < w.heap.size) (hk : Below w.heap.size w w') : w'.rangeAt b off cs := fun j v hj => (hk.cell (p := ⟨b, off + j, none⟩) hb).trans (h j v hj)
theorem stO_snoc {l : List TL} {k : Nat} (h : k < l.length) {L : TL} (hL : (l.take k).foldl stO none = some L) : (l.take (k + 1)).foldl stO none = if bt l[k] L = true then some l[k] else some L := by
  rw [take_snoc l k h, List.foldl_append, hL]; rfl
/-- What MinFunc keeps: the best plan so far. -/
def MinI (w : World) (B q5 : Nat) (u : Int) (ls : List TL) (i : Nat) (wr : World) : Prop :=
  ∃ A c L, Blk wr q5 30 [.int .i64 u, .slice A L.length c] ∧ Sl w w.heap.size A 2 L.length (tcs L) ∧ (0 < L.length → ∀ b o, A = some ⟨b, o, none⟩ → B ≤ b) ∧ L.length ≤ 1000 ∧ (ls.take i).foldl stO none = some L
set_option maxHeartbeats 2000000 in
set_option maxRecDepth 100000 in
theorem minf_any (u : Int) (ls : List TL) (h0 : 0 < ls.length) (hn : ls.length ≤ 1000) (hl : ∀ L ∈ ls, L.length ≤ 1000) (B : Nat) (A : Option Addr) (c : Nat) (w : World) (hJ : PJ w B (.slice A ls.length c) (ls.map fun L => (u, L))) :
    Calls Tryd.prog 35 #[.slice A ls.length c, .func (.func 36) #[] #[]] w fun e w' => ∃ A' c' L, e = .returned (.agg #[.int .i64 u, .slice A' L.length c']) ∧ ls.foldl stO none = some L ∧ Sl w' w'.heap.size A' 2 L.length (tcs L) ∧ (0 < L.length → ∀ b o, A' = some ⟨b, o, none⟩ → B ≤ b) ∧ Below w.heap.size w w' := by
  have HAT := hideIt (fun (k : Nat) (hk : k < ls.length) => show ∃ g o A' c', A = some ⟨g, o, none⟩ ∧ g < w.heap.size ∧ w.rangeAt g (o + k * 2) [.int .i64 u, .slice A' ls[k].length c'] ∧ Sl w w.heap.size A' 2 ls[k].length (tcs ls[k]) ∧ (0 < ls[k].length → ∀ b o, A' = some ⟨b, o, none⟩ → B ≤ b) by
    have := PJ.at_ (A := A) (c := c) (ps := ls.map fun L => (u, L)) (by rw [List.length_map]; exact hJ) (k := k) (by rw [List.length_map]; exact hk)
    simpa only [List.getElem_map] using this)
  have HLE := hideIt (fun (k : Nat) (hk : k < ls.length) => hl ls[k] (List.getElem_mem hk))
  obtain ⟨g, o, A0, c0, hA, hg, hr0, hs0, hb0⟩ := HAT.out 0 h0
  subst hA
  have hl0 := HLE.out 0 h0
  obtain ⟨W, hW⟩ : ∃ W, W = w.alloc (.cells #[.int .i64 0, .slice none 0 0] 30) := ⟨_, rfl⟩
  have hbw : Below w.heap.size w W := by rw [hW]; exact below_new w _
  have hs1 : W.heap.size = w.heap.size + 1 := by rw [hW]; simp
  have HB := hideIt hbw
  have HR4 := hideIt (show Blk W w.heap.size 30 [.int .i64 0, .slice none 0 0] by rw [hW]; exact Blk.new w 30 [.int .i64 0, .slice none 0 0])
  have HWE := hideIt hW
  have HS1 := hideIt hs1
  have HF0 := hideIt (show (ls.take 1).foldl stO none = some ls[0] by
    have : ls.take 1 = [ls[0]] := by rw [show (1 : Nat) = 0 + 1 from rfl, take_snoc ls 0 h0, List.take_zero]; rfl
    rw [this]; rfl)
  have HSN := hideIt (fun (k : Nat) (hk : k < ls.length) (L : TL) (hL : (ls.take k).foldl stO none = some L) => stO_snoc hk hL)
  have HFN := hideIt (show ls.take ls.length = ls from List.take_length)
  have HRG0 := hideIt (rangeAt_keep (by simpa using hr0) hg hbw)
  have HS0 := hideIt hs0
  have HB0 := hideIt hb0
  have HGL := hideIt hg
  obtain ⟨L0, hL0⟩ : ∃ L, L = ls[0] := ⟨_, rfl⟩
  rw [← hL0] at hl0 HF0 HRG0 HS0 HB0
  have h0i : ¬ (ls.length : Int) < 1 := by omega
  clear hJ hl hr0 hs0 hb0 hL0 hbw hW hs1 hg
  go_enter Tryd.func35, Tryd.ntmps35
  go_wp2_with (first
    | ((with_reducible refine at_load ?_); rw [← HWE.out]; refine wpList_ldP (by kernel_rfl) (.tmp 12) rfl rfl HRG0.out ?_)
    | ((with_reducible refine at_store ?_); refine wpList_put rfl _ (.tmp 5) (.tmp 13) rfl W.heap.size [.int .i64 u, .slice A0 L0.length c0] [.int .i64 0, .slice none 0 0] 30 rfl rfl (Blk.new W 30 [.int .i64 0, .slice none 0 0]) iszP rfl (by simp [Value.oneCell']) ?_; intro w8 ht8 hb8; have HL8 := hideIt (ht8.below (below_new W (.cells #[.int .i64 0, .slice none 0 0] 30)) (Nat.le_refl _)); have HB8 := hideIt hb8; clear ht8 hb8))
  have HLW := hideIt HL8.out
  have HMI := hideIt (show MinI w B W.heap.size u ls 1 w8 from ⟨A0, c0, L0, HB8.out, HS0.out, HB0.out, hl0, HF0.out⟩)
  clear HF0 HS0 HB0 HRG0 HB8 HL8 hl0 h0i
  go_loopg [6] (ls.length - 1) (fun gk s6 wr => ∃ i : Nat, i + gk = ls.length ∧ 1 ≤ i ∧ s6 = .int .i64 (i : Int) ∧ Aside (MinI w B W.heap.size u ls i wr) ∧ Aside (Below W.heap.size W wr))
  case atStart => exact ⟨1, by omega, Nat.le_refl _, rfl, HMI.out, HLW.out⟩
  case round =>
    obtain ⟨i, hi, hi1, rfl, HM, HL⟩ := hrel
    obtain ⟨w4, rfl⟩ : ∃ x, x = wr := ⟨wr, rfl⟩
    have HBW := hideIt (HB.out.trans (HL.out.mono HB.out.size))
    obtain ⟨A2, c2, L, hm1, hm2, hm3, hm4, hm5⟩ := HM.out
    have HM1 := hideIt hm1
    have HM2 := hideIt hm2
    have HM3 := hideIt hm3
    have HM5 := hideIt hm5
    clear hm1 hm2 hm3 hm5 HM
    by_cases hlt : i < ls.length
    · obtain ⟨g1, o1, A1, c1, hA1, hg1, hr1, hs1, hb1⟩ := HAT.out i hlt
      injection hA1 with hA1
      injection hA1 with hA1 hA2 _
      subst hA1 hA2
      have hinc := inc_c 3 i (by omega)
      have hki : (i : Int) < (ls.length : Int) := by omega
      have hl1 := HLE.out i hlt
      have HSi := hideIt (HSN.out i hlt L HM5.out)
      generalize ls[i] = q at *
      have HRG := hideIt (rangeAt_keep hr1 HGL.out HBW.out)
      have HS1q := hideIt hs1
      have HB1q := hideIt hb1
      have HCP := hideIt (fun (W2 : World) (h : Below w4.heap.size w4 W2) => cmpp_any u u q L hl1 hm4 A1 A2 c1 c2 W2 ((((hs1.below HBW.out).wide HBW.out.size).below h).wide h.size) ((((HM2.out.below HBW.out).wide HBW.out.size).below h).wide h.size))
      have GD := hideIt (Below.refl w4.heap.size w4).drew
      have HKS := hideIt (fun (W2 : World) (bb : Array Bool) (h : Below w4.heap.size w4 W2) => show Hooks [(6, fun W => W.rangeAt g (o + i * 2) [.int .i64 u, .slice A1 q.length c1]), (6, fun W2 => Blk W2 W.heap.size 30 [.int .i64 u, .slice A2 L.length c2])] bb W2 from
        Hooks.add (rangeAt_keep HRG.out (by have := HGL.out; have := HBW.out.size; omega) h) (Hooks.add (HM1.out.kept h HM1.out.lt) (Hooks.nil bb W2)))
      clear hg1 hr1 hs1 hb1
      cases hbt : bt q L with
      | true =>
        have HE := hideIt (HSi.out.trans (if_pos hbt))
        have HSG := hideIt (fun (r : Int) (h : SgB q L r) => show r < 0 from of_decide_eq_true (h.trans hbt))
        clear hbt HSi
        go_wp2_with fail
        refine loads_begin_n 8 [(6, fun W => W.rangeAt g (o + i * 2) [.int .i64 u, .slice A1 q.length c1]), (6, fun W2 => Blk W2 W.heap.size 30 [.int .i64 u, .slice A2 L.length c2])] rfl (by kernel_rfl) ?_
        try simp only [Act.put]
        try simp only [List.setIfInBounds_toArray]
        try simp only [List.set_cons_succ]
        try simp only [List.set_cons_zero]
        refine wpAnyL_move (oi := ⟨some 20, _, _, _, _, _⟩) 0 ?_ rfl (by kernel_rfl) (by kernel_rfl) (by kernel_rfl) (by kernel_rfl) (fun _ _ _ h => h) (by kernel_rfl) ?_ ((HKS.out _ _ GD.out)) ?_
        rotate_left
        · intro W'; go_simp; first | done | with_reducible rfl
        try simp only [Act.put]
        try simp only [List.setIfInBounds_toArray]
        try simp only [List.set_cons_succ]
        try simp only [List.set_cons_zero]
        refine wpAnyL_move (oi := ⟨some 21, _, _, _, _, _⟩) 1 ?_ rfl (by kernel_rfl) (by kernel_rfl) (by kernel_rfl) (by kernel_rfl) (fun _ _ _ h => h) (by kernel_rfl) ?_ ((HKS.out _ _ GD.out)) ?_
        rotate_left
        · intro W'; go_simp; first | done | with_reducible rfl
        try simp only [Act.put]
        try simp only [List.setIfInBounds_toArray]
        try simp only [List.set_cons_succ]
        try simp only [List.set_cons_zero]
        refine wpAnyL_move (oi := ⟨some 22, _, _, _, _, _⟩) 2 ?_ rfl (by kernel_rfl) (by kernel_rfl) (by kernel_rfl) (by kernel_rfl) (fun _ _ _ h => h) (by kernel_rfl) ?_ ((HKS.out _ _ GD.out)) ?_
        rotate_left
        · intro W'; go_simp; first | done | with_reducible rfl
        try simp only [Act.put]
        try simp only [List.setIfInBounds_toArray]
        try simp only [List.set_cons_succ]
        try simp only [List.set_cons_zero]
        refine wpAnyL_move (oi := ⟨some 23, _, _, _, _, _⟩) 3 ?_ rfl (by kernel_rfl) (by kernel_rfl) (by kernel_rfl) (by kernel_rfl) (fun _ _ _ h => h) (by kernel_rfl) ?_ ((HKS.out _ _ GD.out)) ?_
        rotate_left
        · intro W'; go_simp; first | done | with_reducible rfl
        try simp only [Act.put]
        try simp only [List.setIfInBounds_toArray]
        try simp only [List.set_cons_succ]
        try simp only [List.set_cons_zero]
        refine wpAnyL_take (oi := ⟨some 24, _, _, _, _, _⟩) 4 6 (.agg #[.int .i64 u, .slice A1 q.length c1]) _ rfl (by kernel_rfl) (by kernel_rfl) (by kernel_rfl) (by kernel_rfl) (by kernel_rfl) (by kernel_rfl) (.head _) (fun _ _ _ h => h) (by kernel_rfl) (fun W' hW' => exec_load_mid8 (cs := [.int .i64 u, .slice A1 q.length c1]) rfl rfl hW' _ Tryd.underlying30 rfl iszP) (HKS.out _ _ GD.out) ?_
        try simp only [Act.put]
        try simp only [List.setIfInBounds_toArray]
        try simp only [List.set_cons_succ]
        try simp only [List.set_cons_zero]
        refine wpAnyL_take (oi := ⟨some 25, _, _, _, _, _⟩) 5 6 (.agg #[.int .i64 u, .slice A2 L.length c2]) _ rfl (by kernel_rfl) (by kernel_rfl) (by kernel_rfl) (by kernel_rfl) (by kernel_rfl) (by kernel_rfl) (.tail _ (.head _)) (fun _ _ _ h => h) (by kernel_rfl) (fun W' hW' => exec_load_blk (cs := [.int .i64 u, .slice A2 L.length c2]) rfl rfl hW' _ Tryd.underlying30 rfl iszP) (HKS.out _ _ GD.out) ?_
        try simp only [Act.put]
        try simp only [List.setIfInBounds_toArray]
        try simp only [List.set_cons_succ]
        try simp only [List.set_cons_zero]
        refine wpAnyL_one (o := ⟨some 26, _, _, _, _, _⟩) 6 (by kernel_rfl) rfl (fun K hK => ?_)
        go_wp2_with (go_at_call 36; refine (HCP.out _ GD.out).mono ?_; rintro e w5 ⟨⟨r, rfl, hr⟩, hb5⟩)
        have hr2 := HSG.out r hr
        have GD5 := hideIt (GD.out.trans (hb5.mono GD.out.size))
        have HRG5 := hideIt (rangeAt_keep HRG.out (by have := HGL.out; have := HBW.out.size; omega) GD5.out)
        have HM15 := hideIt (HM1.out.kept GD5.out HM1.out.lt)
        refine hK _ _ (Hooks.skip (by kernel_rfl) (Hooks.skip (by kernel_rfl) (Hooks.nil _ _))) ?_
        clear hK K hr hb5 HCP HSG HKS GD
        try simp only [Act.put]
        try simp only [List.setIfInBounds_toArray]
        try simp only [List.set_cons_succ]
        try simp only [List.set_cons_zero]
        refine loads_tail 7 (by kernel_rfl) (by kernel_rfl) (by kernel_rfl) (by kernel_rfl) ?_
        simp only [List.drop_succ_cons, List.drop_zero]
        go_wp2_with (first
          | ((with_reducible refine at_load ?_); refine wpList_ldP (by kernel_rfl) (.tmp 30) rfl rfl HRG5.out ?_)
          | ((with_reducible refine at_store ?_); refine wpList_put rfl _ (.tmp 5) (.tmp 31) rfl W.heap.size [.int .i64 u, .slice A1 q.length c1] [.int .i64 u, .slice A2 L.length c2] 30 rfl rfl HM15.out iszP rfl (by simp [Value.oneCell']) ?_; intro w8 ht8 hb8; have HL8 := hideIt (ht8.below (HL.out.trans (GD5.out.mono HL.out.size)) (Nat.le_refl _)); have HB8 := hideIt hb8; clear ht8 hb8))
        go_roundg (gk - 1)
        case measure => omega
        case rel => exact ⟨i + 1, by omega, by omega, by go_num, ⟨A1, c1, q, HB8.out, HS1q.out, HB1q.out, hl1, HE.out⟩, HL8.out⟩
      | false =>
        have HE := hideIt (HSi.out.trans (if_neg (by rw [hbt]; decide)))
        have HSG := hideIt (fun (r : Int) (h : SgB q L r) => show ¬ r < 0 from of_decide_eq_false (h.trans hbt))
        clear hbt HSi
        go_wp2_with fail
        refine loads_begin_n 8 [(6, fun W => W.rangeAt g (o + i * 2) [.int .i64 u, .slice A1 q.length c1]), (6, fun W2 => Blk W2 W.heap.size 30 [.int .i64 u, .slice A2 L.length c2])] rfl (by kernel_rfl) ?_
        try simp only [Act.put]
        try simp only [List.setIfInBounds_toArray]
        try simp only [List.set_cons_succ]
        try simp only [List.set_cons_zero]
        refine wpAnyL_move (oi := ⟨some 20, _, _, _, _, _⟩) 0 ?_ rfl (by kernel_rfl) (by kernel_rfl) (by kernel_rfl) (by kernel_rfl) (fun _ _ _ h => h) (by kernel_rfl) ?_ ((HKS.out _ _ GD.out)) ?_
        rotate_left
        · intro W'; go_simp; first | done | with_reducible rfl
        try simp only [Act.put]
        try simp only [List.setIfInBounds_toArray]
        try simp only [List.set_cons_succ]
        try simp only [List.set_cons_zero]
        refine wpAnyL_move (oi := ⟨some 21, _, _, _, _, _⟩) 1 ?_ rfl (by kernel_rfl) (by kernel_rfl) (by kernel_rfl) (by kernel_rfl) (fun _ _ _ h => h) (by kernel_rfl) ?_ ((HKS.out _ _ GD.out)) ?_
        rotate_left
        · intro W'; go_simp; first | done | with_reducible rfl
        try simp only [Act.put]
        try simp only [List.setIfInBounds_toArray]
        try simp only [List.set_cons_succ]
        try simp only [List.set_cons_zero]
        refine wpAnyL_move (oi := ⟨some 22, _, _, _, _, _⟩) 2 ?_ rfl (by kernel_rfl) (by kernel_rfl) (by kernel_rfl) (by kernel_rfl) (fun _ _ _ h => h) (by kernel_rfl) ?_ ((HKS.out _ _ GD.out)) ?_
        rotate_left
        · intro W'; go_simp; first | done | with_reducible rfl
        try simp only [Act.put]
        try simp only [List.setIfInBounds_toArray]
        try simp only [List.set_cons_succ]
        try simp only [List.set_cons_zero]
        refine wpAnyL_move (oi := ⟨some 23, _, _, _, _, _⟩) 3 ?_ rfl (by kernel_rfl) (by kernel_rfl) (by kernel_rfl) (by kernel_rfl) (fun _ _ _ h => h) (by kernel_rfl) ?_ ((HKS.out _ _ GD.out)) ?_
        rotate_left
        · intro W'; go_simp; first | done | with_reducible rfl
        try simp only [Act.put]
        try simp only [List.setIfInBounds_toArray]
        try simp only [List.set_cons_succ]
        try simp only [List.set_cons_zero]
        refine wpAnyL_take (oi := ⟨some 24, _, _, _, _, _⟩) 4 6 (.agg #[.int .i64 u, .slice A1 q.length c1]) _ rfl (by kernel_rfl) (by kernel_rfl) (by kernel_rfl) (by kernel_rfl) (by kernel_rfl) (by kernel_rfl) (.head _) (fun _ _ _ h => h) (by kernel_rfl) (fun W' hW' => exec_load_mid8 (cs := [.int .i64 u, .slice A1 q.length c1]) rfl rfl hW' _ Tryd.underlying30 rfl iszP) (HKS.out _ _ GD.out) ?_
        try simp only [Act.put]
        try simp only [List.setIfInBounds_toArray]
        try simp only [List.set_cons_succ]
        try simp only [List.set_cons_zero]
        refine wpAnyL_take (oi := ⟨some 25, _, _, _, _, _⟩) 5 6 (.agg #[.int .i64 u, .slice A2 L.length c2]) _ rfl (by kernel_rfl) (by kernel_rfl) (by kernel_rfl) (by kernel_rfl) (by kernel_rfl) (by kernel_rfl) (.tail _ (.head _)) (fun _ _ _ h => h) (by kernel_rfl) (fun W' hW' => exec_load_blk (cs := [.int .i64 u, .slice A2 L.length c2]) rfl rfl hW' _ Tryd.underlying30 rfl iszP) (HKS.out _ _ GD.out) ?_
        try simp only [Act.put]
        try simp only [List.setIfInBounds_toArray]
        try simp only [List.set_cons_succ]
        try simp only [List.set_cons_zero]
        refine wpAnyL_one (o := ⟨some 26, _, _, _, _, _⟩) 6 (by kernel_rfl) rfl (fun K hK => ?_)
        go_wp2_with (go_at_call 36; refine (HCP.out _ GD.out).mono ?_; rintro e w5 ⟨⟨r, rfl, hr⟩, hb5⟩)
        have hr2 := HSG.out r hr
        have GD5 := hideIt (GD.out.trans (hb5.mono GD.out.size))
        have HM15 := hideIt (HM1.out.kept GD5.out HM1.out.lt)
        refine hK _ _ (Hooks.skip (by kernel_rfl) (Hooks.skip (by kernel_rfl) (Hooks.nil _ _))) ?_
        clear hK K hr hb5 HCP HSG HKS GD
        try simp only [Act.put]
        try simp only [List.setIfInBounds_toArray]
        try simp only [List.set_cons_succ]
        try simp only [List.set_cons_zero]
        refine loads_tail 7 (by kernel_rfl) (by kernel_rfl) (by kernel_rfl) (by kernel_rfl) ?_
        simp only [List.drop_succ_cons, List.drop_zero]
        go_wp2_with fail
        go_roundg (gk - 1)
        case measure => omega
        case rel => exact ⟨i + 1, by omega, by omega, by go_num, ⟨A2, c2, L, HM15.out, HM2.out, HM3.out, hm4, HE.out⟩, HL.out.trans (GD5.out.mono HL.out.size)⟩
    · have hki : ¬ (i : Int) < (ls.length : Int) := by omega
      obtain rfl : i = ls.length := by omega
      have HR44 := hideIt (HR4.out.kept HL.out HR4.out.lt)
      go_wp2_with (first
        | ((with_reducible refine at_load ?_); refine wpList_get rfl _ (.tmp 5) rfl W.heap.size [.int .i64 u, .slice A2 L.length c2] 30 _ rfl HM1.out Tryd.underlying30 rfl iszP ?_)
        | ((with_reducible refine at_store ?_); refine wpList_put rfl _ (.tmp 4) (.tmp 32) rfl w.heap.size [.int .i64 u, .slice A2 L.length c2] [.int .i64 0, .slice none 0 0] 30 rfl rfl HR44.out iszP rfl (by simp [Value.oneCell']) ?_; intro w8 ht8 hb8; have HT8 := hideIt ht8; have HB8 := hideIt hb8; clear ht8 hb8))
      refine bodyPost_ret (ret_blk rfl HB8.out _ rfl Tryd.underlying30 rfl iszP) rfl ?_
      have hbl : Below w.heap.size w w8 := HT8.out.below HBW.out (Nat.le_refl _)
      have h5 := HM5.out
      rw [HFN.out] at h5
      exact ⟨A2, c2, L, rfl, h5, (HM2.out.below hbl).wide hbl.size, HM3.out, hbl⟩
end Go.Proofs.YtklngodlijiccaaDoor
