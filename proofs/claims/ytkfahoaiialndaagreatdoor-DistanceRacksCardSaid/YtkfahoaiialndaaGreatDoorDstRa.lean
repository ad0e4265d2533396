/-
  The program's lists of parts, walked: unitsByRack, and what unitLosses makes.
-/
import Derived.Test.YtkfahoaiialndaaGreatDoorDstE
import Derived.Test.YtkfahoaiialndaaGreatDoorDstD
import Derived.Test.YtkfahoaiialndaaGreatDoorDstO
namespace Go.Proofs.YtkfahoaiialndaaGreatDoor
open Go.RowKit Go.Shelf
set_option linter.unusedVariables false
set_option linter.unusedSimpArgs false

/-- Parts under construction: their own row, and each part in a block of its own. -/
def RJ (W : World) (B : Nat) (v : Value) (ps : List (List Nat)) : Prop :=
  ∃ us, W.ownsRow B 26 1 v ps.length us ∧ All2 (fun (b : List Nat) u => ∃ g c cs, u = .slice (some ⟨g, 0, none⟩) b.length c ∧ Blk W g 3 cs ∧ cs.take b.length = (nI b).map iv) ps us
theorem RJ.nil (W : World) (B : Nat) : RJ W B (.slice none 0 0) [] := ⟨[], World.ownsRow_nil _ _ _ _, trivial⟩
theorem RJ.keep {W W' : World} {B : Nat} {v : Value} {ps : List (List Nat)} (h : RJ W B v ps) (hb : Below W.heap.size W W') : RJ W' B v ps := by
  obtain ⟨us, h1, h2⟩ := h
  exact ⟨us, own_kept h1 hb, All2.imp (fun b u ⟨g, c, cs, e, hg, ht⟩ => ⟨g, c, cs, e, hg.kept hb hg.lt, ht⟩) h2⟩
theorem RJ.low {W : World} {B B' : Nat} {v : Value} {ps : List (List Nat)} (h : RJ W B v ps) (hB : B' ≤ B) : RJ W B' v ps := by
  obtain ⟨us, h1, h2⟩ := h
  exact ⟨us, ⟨h1.1, h1.2.imp id fun ⟨g, cp, cur, q1, q2, q3⟩ => ⟨g, cp, cur, q1, Nat.le_trans hB q2, q3⟩⟩, h2⟩
theorem RJ.snoc {W w' : World} {B g c : Nat} {v v' : Value} {us cs : List Value} {ps : List (List Nat)} {b : List Nat} {o : Obj} (h2 : All2 (fun (b : List Nat) u => ∃ g c cs, u = .slice (some ⟨g, 0, none⟩) b.length c ∧ Blk W g 3 cs ∧ cs.take b.length = (nI b).map iv) ps us)
    (hO : W.ownsRow B 26 1 v ps.length us) (hb : Blk W g 3 cs) (ht : cs.take b.length = (nI b).map iv) (h1 : w'.ownsRow B 26 1 v' (ps.length + 1) (us ++ [.slice (some ⟨g, 0, none⟩) b.length c])) (hg : (W.alloc o).grownBy w' v.ownBlock) : RJ w' B v' (ps ++ [b]) := by
  have hk : ∀ {k : Nat} {cs : List Value}, Blk W k 3 cs → Blk w' k 3 cs := fun {k cs} hk =>
    (hg.block k (by simp; have := hk.lt; omega) (own_ne hO hk (by decide))).trans (hk.alloc o)
  refine ⟨us ++ [.slice (some ⟨g, 0, none⟩) b.length c], by rw [List.length_append]; exact h1, All2.snoc ⟨g, c, cs, rfl, hk hb, ht⟩ (All2.imp (fun b u ⟨g, c, cs, e, hg, ht⟩ => ⟨g, c, cs, e, hk hg, ht⟩) h2)⟩
theorem RJ.pp {W : World} {B : Nat} {v : Value} {ps : List (List Nat)} (h : RJ W B v ps) : ∃ A c, v = .slice A ps.length c ∧ ps.length ≤ c ∧ PP W W.heap.size A ps := by
  obtain ⟨us, h1, h2⟩ := h
  obtain ⟨A, c, rfl, hc, _⟩ := own_form h1
  refine ⟨A, c, rfl, hc, us, Sl.of_own h1, fun i hi => ?_⟩
  obtain ⟨u, h3, g, cc, cs, h4, h5, h6⟩ := h2.at_ (i := i) (a := ps[i]) (List.getElem?_eq_getElem hi)
  refine ⟨⟨g, 0, none⟩, cc, by rw [h3, h4], by rw [List.length_map, List.length_map, Nat.mul_one], fun _ => ⟨g, 0, rfl, h5.lt, fun j y hj => ?_⟩⟩
  rw [Nat.zero_add, h5.cell]
  rw [← h6] at hj
  have hjl : j < (cs.take ps[i].length).length := (List.getElem?_eq_some_iff.1 hj).1
  rw [List.length_take] at hjl
  rwa [List.getElem?_take_of_lt (by omega)] at hj

theorem compact9_any (zs : List Int) (h0 : 0 < zs.length) (hz : zs.length ≤ 1000) (g cap : Nat) (cur : Array Value) (W : World) (h2 : W.heap[g]? = some (.cells cur 3 (0, 0))) (h3 : zs.length ≤ cap) (h4 : cap ≤ maxLen) (h5 : cur.size = cap * 1) (h6 : cur.toList.take zs.length = (srt zs).map iv) :
    Calls Tryz.prog 49 #[.slice (some ⟨g, 0, none⟩) zs.length cap] W fun e w' => e = .returned (.slice (some ⟨g, 0, none⟩) (nmS zs).length cap) ∧ Sl w' w'.heap.size (some ⟨g, 0, none⟩) 1 (nmS zs).length ((nmS zs).map iv) ∧ Below g W w' := by
  have hl : (srt zs).length = zs.length := List.length_mergeSort zs
  have h := Any.slices_Compact_int layC g 0 cap (srt zs) W (holds_of_block_i h2 (by rw [hl]; exact h6)) (by omega) (by omega)
  rw [hl] at h
  refine h.mono ?_
  rintro e w' ⟨rfl, q, rfl⟩
  have hle : (nmS zs).length ≤ zs.length := (nmS_facts zs).2.2
  have ho := ownsRow_sorted_i (w := W) (n := q) (os := #[]) (ss := zs) (ts := nmS zs ++ List.replicate (zs.length - (nmS zs).length) 0) (by rw [List.length_append, List.length_replicate]; omega) (Nat.le_refl g) h2 h3 h4 h5
  have hg := grownBy_sorted_i (w := W) (g := g) (n := q) (os := #[]) (nmS zs ++ List.replicate (zs.length - (nmS zs).length) 0).toArray
  rw [Go.Sort.grow_empty] at ho hg
  refine ⟨rfl, ?_, (Below.refl g W).grown hg (Nat.le_of_lt (Array.getElem?_eq_some_iff.1 h2).1) (fun j hj => by cases hj; exact Nat.le_refl _)⟩
  have hs := (Sl.of_own ho).take hle
  rw [Nat.mul_one, List.map_append, List.take_left' (by rw [List.length_map])] at hs
  exact hs
theorem nI_snoc9 (M : List Nat) (k : Nat) : nI (M ++ [k]) = nI M ++ [(k : Int)] := by simp [nI]
theorem rkK_next9 (racks : List Int) (nm : Int) (k : Nat) : ((List.range (k + 1)).filter fun u => decide (racks.getD u 0 = nm)) = if racks.getD k 0 = nm then (List.range k).filter (fun u => decide (racks.getD u 0 = nm)) ++ [k] else (List.range k).filter fun u => decide (racks.getD u 0 = nm) := by
  rw [List.range_succ, List.filter_append]
  by_cases h : racks.getD k 0 = nm
  · rw [if_pos h, List.filter_cons, if_pos (decide_eq_true h)]; rfl
  · rw [if_neg h, List.filter_cons, if_neg (by rw [decide_eq_false h]; decide)]; simp
set_option maxRecDepth 100000 in
set_option maxHeartbeats 1000000 in
theorem byrack_any (zs : List Int) (h0 : 0 < zs.length) (hz : zs.length ≤ 1000) (R : Option Addr) (cr : Nat) (w : World) (hR : Sl w w.heap.size R 1 zs.length (zs.map iv)) :
    Calls Tryz.prog 33 #[.slice R zs.length cr] w fun e w' => ∃ v, e = .returned v ∧ RJ w' w.heap.size v ((nmS zs).map (rkS zs)) ∧ Below w.heap.size w w' := by
  obtain ⟨b, o, hRe, hb, hc⟩ := hR.2 (by rw [List.length_map]; exact h0)
  subst hRe
  have hb1 := below_new w (.cells #[.slice (some ⟨b, o, none⟩) zs.length cr] 26)
  have HS := hideIt (sorted_any zs h0 hz w.heap.size b o cr (w.alloc (.cells #[.slice (some ⟨b, o, none⟩) zs.length cr] 26)) (by simp) (by simp; omega) ((Blk.new w 26 [.slice (some ⟨b, o, none⟩) zs.length cr]).cell 0) (fun j hj => by
    rw [hb1.cell (p := ⟨b, o + j, none⟩) hb]
    exact hc j _ (by rw [List.getElem?_map, List.getElem?_eq_getElem hj]; rfl)))
  have HB1 := hideIt hb1
  have HR := hideIt hR
  clear hb1 hR hb hc
  go_enter Tryz.func33, Tryz.ntmps33
  go_wp2_with (first
    | (go_at_call 51; refine (values_call _ _ _ _).mono ?_; rintro e wa ⟨rfl, rfl⟩)
    | (go_at_call 50; refine HS.out.mono ?_; rintro e wb ⟨g, cap, cur, rfl, hg, h2, h3, h4, h5, h6, hbb⟩; have HC := hideIt (compact9_any zs h0 hz g cap cur wb h2 h3 h4 h5 h6); have HBB := hideIt (HB1.out.trans (hbb.mono (by simp))); have HG := hideIt (show w.heap.size ≤ g from Nat.le_trans (by simp) hg); clear hg h2 h3 h4 h5 h6 hbb)
    | (go_at_call 49; refine HC.out.mono ?_; rintro e w2 ⟨rfl, hs2, hb2⟩; have HS2 := hideIt hs2; have HB2 := hideIt (HBB.out.trans (hb2.mono HG.out)); clear hs2 hb2))
  have hcl : (nmS zs).length ≤ zs.length := (nmS_facts zs).2.2
  have HO0 := hideIt (RJ.nil w2 w2.heap.size)
  obtain ⟨nm, hnm⟩ : ∃ l, l = nmS zs := ⟨_, rfl⟩
  have HNM := hideIt hnm
  rw [← hnm] at hcl HS2 ⊢
  clear hnm HS HBB HG
  go_loopg [3, 14] nm.length (fun gk s3 s14 wr => ∃ k : Nat, k + gk = nm.length ∧ s14 = .int .i64 (k : Int) ∧ Aside (RJ wr w2.heap.size s3 ((nm.take k).map (rkS zs))) ∧ Aside (Below w2.heap.size w2 wr))
  case atStart => exact ⟨0, by omega, rfl, HO0.out, Below.refl _ _⟩
  case round =>
    obtain ⟨k, hk, rfl, HJ, HL⟩ := hrel
    obtain ⟨w4, rfl⟩ : ∃ x, x = wr := ⟨wr, rfl⟩
    have HLW := hideIt (HB2.out.trans (HL.out.mono HB2.out.size))
    by_cases hlt : k < nm.length
    · have hinc := inc_c 3 k (by omega)
      have hki : (k : Int) < (nm.length : Int) := by omega
      obtain ⟨b3, o3, he3, hb3, hc3⟩ := (HS2.out.below HL.out).num hlt
      have HTK := hideIt (take_snoc nm k hlt)
      obtain ⟨r, hr⟩ : ∃ r, r = nm[k] := ⟨_, rfl⟩
      rw [← hr] at hc3 HTK
      injection he3 with he3
      injection he3 with e1 e2 _
      subst e1 e2
      have hc3' : w4.cell? ⟨g, k, none⟩ = some (.int .i64 r) := by rw [Nat.zero_add] at hc3; exact hc3
      have HO1 := hideIt (World.ownsRow_nil w4 w4.heap.size 3 1)
      clear hb3 hc3 hr hlt
      go_wp2_with fail
      have HJ4 := hideIt HJ.out
      obtain ⟨gk0, rfl⟩ : ∃ z, z = gk := ⟨gk, rfl⟩
      go_loopg [6, 20] zs.length (fun gk2 s6 s20 wr => ∃ j : Nat, j + gk2 = zs.length ∧ s20 = .int .i64 (j : Int) ∧ Aside (wr.ownsRow w4.heap.size 3 1 s6 ((List.range j).filter fun u => decide (zs.getD u 0 = r)).length ((nI ((List.range j).filter fun u => decide (zs.getD u 0 = r))).map iv)) ∧ Aside (Below w4.heap.size w4 wr))
      case atStart => exact ⟨0, by omega, rfl, HO1.out, Below.refl _ _⟩
      case round =>
        obtain ⟨j, hj, rfl, HOJ, HLJ⟩ := hrel
        obtain ⟨w5, rfl⟩ : ∃ x, x = wr := ⟨wr, rfl⟩
        by_cases hlj : j < zs.length
        · have hincj := inc_c 3 j (by omega)
          have hji : (j : Int) < (zs.length : Int) := by omega
          obtain ⟨b5, o5, he5, hb5, hc5⟩ := (HR.out.below (HLW.out.trans (HLJ.out.mono HLW.out.size))).num hlj
          injection he5 with he5
          injection he5 with e1 e2 _
          subst e1 e2
          have HNX := hideIt (rkK_next9 zs r j)
          rw [getD_lt hlj] at HNX
          have hfl : ((List.range j).filter fun u => decide (zs.getD u 0 = r)).length ≤ j := by
            have := List.length_filter_le (fun u => decide (zs.getD u 0 = r)) (List.range j)
            rwa [List.length_range] at this
          have hq := i_eql 3 .i64 zs[j] r
          generalize zs[j] = z at *
          clear hb5 hlj
          by_cases hz2 : z = r
          · rw [if_pos hz2] at HNX
            rw [decide_eq_true hz2] at hq
            clear hz2
            go_wp2_with ((with_reducible refine at_append ?_); refine wpList_apI (y := (j : Int)) (n := ((List.range j).filter fun u => decide (zs.getD u 0 = r)).length) (us := nI ((List.range j).filter fun u => decide (zs.getD u 0 = r))) rfl (.tmp 28) (.tmp 30) rfl rfl HOJ.out rfl (by omega) HLJ.out.size ?_; intro v6 w6 HO6 HG6 HA6 HB6)
            go_roundg (gk - 1)
            case measure => omega
            case rel => exact ⟨j + 1, by omega, by go_num, by rw [HNX.out, List.length_append, nI_snoc9]; exact HO6.out, HLJ.out.trans HB6.out⟩
          · rw [if_neg hz2] at HNX
            rw [decide_eq_false hz2] at hq
            clear hz2
            go_wp2_with fail
            go_roundg (gk - 1)
            case measure => omega
            case rel => exact ⟨j + 1, by omega, by go_num, by rw [HNX.out]; exact HOJ.out, HLJ.out⟩
        · have hji : ¬ (j : Int) < (zs.length : Int) := by omega
          obtain rfl : j = zs.length := by omega
          obtain ⟨us, hus⟩ : ∃ l, l = rkS zs r := ⟨_, rfl⟩
          have HOU := hideIt (show w5.ownsRow w4.heap.size 3 1 _ us.length ((nI us).map iv) by rw [hus]; exact HOJ.out)
          have hu0 : 0 < us.length := by
            have hm : r ∈ zs := by
              have := (nmS_facts zs).2.1 r
              rw [← HNM.out] at this
              refine this.1 (List.mem_of_mem_take (i := k + 1) ?_)
              rw [HTK.out]; simp
            obtain ⟨i, hi, e⟩ := List.getElem_of_mem hm
            rw [hus]
            exact List.length_pos_of_mem ((rkS_mem zs r i).2 ⟨hi, by rw [getD_lt hi]; exact e⟩)
          obtain ⟨g6, c6, cs6, hv6, hg6, hB6, _⟩ := own_at0 HOU.out hu0
          subst hv6
          have HCS := hideIt (show cs6.take us.length = (nI us).map iv by
            rcases HOU.out.2 with ⟨h9, _⟩ | ⟨g', cap', cur', h9, _, hg', _, _, _, ht'⟩
            · cases h9
            · injection h9 with e1 e2 e3
              injection e1 with e1
              injection e1 with e1 _ _
              subst e1
              have := hB6.symm.trans hg'
              injection this with this
              injection this with this _ _
              rw [Nat.mul_one, ← this] at ht'
              simpa using ht')
          have HB6 := hideIt hB6
          obtain ⟨vs, hvs1, hvs2⟩ := HJ4.out.keep HLJ.out
          have HV1 := hideIt hvs1
          have HV2 := hideIt hvs2
          obtain ⟨pl, hpl⟩ : ∃ l, l = (nm.take k).map (rkS zs) := ⟨_, rfl⟩
          have hpll : pl.length ≤ 1000 := by rw [hpl, List.length_map, List.length_take]; omega
          have HPL := hideIt hpl
          rw [← hpl] at HV1 HV2
          obtain ⟨A3, c3, hv3, _, _⟩ := own_form hvs1
          subst hv3
          have hpl2 : (List.map (rkS zs) (List.take k nm)).length = pl.length := by rw [hpl]
          rw [hpl2] at HV1 ⊢
          have HUS := hideIt hus
          clear hg6 hB6 hvs1 hvs2 hpl hus hpl2 hlj
          go_wp2_with ((with_reducible refine at_append ?_); refine wpList_apR (A := some ⟨g6, 0, none⟩) (k := us.length) (c := c6) (n := pl.length) (us := vs) rfl (.tmp 33) (.tmp 35) rfl rfl HV1.out rfl (by omega) (HL.out.trans (HLJ.out.mono HL.out.size)).size ?_; intro v8 w8 HO8 HG8 HA8 HB8)
          go_roundg (gk0 - 1)
          case measure => omega
          case rel =>
            refine ⟨k + 1, by omega, by go_num, ?_, (HL.out.trans (HLJ.out.mono HL.out.size)).trans HB8.out⟩
            · rw [HTK.out, List.map_append, ← HPL.out]
              have := RJ.snoc HV2.out HV1.out HB6.out HCS.out HO8.out HG8.out
              rw [HUS.out] at this
              exact this
    · have hki : ¬ (k : Int) < (nm.length : Int) := by omega
      have HJ2 := hideIt HJ.out
      rw [List.take_of_length_le (by omega), HNM.out] at HJ2
      go_wp2_with fail
      go_ret
      exact ⟨_, rfl, HJ2.out.low HB2.out.size, HLW.out⟩
end Go.Proofs.YtkfahoaiialndaaGreatDoor
