/-
  The walk of the law: Applying a plan to the units it reads gives the unit back, whatever the others are.
-/
import Derived.Test.YtklngodlijiccaaDoorRepC6
import Derived.Test.YtklngodlijiccaaDoorRepL2
namespace Go.Proofs.YtklngodlijiccaaDoor.repairRebuilds
open Go.RowKit
set_option linter.unusedVariables false

theorem few_sp {us : List (List UInt8)} (h : fewB us = true) : us.length ≤ 24 ∧ ∀ u ∈ us, u.length ≤ 64 := by
  unfold fewB at h
  simp only [Bool.and_eq_true, decide_eq_true_eq, List.all_eq_true] at h
  exact h
theorem sl_take {W : World} {g n : Nat} {t : TypeId} {cs xs : List Value} (h : Blk W g t cs) (hx : cs.take n = xs) (hl : xs.length = n) : Sl W W.heap.size (some ⟨g, 0, none⟩) 1 n xs := by
  refine ⟨by rw [hl, Nat.mul_one], fun _ => ⟨g, 0, rfl, h.lt, fun j v hj => ?_⟩⟩
  rw [Nat.zero_add, h.cell]
  rw [← hx, List.getElem?_take] at hj
  split at hj
  · exact hj
  · cases hj
abbrev nsL (L : List (Nat × Nat)) : List Int := (zt L).map (·.1)
theorem nsL_at {L : List (Nat × Nat)} {i : Nat} (h : i < L.length) : (nsL L).take (i + 1) = (nsL L).take i ++ [(L[i].1 : Int)] := by
  have h2 : i < (nsL L).length := by rw [zt_len]; exact h
  rw [take_snoc _ i h2]
  simp
theorem nsL_mem {L : List (Nat × Nat)} {t : Nat × Nat} (h : t ∈ L) : (t.1 : Int) ∈ nsL L := List.mem_map.2 ⟨_, List.mem_map.2 ⟨t, h, rfl⟩, rfl⟩
/-- Loop 1: the map of the units read. -/
def MI (w4 : World) (b gD oD : Nat) (L : List (Nat × Nat)) (i : Nat) (W : World) : Prop :=
  Below w4.heap.size w4 W ∧ (∃ Dm, OI W b i Dm ∧ SeenI Dm ((nsL L).take i)) ∧ ∀ j (hj : j < L.length), W.cell? ⟨gD, oD + j, none⟩ = some (.int .i64 (L[j].1 : Int))
/-- Loop 2: the units. -/
def UI (W0 w8 : World) (g : Nat) (ns : List Int) (J : List UInt8) (U : List (List UInt8)) (i : Nat) (W : World) : Prop :=
  Below W0.heap.size W0 W ∧ Keeps (fun q => q = g) w8 W ∧ ∃ cs, Blk W g 9 cs ∧ cs.take U.length = (junkR ns J U i).map sv
theorem UI.cell {W0 w8 W : World} {g i : Nat} {ns : List Int} {J : List UInt8} {U : List (List UInt8)} (h : UI W0 w8 g ns J U i W) {j : Nat} (hj : j < U.length) : (∃ v, W.cell? ⟨g, j, none⟩ = some v) ∧ W.frozen? ⟨g, j, none⟩ = false := by
  obtain ⟨_, _, cs, hb, ht⟩ := h
  refine ⟨?_, hb.free j⟩
  have h2 : (cs.take U.length)[j]? = ((junkR ns J U i).map sv)[j]? := by rw [ht]
  rw [List.getElem?_take, if_pos hj, List.getElem?_map, junk_at hj] at h2
  exact ⟨_, (hb.cell j).trans h2⟩
theorem UI.keep {W0 w8 W : World} {g i : Nat} {ns : List Int} {J : List UInt8} {U : List (List UInt8)} (h : UI W0 w8 g ns J U i W) (hin : ((i : Nat) : Int) ∈ ns) : UI W0 w8 g ns J U (i + 1) W := by
  obtain ⟨h1, h2, cs, hb, ht⟩ := h
  exact ⟨h1, h2, cs, hb, by rw [junk_keep hin]; exact ht⟩
theorem UI.set {W0 w8 W : World} {g i : Nat} {ns : List Int} {J : List UInt8} {U : List (List UInt8)} (h : UI W0 w8 g ns J U i W) (hin : ¬ ((i : Nat) : Int) ∈ ns) (hi : i < U.length) (hg : W0.heap.size ≤ g) : UI W0 w8 g ns J U (i + 1) (W.setCell ⟨g, i, none⟩ (sv J)) := by
  obtain ⟨h1, h2, cs, hb, ht⟩ := h
  refine ⟨below_set h1 hg i _, h2.of_set i _, cs.set i (sv J), hb.store i _, ?_⟩
  rw [List.take_set, ht, ← List.map_set, junk_set hin hi]

set_option maxHeartbeats 3200000 in
set_option maxRecDepth 100000 in
theorem walk (a0 : Cd) (A0 : Option Addr) (c0 : Nat) (l1 : List (List UInt8)) (A1 : Option Addr) (c1 : Nat) (l2 : List Bool) (A2 : Option Addr) (c2 : Nat) (a3 : Int) (l4 : List UInt8) (w : World) (x0 : CIn w a0 A0) (x1 : Sl w w.heap.size A1 1 l1.length (l1.map sv)) (m1 : l1.length ≤ 9223372036854775807) (x2 : Sl w w.heap.size A2 1 l2.length (l2.map bl)) (m2 : l2.length ≤ 140737488351232) (w3 : -9223372036854775808 ≤ a3 ∧ a3 ≤ 9223372036854775807) (s4 : l4.length ≤ 140737488351232) (T1 : Tabs w) :
    Calls Tryd.prog 6 #[a0.v A0 c0, .slice A1 l1.length c1, .slice A2 l2.length c2, .int .i64 a3, .string (str l4)] w fun e w' => e = .returned (.bool true) ∧ Below w.heap.size w w' := by
  obtain ⟨W0, hW0⟩ : ∃ W, W = w.alloc (.cells (a0.cs A0 c0).toArray 24) := ⟨_, rfl⟩
  have hb0 : Below w.heap.size w W0 := by rw [hW0]; exact below_new w _
  have HB0 := hideIt hb0
  have HBC := hideIt (show BC W0 w.heap.size a0 A0 c0 by rw [hW0]; exact BC.new c0 x0)
  have HT := hideIt (T1.keep hb0)
  have HX := hideIt ((x1.below hb0).wide hb0.size)
  have HY := hideIt ((x2.below hb0).wide hb0.size)
  have HWE := hideIt hW0
  have HSA := hideIt (fun (W : World) (h : Below W0.heap.size W0 W) => sanity_any W (HT.out.keep h))
  have HSM := hideIt (small_any a0 A0 c0 W0 HBC.out.cin)
  have HFW := hideIt (fun (W : World) (h : Below W0.heap.size W0 W) => few_any l1 m1 A1 c1 W ((HX.out.below h).wide h.size))
  have hnot := not_b
  clear hW0 hb0 x0 x1 x2 T1 m1 m2 s4
  by_cases hsm : smB a0 = true
  · rw [hsm] at HSM
    have hS := smB_sm hsm
    by_cases hfw : fewB l1 = true
    · rw [hfw] at HFW
      obtain ⟨hf1, hf2⟩ := few_sp hfw
      have HEN := hideIt (fun (W : World) (h : Below W0.heap.size W0 W) => renc_any a0 A0 c0 W (HBC.out.keep h).cin hS l1 hf1 hf2 A1 c1 ((HX.out.below h).wide h.size))
      have HPA := hideIt (fun (W : World) (h : Below W0.heap.size W0 W) => plan_any a0 A0 c0 W (HT.out.keep h) (HBC.out.keep h).cin l2 A2 c2 ((HY.out.below h).wide h.size) a3)
      obtain ⟨U, eu, hU⟩ : ∃ U eu, encR a0 l1 = (U, eu) := ⟨_, _, rfl⟩
      obtain ⟨pu, L, er, hr⟩ : ∃ pu L er, planR a0 l2 a3 = ((pu, L), er) := ⟨_, _, _, rfl⟩
      rw [hU] at HEN
      rw [hr] at HPA
      by_cases he : eu = 0
      · subst he
        have hn1 : binOp .neq 31 (.int .i64 0) (.int .i64 0) = pure (.bool false) := by rw [i_neq]; rfl
        by_cases hf : er = 0
        · subst hf
          obtain ⟨hv, hud, hal, hUe⟩ := enc_fine hU
          obtain ⟨mm, nn, k, hu, hpu, hvc, hl, hok, hk, hg, _, hpos⟩ := planR_fine hr
          subst hu hpu
          have hn : l1.length = nn := by have := hvc.d; omega
          rw [hvc.fn] at hal
          have hUl : U.length = nn + a0.par.length := by rw [hUe, List.length_append, List.length_map, hn]
          have HAG := hideIt (fun (V : List (List UInt8)) (hV : V.length = U.length) (hp : ∀ t ∈ L, V.getD t.1 [] = U.getD t.1 []) => show aplR a0 (k : Int) (zt L) V = (U.getD k [], 0) by
            have := apply_good hvc hv hn hal hl hk hg hpos (hV.trans hUl) (by rw [← hUe]; exact hp)
            rwa [← hUe] at this)
          have hul : ul l1 ≤ 64 := by
            have := hvc.pos
            rw [← ul_zero _ (show 0 < l1.length by omega)]
            exact hf2 _ (List.getElem_mem _)
          have hULq : ∀ q, q < U.length → (U.getD q []).length ≤ 64 := fun q hq => by
            have := enc_len hvc hn hal (u := q) (by omega)
            rw [← hUe] at this
            omega
          have hmL : ∀ t ∈ L, t.1 < U.length := fun t ht => by have := (hg.mem t ht).1; omega
          have hL32 : L.length ≤ 32 := by have := hg.len; have := hvc.wid; omega
          have hU32 : U.length ≤ 32 := by have := hvc.wid; omega
          have hNU : 0 < U.length := by omega
          have hkU : k < U.length := by omega
          obtain ⟨V, hV⟩ : ∃ V, V = junkR (nsL L) l4 U U.length := ⟨_, rfl⟩
          have hVl : V.length = U.length := by rw [hV, junk_len]
          have hVr : ∀ t ∈ L, V.getD t.1 [] = U.getD t.1 [] := fun t ht => by rw [hV, junk_read (nsL_mem ht) (hmL t ht)]
          have hVa := HAG.out V hVl hVr
          have HAP := hideIt (fun (W : World) (h : Below W0.heap.size W0 W) (F : Option Addr) (c : Nat) (g cap : Nat) (hF : Sl W W.heap.size F 2 L.length (tcs L)) (hD : Sl W W.heap.size (some ⟨g, 0, none⟩) 1 U.length (V.map sv)) => show Calls Tryd.prog 23 #[a0.v A0 c0, .agg #[.int .i64 (k : Int), .slice F L.length c], .slice (some ⟨g, 0, none⟩) U.length cap] W (fun e w' => e = .returned (.tuple #[.string (str (U.getD k [])), .int .i64 0]) ∧ Below W.heap.size W w') by
            have := apply_part a0 A0 c0 W (HT.out.keep h) (HBC.out.keep h).cin (k : Int) (zt L) (by rw [List.length_map]; omega) F c (by rw [zcs_tcs, List.length_map]; exact hF) V (by omega) (fun t ht => by
              obtain ⟨q, hq, rfl⟩ := List.mem_map.1 ht
              show (V.getD ((q.1 : Nat) : Int).toNat []).length ≤ 100000
              rw [Int.toNat_natCast, hVr q hq]
              have := hULq q.1 (hmL q hq)
              omega) (some ⟨g, 0, none⟩) cap (by rw [hVl]; exact hD)
            rwa [hVa, hVl, show (zt L).length = L.length from List.length_map ..] at this)
          have HVE := hideIt hV
          have HRD := hideIt (fun (W : World) (F : Option Addr) (c : Nat) (h : Sl W W.heap.size F 2 L.length (tcs L)) => reads_tl (k : Int) L (by omega) F c W h)
          have hq1 : binOp .lss 3 (.int .i64 (k : Int)) (.int .i64 0) = pure (.bool false) := by rw [binOp_lss, decide_eq_false (by omega)]
          have hq2 : binOp .geq 3 (.int .i64 (k : Int)) (.int .i64 (U.length : Int)) = pure (.bool false) := by rw [binOp_geq, decide_eq_false (by omega)]
          have hkiU : (k : Int) < (U.length : Int) := by omega
          obtain ⟨uk, huk⟩ : ∃ u, u = U.getD k [] := ⟨_, rfl⟩
          rw [← huk] at HAP
          have HKU := hideIt (show (U.map sv)[k]? = some (.string (str uk)) by rw [List.getElem?_map, huk, List.getD_eq_getElem?_getD, List.getElem?_eq_getElem hkU]; rfl)
          have hse : binOp .eql 9 (.string (str uk)) (.string (str uk)) = pure (.bool true) := by rw [binOp_string_eql]; simp
          have hee : binOp .eql 31 (.int .i64 0) (.int .i64 0) = pure (.bool true) := by rw [i_eql]; rfl
          have HPOS := hideIt hpos
          have HMU := hideIt hmL
          have hmm := @run_makeMap Tryd.prog
          clear hsm hS hfw hf1 hf2 hU hr hv hud hal hUe hvc hl hok hk hg hpos hn hUl HAG hul hULq hmL hVl hVr hVa hV huk
          go_enter Tryd.func6, Tryd.ntmps6
          go_wp2_with (first
            | (go_at_call 10; rw [← HWE.out]; refine HSM.out.mono ?_; rintro e w1 ⟨rfl, hb⟩; have G1 := hideIt hb; clear hb HSM) | ((with_reducible refine at_load ?_); refine wpList_ldC (by kernel_rfl) (.tmp 5) rfl (p := w.heap.size) (c := c0) rfl (by rw [← HWE.out]; exact HBC.out.box) ?_) | (go_at_call 22; refine (HFW.out _ G1.out).mono ?_; rintro e _ ⟨rfl, rfl⟩; clear HFW) | ((with_reducible refine at_load ?_); refine wpList_ldC (by kernel_rfl) (.tmp 5) rfl (p := w.heap.size) (c := c0) rfl (HBC.out.keep G1.out).box ?_)
            | (go_at_call 25; refine (HEN.out _ G1.out).mono ?_; rintro e w2 ⟨v2, rfl, ho, hb⟩; obtain ⟨g, cap, cs, rfl, hg1, hg2, hg3⟩ := own_blkN ho hNU; have G2 := hideIt (G1.out.trans (hb.mono G1.out.size)); have HU2 := hideIt hg2; have HCS := hideIt hg3; have HGL := hideIt (Nat.le_trans G1.out.size hg1); clear hb ho HEN hg1 hg2 hg3)
            | ((with_reducible refine at_load ?_); refine wpList_ldC (by kernel_rfl) (.tmp 5) rfl (p := w.heap.size) (c := c0) rfl (HBC.out.keep G2.out).box ?_)
            | (go_at_call 12; refine (HPA.out _ G2.out).mono ?_; rintro e w3 ⟨F3, c3, rfl, hs3, hlo, hb⟩; have G3 := hideIt (G2.out.trans (hb.mono G2.out.size)); have HS3 := hideIt hs3; have HLO := hideIt hlo; have HZ3 := hideIt hb.size; have HU3 := hideIt (HU2.out.kept hb HU2.out.lt); clear hs3 hlo hb HPA)
            | ((with_reducible refine at_store ?_); refine wpList_put rfl _ (.tmp 13) (.tmp 42) rfl w3.heap.size [.int .i64 (k : Int), .slice F3 L.length c3] [.int .i64 0, .slice none 0 0] 30 rfl rfl (Blk.new w3 30 [.int .i64 0, .slice none 0 0]) iszP rfl (by simp [Value.oneCell']) ?_; intro w4 ht hb; have hbl := ht.below (below_new w3 (.cells #[.int .i64 0, .slice none 0 0] 30)) (Nat.le_refl _); have G4 := hideIt (G3.out.trans (hbl.mono G3.out.size)); have HP4 := hideIt hb; have HS4 := hideIt ((HS3.out.below hbl).wide hbl.size); have hU4 := HU3.out.kept hbl HU3.out.lt; have HU4 := hideIt hU4; have hcw : w4.cell? ⟨g, k, none⟩ = some (.string (str uk)) := (hU4.cell k).trans (by have h5 := HKU.out; rw [← HCS.out, List.getElem?_take, if_pos hkU] at h5; exact h5); have HP5 := hideIt (hb.kept (below_new w4 (.map #[] 0)) hb.lt); have HS5 := hideIt ((HS4.out.below (below_new w4 (.map #[] 0))).wide (below_new w4 (.map #[] 0)).size); clear ht hb hbl HS3 hU4)
            | ((with_reducible refine at_load ?_); refine wpList_ldW (by kernel_rfl) (.tmp 13) rfl (p := w3.heap.size) rfl HP5.out ?_)
            | (go_at_call 18; refine (HRD.out _ _ _ HS5.out).mono ?_; rintro e w6 ⟨D, cd, rfl, hs6, hb6⟩; have HD6 := hideIt hs6; have HB6 := hideIt hb6; clear hs6 hb6 HRD HP5 HS5))
          obtain ⟨gD, oD, rfl, hgD, hcD⟩ := HD6.out.2 (by rw [List.length_map, zt_len]; exact HPOS.out)
          obtain ⟨b, hb0⟩ : ∃ b, b = w4.heap.size := ⟨_, rfl⟩
          obtain ⟨p3, hp3⟩ : ∃ p, p = w3.heap.size := ⟨_, rfl⟩
          have hcD2 : ∀ j (hj : j < L.length), w6.cell? ⟨gD, oD + j, none⟩ = some (.int .i64 (L[j].1 : Int)) := fun j hj => hcD j _ (by rw [List.getElem?_map, List.getElem?_eq_getElem (by rw [zt_len]; exact hj)]; simp)
          have hO6 : OI w6 w4.heap.size 0 (.map []) := OI.below (World.ownsMap_made w4 Tryd.prog 3 (plainElem Tryd.prog 4)) HB6.out
          have hne : gD ≠ b := fun e => by
            have h1 := hcD2 0 HPOS.out
            obtain ⟨es, clock, hh, _⟩ := hO6
            rw [e, hb0] at h1
            unfold World.cell? at h1
            simp [hh] at h1
          have HMI := hideIt (show MI w4 b gD oD L 0 w6 from ⟨(below_new w4 (.map #[] 0)).trans (HB6.out.mono (below_new w4 (.map #[] 0)).size), ⟨_, by rw [hb0]; exact hO6, SeenI.nil⟩, hcD2⟩)
          have HGB := hideIt (show g < b by have h1 := HU4.out.lt; omega)
          have HGP := hideIt (show g < p3 ∧ p3 < b by have h1 := HU2.out.lt; have h2 := HZ3.out; have h3 := HP4.out.lt; omega)
          rw [← hp3] at HP4
          rw [← hb0, ← hp3]
          have HB0B := hideIt hb0
          clear hcD hcD2 hO6 hgD hp3 hb0 hcw hmm hn1 hq1 hq2 HD6 HB6 HU3 G1 G2 G3 HKU
          go_loopg [67] L.length (fun gk s67 wr => ∃ i : Nat, i + gk = L.length ∧ s67 = .int .i64 (i : Int) ∧ Aside (MI w4 b gD oD L i wr))
          case atStart => exact ⟨0, by omega, rfl, HMI.out⟩
          case round =>
            obtain ⟨i, hi, rfl, HI⟩ := hrel
            obtain ⟨w7, rfl⟩ : ∃ x, x = wr := ⟨wr, rfl⟩
            by_cases hlt : i < L.length
            · have hinc := inc_c 3 i (by omega)
              have hji : (i : Int) < (L.length : Int) := by omega
              obtain ⟨hbel, ⟨Dm, hO, hSn⟩, hc⟩ := HI.out
              have hci := hc i hlt
              have HST := hideIt (fun (w2 : World) (hown : OI w2 b (i + 1) (Dm.put (.int .i64 (L[i].1 : Int)) (.lit (.bool true)))) (hgrow : w7.grownBy w2 (some b)) => show MI w4 b gD oD L (i + 1) w2 from
                ⟨hbel.grown hgrow hbel.size (fun j hj => by cases hj; have := HB0B.out; omega), ⟨_, hown, by rw [nsL_at hlt]; exact hSn.put⟩, fun j hj => (World.cell?_of_block (w := w7) (hgrow.block gD (World.block_lt_of_cell? w7 _ (hc j hj)) (fun e => by injection e with e; exact hne e))).trans (hc j hj)⟩)
              have HOM := hideIt hO
              have hLi : L[i].1 < U.length ∨ True := .inr trivial
              have HKEY := hideIt (fun (hq : (L[i].1 : Int) ≤ 9223372036854775807) => keyI (L[i].1 : Int) ⟨by omega, hq⟩)
              have HML := hideIt (HMU.out L[i] (List.getElem_mem hlt))
              generalize L[i].1 = q at *
              have HKEY := hideIt (HKEY.out (by have := HML.out; omega))
              clear hbel hO hSn hc hLi HML
              go_wp2_with (at_mapUpdate; refine wpList_mapUpdate_own _ rfl _ _ _ 51 rfl 3 4 lawI Tryd.underlying51 _ b i _ rfl HOM.out (by unfold maxLen; omega) _ _ _ rfl rfl HKEY.out _ [] (plainElem_bool Tryd.underlying4 true) ?_; intro w2 hown2 hgrow2; have HI2 := hideIt (HST.out w2 hown2 hgrow2); clear hown2 hgrow2)
              go_roundg (gk - 1)
              case measure => omega
              case rel => exact ⟨i + 1, by omega, by go_num, HI2.out⟩
            · have hji : ¬ (i : Int) < (L.length : Int) := by omega
              obtain rfl : i = L.length := by omega
              obtain ⟨hbel, ⟨Dm, hO, hSn⟩, _⟩ := HI.out
              rw [show L.length = (nsL L).length from (zt_len L).symm, List.take_length] at hSn
              have HB7 := hideIt hbel
              have HU7 := hideIt (HU4.out.kept hbel HU4.out.lt)
              have HLK := hideIt (fun (W : World) (hK : Keeps (fun q => q = g) w7 W) (j : Nat) (hj : j < U.length) => show (Instr.lookup 51 (.map (some b)) (.int .i64 (j : Int)) false).run Tryd.prog W = .ok (.bool (decide ((j : Int) ∈ nsL L))) W by
                have hlt := hO.lt
                obtain ⟨es, clock, hh, r⟩ := hO
                exact look_I ⟨es, clock, (hK.block b hlt (by have := HGB.out; omega)).trans hh, r⟩ hSn (j : Int) ⟨by omega, by omega⟩)
              have HUI := hideIt (show UI W0 w7 g (nsL L) l4 U 0 w7 from ⟨G4.out.trans (hbel.mono G4.out.size), Keeps.refl _ _, cs, HU7.out, by rw [junk_zero]; exact HCS.out⟩)
              clear hO hSn hbel HI HMI
              go_wp2_with fail
              go_loopg [76] U.length (fun gk s76 wr => ∃ i : Nat, i + gk = U.length ∧ s76 = .int .i64 (i : Int) ∧ Aside (UI W0 w7 g (nsL L) l4 U i wr))
              case atStart => exact ⟨0, by omega, rfl, HUI.out⟩
              case round =>
                obtain ⟨i, hi, rfl, HI⟩ := hrel
                obtain ⟨w8, rfl⟩ : ∃ x, x = wr := ⟨wr, rfl⟩
                by_cases hlt : i < U.length
                · have hinc := inc_c 3 i (by omega)
                  have hji2 : (i : Int) < (U.length : Int) := by omega
                  have hlook := HLK.out w8 HI.out.2.1 i hlt
                  by_cases hin : (i : Int) ∈ nsL L
                  · rw [decide_eq_true hin] at hlook
                    have HI2 := hideIt (HI.out.keep hin)
                    clear hin
                    go_wp2_with fail
                    go_roundg (gk - 1)
                    case measure => omega
                    case rel => exact ⟨i + 1, by omega, by go_num, HI2.out⟩
                  · rw [decide_eq_false hin] at hlook
                    have HI2 := hideIt (HI.out.set hin hlt HGL.out)
                    obtain ⟨⟨v0, hce⟩, hfr⟩ := HI.out.cell hlt
                    clear hin
                    go_wp2_with fail
                    go_roundg (gk - 1)
                    case measure => omega
                    case rel => exact ⟨i + 1, by omega, by go_num, HI2.out⟩
                · have hji2 : ¬ (i : Int) < (U.length : Int) := by omega
                  obtain rfl : i = U.length := by omega
                  obtain ⟨hG, hK, cs8, hb8, ht8⟩ := HI.out
                  rw [← HVE.out] at ht8
                  have G8 := hideIt hG
                  have HK4 := hideIt ((Keeps.of_below (T := fun q => q = g) HB7.out).trans hK)
                  have HV8 := hideIt (sl_take hb8 ht8 (by rw [List.length_map, HVE.out, junk_len]))
                  have HP8 := hideIt (show Blk w8 p3 30 [.int .i64 (k : Int), .slice F3 L.length c3] from (HK4.out.block p3 HP4.out.lt (by have := HGP.out; omega)).trans HP4.out)
                  have HF8 := hideIt (HS4.out.mv HK4.out.size fun b o hA ⟨_, _, _, hh⟩ _ => HK4.out.block b (Array.getElem?_eq_some_iff.1 hh).1 (by have h1 := HLO.out b o hA; have h2 := HU2.out.lt; omega))
                  clear hG hK hb8 ht8 HI HUI HLK
                  go_wp2_with (first
                    | ((with_reducible refine at_load ?_); refine wpList_ldC (by kernel_rfl) (.tmp 5) rfl (p := w.heap.size) (c := c0) rfl (HBC.out.keep G8.out).box ?_)
                    | ((with_reducible refine at_load ?_); refine wpList_ldW (by kernel_rfl) (.tmp 13) rfl (p := p3) rfl HP8.out ?_)
                    | (go_at_call 23; refine (HAP.out _ G8.out _ _ _ _ HF8.out HV8.out).mono ?_; rintro e w9 ⟨rfl, hb⟩; have G9 := hideIt (G8.out.trans (hb.mono G8.out.size)); clear hb HAP)
                    | (go_at_call 11; refine (HSA.out _ G9.out).mono ?_; rintro e wz ⟨rfl, hb⟩; have GZ := hideIt ((G9.out).trans (hb.mono (G9.out).size)); clear hb HSA))
                  go_ret
                  exact ⟨rfl, HB0.out.trans (GZ.out.mono HB0.out.size)⟩
        · have hn2 : binOp .neq 31 (.int .i64 er) (.int .i64 0) = pure (.bool true) := by rw [i_neq, decide_eq_true hf]
          clear hsm hS hfw hf1 hf2 hU hr hf
          go_enter Tryd.func6, Tryd.ntmps6
          go_wp2_with (first | (go_at_call 10; rw [← HWE.out]; refine HSM.out.mono ?_; rintro e w1 ⟨rfl, hb⟩; have G1 := hideIt hb; clear hb HSM) | ((with_reducible refine at_load ?_); refine wpList_ldC (by kernel_rfl) (.tmp 5) rfl (p := w.heap.size) (c := c0) rfl (by rw [← HWE.out]; exact HBC.out.box) ?_) | (go_at_call 22; refine (HFW.out _ G1.out).mono ?_; rintro e _ ⟨rfl, rfl⟩; clear HFW) | ((with_reducible refine at_load ?_); refine wpList_ldC (by kernel_rfl) (.tmp 5) rfl (p := w.heap.size) (c := c0) rfl (HBC.out.keep G1.out).box ?_) | (go_at_call 25; refine (HEN.out _ G1.out).mono ?_; rintro e w2 ⟨v2, rfl, ho, hb⟩; have G2 := hideIt (G1.out.trans (hb.mono G1.out.size)); clear hb ho HEN) | ((with_reducible refine at_load ?_); refine wpList_ldC (by kernel_rfl) (.tmp 5) rfl (p := w.heap.size) (c := c0) rfl (HBC.out.keep G2.out).box ?_) | (go_at_call 12; refine (HPA.out _ G2.out).mono ?_; rintro e w3 ⟨F3, c3, rfl, _, _, hb⟩; have G3 := hideIt (G2.out.trans (hb.mono G2.out.size)); clear hb HPA) | ((with_reducible refine at_store ?_); refine wpList_put rfl _ (.tmp 13) (.tmp 42) rfl w3.heap.size [.int .i64 pu, .slice F3 L.length c3] [.int .i64 0, .slice none 0 0] 30 rfl rfl (Blk.new w3 30 [.int .i64 0, .slice none 0 0]) iszP rfl (by simp [Value.oneCell']) ?_; intro w4 ht hb; have hbl := ht.below (below_new w3 (.cells #[.int .i64 0, .slice none 0 0] 30)) (Nat.le_refl _); have G4 := hideIt (G3.out.trans (hbl.mono G3.out.size)); clear ht hb hbl) | (go_at_call 11; refine (HSA.out _ G4.out).mono ?_; rintro e wz ⟨rfl, hb⟩; have GZ := hideIt ((G4.out).trans (hb.mono (G4.out).size)); clear hb HSA))
          go_ret
          exact ⟨rfl, HB0.out.trans (GZ.out.mono HB0.out.size)⟩
      · have hn1 : binOp .neq 31 (.int .i64 eu) (.int .i64 0) = pure (.bool true) := by rw [i_neq, decide_eq_true he]
        clear hsm hS hfw hf1 hf2 hU hr he
        go_enter Tryd.func6, Tryd.ntmps6
        go_wp2_with (first | (go_at_call 10; rw [← HWE.out]; refine HSM.out.mono ?_; rintro e w1 ⟨rfl, hb⟩; have G1 := hideIt hb; clear hb HSM) | ((with_reducible refine at_load ?_); refine wpList_ldC (by kernel_rfl) (.tmp 5) rfl (p := w.heap.size) (c := c0) rfl (by rw [← HWE.out]; exact HBC.out.box) ?_) | (go_at_call 22; refine (HFW.out _ G1.out).mono ?_; rintro e _ ⟨rfl, rfl⟩; clear HFW) | ((with_reducible refine at_load ?_); refine wpList_ldC (by kernel_rfl) (.tmp 5) rfl (p := w.heap.size) (c := c0) rfl (HBC.out.keep G1.out).box ?_) | (go_at_call 25; refine (HEN.out _ G1.out).mono ?_; rintro e w2 ⟨v2, rfl, ho, hb⟩; have G2 := hideIt (G1.out.trans (hb.mono G1.out.size)); clear hb ho HEN) | ((with_reducible refine at_load ?_); refine wpList_ldC (by kernel_rfl) (.tmp 5) rfl (p := w.heap.size) (c := c0) rfl (HBC.out.keep G2.out).box ?_) | (go_at_call 12; refine (HPA.out _ G2.out).mono ?_; rintro e w3 ⟨F3, c3, rfl, _, _, hb⟩; have G3 := hideIt (G2.out.trans (hb.mono G2.out.size)); clear hb HPA) | ((with_reducible refine at_store ?_); refine wpList_put rfl _ (.tmp 13) (.tmp 42) rfl w3.heap.size [.int .i64 pu, .slice F3 L.length c3] [.int .i64 0, .slice none 0 0] 30 rfl rfl (Blk.new w3 30 [.int .i64 0, .slice none 0 0]) iszP rfl (by simp [Value.oneCell']) ?_; intro w4 ht hb; have hbl := ht.below (below_new w3 (.cells #[.int .i64 0, .slice none 0 0] 30)) (Nat.le_refl _); have G4 := hideIt (G3.out.trans (hbl.mono G3.out.size)); clear ht hb hbl) | (go_at_call 11; refine (HSA.out _ G4.out).mono ?_; rintro e wz ⟨rfl, hb⟩; have GZ := hideIt ((G4.out).trans (hb.mono (G4.out).size)); clear hb HSA))
        go_ret
        exact ⟨rfl, HB0.out.trans (GZ.out.mono HB0.out.size)⟩
    · have hf : fewB l1 = false := Bool.eq_false_iff.2 hfw
      rw [hf] at HFW
      clear hsm hS hfw hf
      go_enter Tryd.func6, Tryd.ntmps6
      go_wp2_with (first | (go_at_call 10; rw [← HWE.out]; refine HSM.out.mono ?_; rintro e w1 ⟨rfl, hb⟩; have G1 := hideIt hb; clear hb HSM) | ((with_reducible refine at_load ?_); refine wpList_ldC (by kernel_rfl) (.tmp 5) rfl (p := w.heap.size) (c := c0) rfl (by rw [← HWE.out]; exact HBC.out.box) ?_) | (go_at_call 22; refine (HFW.out _ G1.out).mono ?_; rintro e _ ⟨rfl, rfl⟩; clear HFW) | (go_at_call 11; refine (HSA.out _ G1.out).mono ?_; rintro e wz ⟨rfl, hb⟩; have GZ := hideIt ((G1.out).trans (hb.mono (G1.out).size)); clear hb HSA))
      go_ret
      exact ⟨rfl, HB0.out.trans (GZ.out.mono HB0.out.size)⟩
  · have hf : smB a0 = false := Bool.eq_false_iff.2 hsm
    rw [hf] at HSM
    clear hsm hf
    go_enter Tryd.func6, Tryd.ntmps6
    go_wp2_with (first | (go_at_call 10; rw [← HWE.out]; refine HSM.out.mono ?_; rintro e w1 ⟨rfl, hb⟩; have G1 := hideIt hb; clear hb HSM) | ((with_reducible refine at_load ?_); refine wpList_ldC (by kernel_rfl) (.tmp 5) rfl (p := w.heap.size) (c := c0) rfl (by rw [← HWE.out]; exact HBC.out.box) ?_) | (go_at_call 11; refine (HSA.out _ G1.out).mono ?_; rintro e wz ⟨rfl, hb⟩; have GZ := hideIt ((G1.out).trans (hb.mono (G1.out).size)); clear hb HSA))
    go_ret
    exact ⟨rfl, HB0.out.trans (GZ.out.mono HB0.out.size)⟩

end Go.Proofs.YtklngodlijiccaaDoor.repairRebuilds
