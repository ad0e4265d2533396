/-
  Combine, walked.
-/
import Derived.Test.YtihepogccgcfkaaDoorFldY
namespace Go.Proofs.YtihepogccgcfkaaDoor
open Go.RowKit Go.Shelf
set_option linter.unusedVariables false

theorem addb_n (n : Nat) (a b : List UInt8) (ha : a.length = n) (hb : b.length = n) (hl : n ≤ 100000) (g g2 c c2 : Nat) (w : World) (hr : BRow w g a) (hs : BRow w g2 b) (hne : g2 ≠ g) :
    Calls Tryd.prog 37 #[.slice (some ⟨g, 0, none⟩) n c, .slice (some ⟨g2, 0, none⟩) n c2] w fun e w' => e = .returned (.tuple #[]) ∧ BRow w' g (xr a b) ∧ Keeps (fun k => k = g) w w' := by
  have h := addb_any a b (ha.trans hb.symm) (by omega) g c w hr (some ⟨g2, 0, none⟩) c2 hs.sl (fun k o h => by injection h with h; injection h with h; rw [← h]; exact hne)
  rw [ha, hb] at h
  exact h
theorem cmbF_snoc (m c : Nat) (u : List UInt8) : ∀ (l : List (Nat × List UInt8)) (acc : List UInt8), cmbF m acc (l ++ [(c, u)]) = xr (cmbF m acc l) (sc m c u)
  | [], _ => rfl
  | (c', u') :: l, acc => by
    show cmbF m (xr acc (sc m c' u')) (l ++ [(c, u)]) = _
    rw [cmbF_snoc m c u l]
    rfl
/-- Coefficients and units in pairs. -/
def prs (cs : List Int) (us : List (List UInt8)) : List (Nat × List UInt8) := (cs.map Int.toNat).zip us
theorem prs_len (cs : List Int) (us : List (List UInt8)) (h : cs.length = us.length) : (prs cs us).length = us.length := by
  unfold prs; rw [List.length_zip, List.length_map, h, Nat.min_self]
theorem prs_at (cs : List Int) (us : List (List UInt8)) (h : cs.length = us.length) (j : Nat) (hj : j < us.length) : (prs cs us).take (j + 1) = (prs cs us).take j ++ [((cs[j]'(by omega)).toNat, us[j])] := by
  rw [take_snoc _ j (by rw [prs_len cs us h]; exact hj)]
  congr 2
  unfold prs
  rw [List.getElem_zip, List.getElem_map]
/-- The combination of the first j units. -/
def cmbK (m : Nat) (cs : List Int) (us : List (List UInt8)) (j : Nat) : List UInt8 := cmbF m (List.replicate (ul us) 0) ((prs cs us).take j)
theorem cmbK_zero (m : Nat) (cs : List Int) (us : List (List UInt8)) : cmbK m cs us 0 = List.replicate (ul us) 0 := rfl
theorem cmbK_next (m : Nat) (cs : List Int) (us : List (List UInt8)) (h : cs.length = us.length) (j : Nat) (hj : j < us.length) : cmbK m cs us (j + 1) = xr (cmbK m cs us j) (sc m (cs[j]'(by omega)).toNat us[j]) := by
  unfold cmbK
  rw [prs_at cs us h j hj, cmbF_snoc]
theorem cmbK_len {m : Nat} (hm : Fm m) (cs : List Int) (us : List (List UInt8)) (hu : ∀ u ∈ us, u.length = ul us) (hw : ul us % (m / 8) = 0) (j : Nat) : (cmbK m cs us j).length = ul us := by
  unfold cmbK
  rw [cmb_len hm _ _ (by unfold whl; rw [List.length_replicate]; exact hw) (fun p hp => by
    rw [List.length_replicate]
    exact hu p.2 (List.of_mem_zip (show (p.1, p.2) ∈ (cs.map Int.toNat).zip us from List.mem_of_mem_take hp)).2), List.length_replicate]
/-- What Combine answers. -/
def cbS (m : Int) (cs : List Int) (us : List (List UInt8)) : List UInt8 := if Gd m cs us then cmbK m.toNat cs us us.length else []
def cbE (m : Int) (cs : List Int) (us : List (List UInt8)) : Int := if Gd m cs us then 0 else 1
theorem zeros_bv (n : Nat) : List.replicate n (Value.int .u8 0) = (List.replicate n (0 : UInt8)).map bv := by
  rw [List.map_replicate]; rfl

set_option maxHeartbeats 1000000 in
set_option maxRecDepth 100000 in
theorem combine_any (m : Int) (A : Option Addr) (ca : Nat) (cs : List Int) (D : Option Addr) (cd : Nat) (us : List (List UInt8)) (w : World) (hT : Tabs w) (hl : cs.length ≤ 100000) (hlu : ul us ≤ 100000)
    (hc : Sl w w.heap.size A 1 cs.length (cs.map iv)) (hu : Sl w w.heap.size D 1 us.length (us.map sv)) :
    Calls Tryd.prog 22 #[.int .i64 m, .slice A cs.length ca, .slice D us.length cd] w fun e w' => e = .returned (.tuple #[.string (str (cbS m cs us)), .int .i64 (cbE m cs us)]) ∧ Below w.heap.size w w' := by
  have HC := hideIt (combinable_any m A ca cs D cd us w hT hl hc hu)
  by_cases hg : Gd m cs us
  · rw [cbS, cbE, if_pos hg, if_pos hg]
    rw [decide_eq_true hg] at HC
    obtain ⟨h0, h1, hv, hul, hwh⟩ := hg
    obtain ⟨k, x0, rfl, hx0, hm, _⟩ := vd_spec (hv cs[0] (List.getElem_mem h0))
    rw [Int.toNat_natCast] at hwh ⊢
    have h2 : 0 < us.length := by omega
    obtain ⟨bc, oc, rfl, hbc, hcc⟩ := hc.nums h0
    obtain ⟨bu, ou, rfl, hbu, hcu⟩ := hu.strs h2
    rw [h1] at HC ⊢
    obtain ⟨i0, hi, hz0, hz1, hz2⟩ := info_parts (show (Tryd.prog.info? 5).map (fun i => (i.zero, i.size, i.bytes)) = some (some (Value.int .u8 0), 1, 1) by kernel_rfl)
    have HI0 := hideIt hi
    have HZ0 := hideIt hz0
    have HZ1 := hideIt hz1
    have HZ2 := hideIt hz2
    have HT := hideIt hT
    have HCC := hideIt hcc
    have HCU := hideIt hcu
    have HBC := hideIt hbc
    have HBU := hideIt hbu
    have HN := hideIt h1
    have HL := hideIt hl
    have HM := hideIt hm
    have HV := hideIt hv
    have HUL := hideIt hul
    have HWH := hideIt hwh
    have HLU := hideIt hlu
    have hc0 : ∀ W, Below w.heap.size w W → W.cell? ⟨bu, ou, none⟩ = some (.string (str us[0])) := fun W hW => (hW.cell (p := ⟨bu, ou + 0, none⟩) hbu).trans (hcu 0 h2)
    have HC0 := hideIt hc0
    have hsz0 := str_size us[0]
    rw [ul_zero us h2] at hsz0
    generalize str us[0] = s0 at *
    clear hx0
    obtain ⟨n, hn⟩ : ∃ n, n = us.length := ⟨_, rfl⟩
    have hn0 : (0 : Int) < (n : Int) := by omega
    rw [← hn] at HC ⊢
    have HNN := hideIt hn
    obtain ⟨q, hq⟩ : ∃ q, q = ul us := ⟨_, rfl⟩
    rw [← hq] at hsz0
    have HQ := hideIt hq
    obtain ⟨z, hz⟩ : ∃ z, z = str (cmbK k cs us n) := ⟨_, rfl⟩
    rw [← hz]
    have HZ := hideIt hz
    clear hz hT hcc hcu hbc hbu h1 hl hn h2 hc hu h0 hm hv hul hwh hi hz0 hz1 hz2 hc0 hq hlu
    go_enter Tryd.func22, Tryd.ntmps22
    go_wp2_with (first
      | (go_at_call 36; refine HC.out.mono ?_; rintro e w1 ⟨rfl, hb⟩; have HB1 := hideIt hb; have hcell := HC0.out w1 hb; clear hb)
      | ((with_reducible refine at_make ?_); refine wpList_make_full w1 rfl (.tmp 19) (.tmp 19) 51 rfl w1.heap.size 5 i0 (.int .u8 0) 1 Tryd.underlying51 HI0.out HZ0.out HZ1.out .i64 .i64 (q : Int) (q : Int) q rfl rfl rfl rfl (by rw [HZ2.out]; have := HLU.out; have := HQ.out; omega) (by have := HLU.out; have := HQ.out; unfold maxLen; omega) (Nat.le_refl _) ?_; intro w2 hown2 hgr2; have HO2 := hideIt hown2; have HG2 := hideIt ((Below.refl w1.heap.size w1).grown hgr2 (Nat.le_refl _) (by simp)); clear hown2 hgr2))
    have HR2 := hideIt (brow_of_own (l := List.replicate q 0) (by have h := HO2.out; rw [Nat.mul_one, show (madeCells (Value.int .u8 0).cells q).toList = List.replicate q (.int .u8 0) from toList_madeCells_one _ q, zeros_bv] at h; exact h))
    obtain ⟨g, hg⟩ : ∃ g, g = w1.heap.size := ⟨_, rfl⟩
    rw [← hg] at HR2 ⊢
    have HGG := hideIt (show w.heap.size ≤ g by rw [hg]; exact HB1.out.size)
    have HB2 := hideIt (HB1.out.trans (HG2.out.mono HB1.out.size))
    clear hg HO2 HG2 HB1 hcell HC0 hsz0 HC
    go_loopg [23] n (fun gg s23 wr => ∃ j : Nat, j + gg = n ∧ s23 = .int .i64 (j : Int) ∧ Aside (Below w.heap.size w wr ∧ BRow wr g (cmbK k cs us j)))
    case atStart => exact ⟨0, by omega, rfl, HB2.out, by rw [cmbK_zero, ← HQ.out]; exact HR2.out⟩
    case round =>
      obtain ⟨j, hj, rfl, HA⟩ := hrel
      by_cases hlt : j < n
      · have hju : j < us.length := by rw [← HNN.out]; exact hlt
        have hjc : j < cs.length := by rw [HN.out]; exact hju
        have hc1 := (HA.out.1.cell (p := ⟨bc, oc + j, none⟩) HBC.out).trans (HCC.out j hjc)
        have hc2 := (HA.out.1.cell (p := ⟨bu, ou + j, none⟩) HBU.out).trans (HCU.out j hju)
        have hnx := cmbK_next k cs us HN.out j hju
        have hlen := cmbK_len HM.out cs us HUL.out HWH.out j
        have hul := HUL.out us[j] (List.getElem_mem hju)
        have hvj := HV.out cs[j] (List.getElem_mem hjc)
        generalize cs[j] = c at *
        generalize us[j] = u at *
        obtain ⟨k2, x, hk2, rfl, _, hx⟩ := vd_spec hvj
        obtain rfl : k = k2 := by omega
        have hwu : whl k u := by unfold whl; rw [hul]; exact HWH.out
        have hsl := sc_len HM.out x u hwu
        rw [Int.toNat_natCast] at hnx
        have HP := hideIt (products_any k x u HM.out hx hwu (by rw [hul]; exact HLU.out) wr (HT.out.keep HA.out.1))
        have HAD := hideIt (fun W g2 c2 (h1 : BRow W g (cmbK k cs us j)) (h2 : BRow W g2 (sc k x u)) (h3 : g2 ≠ g) => addb_n q (cmbK k cs us j) (sc k x u) (hlen.trans HQ.out.symm) (hsl.trans (hul.trans HQ.out.symm)) (by rw [HQ.out]; exact HLU.out) g g2 q c2 W h1 h2 h3)
        rw [hul, ← HQ.out] at HP
        have HNX := hideIt hnx
        have hinc := inc_c 3 j (by have := HL.out; have := HN.out; have := HNN.out; omega)
        have hji : (j : Int) < (n : Int) := by omega
        generalize str u = su at *
        clear hnx hlen hul hwu hsl hx hju hjc hk2 hvj
        go_wp2_with (first
          | (go_at_call 38; refine HP.out.mono ?_; rintro e w3 ⟨g2, rfl, hg2, ho, hb⟩; have HO3 := hideIt (brow_of_own ho); have HB3 := hideIt hb; have HG2 := hideIt hg2; clear hg2 ho hb)
          | (go_at_call 37; refine (HAD.out w3 g2 q (HA.out.2.kept HB3.out HA.out.2.lt) HO3.out (by have := HA.out.2.lt; have := HG2.out; omega)).mono ?_; rintro e w4 ⟨rfl, hr, hk⟩; have HR4 := hideIt hr; have HK4 := hideIt hk; clear hr hk))
        go_roundg (gk - 1)
        case measure => omega
        case rel =>
          refine ⟨j + 1, by omega, by go_num, ?_, by rw [HNX.out]; exact HR4.out⟩
          have h5 := HA.out.1.trans (HB3.out.mono HA.out.1.size)
          exact h5.trans (HK4.out.below h5.size (fun kk hk he => by have := HGG.out; omega))
      · obtain rfl : j = n := by omega
        have hji : ¬ (j : Int) < (j : Int) := by omega
        have hcs := conv_bytes (P := Tryd.prog) (c := q) Tryd.underlying51 Tryd.underlying5 Tryd.underlying9 HA.out.2.sl
        rw [cmbK_len HM.out cs us HUL.out HWH.out j, ← HQ.out] at hcs
        change (convert 51 9 (.slice (some ⟨g, 0, none⟩) q q)).run Tryd.prog wr = .ok (.string (str (cmbK k cs us j))) wr at hcs
        rw [← HZ.out] at hcs
        go_wp2_with fail
        go_ret2
        exact ⟨rfl, HA.out.1⟩
  · rw [cbS, cbE, if_neg hg, if_neg hg]
    rw [decide_eq_false hg] at HC
    clear hg hT hc hu hl hlu
    generalize cs.length = n at *
    generalize us.length = k at *
    go_enter Tryd.func22, Tryd.ntmps22
    go_wp2_with (go_at_call 36; refine HC.out.mono ?_; rintro e w1 ⟨rfl, hb⟩; have HB := hideIt hb; clear hb)
    go_ret2
    exact ⟨rfl, HB.out⟩

end Go.Proofs.YtihepogccgcfkaaDoor
