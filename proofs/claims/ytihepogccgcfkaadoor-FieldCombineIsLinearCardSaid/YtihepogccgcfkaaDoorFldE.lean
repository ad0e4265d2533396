/-
  The reference's Combine, walked.
-/
import Derived.Test.YtihepogccgcfkaaDoorFldV
namespace Go.Proofs.YtihepogccgcfkaaDoor
open Go.RowKit Go.Shelf
set_option linter.unusedVariables false

/-- A region that draws its order, and whose callees leave what lies below B as it was: one walk. -/
theorem wp_region_quiet_below {P : Program} {id : Nat} {Q : Exit → Act → World → Prop} {a : Act} {w w0 : World} {B : Nat} {l : List Oper} (hm : P.follows .mixedOrders = true) (hB : Region.lexB .any l.toArray = true) (hC : Below B w0 w)
    (h : wpQuiet P l.toArray (fun w' => Below B w0 w') (fun a' => ∀ w', Below B w0 w' → Q .normal a' w') l a) : (Code.region id l.toArray true).wp P Q a w :=
  wp_region_quiet (C := fun w' => Below B w0 w') hm hB hC.drew (by simpa using h)
theorem quiet_run {P : Program} {o : Oper} {a : Act} {C : World → Prop} {K : Act → Prop} (v : Value) (h : ∀ W, C W → (execOp a.eval o).run P W = .ok (.value v) W) (hk : K (a.put o.dst v)) : o.quiet P a C K :=
  ⟨v, fun W hW => by unfold Oper.quietAt; rw [h W hW]; exact ⟨rfl, rfl⟩, hk⟩

set_option maxHeartbeats 400000 in
theorem rscale_any (m c : Int) (l : List UInt8) (hl : l.length ≤ 100000) (w : World) :
    Calls Tryd.prog 25 #[.int .i64 m, .int .i64 c, .string (str l)] w fun e w' => e = .returned (.tuple #[.string (str (scR m c l)), .int .i64 (scE m c l)]) ∧ Below w.heap.size w w' := by
  by_cases hv : vd m c = true
  · obtain ⟨k, x, rfl, rfl, hm, hx⟩ := vd_spec hv
    by_cases hw : l.length % (k / 8) = 0
    · rw [scR, scE, if_pos ⟨hv, hw⟩, if_pos ⟨hv, hw⟩, Int.toNat_natCast, Int.toNat_natCast]
      rcases hm with rfl | rfl
      · exact rscale8 x l hx hl w
      · exact rscale16 x l hx hw hl w
    · rw [scR, scE, if_neg (fun h => hw h.2), if_neg (fun h => hw h.2)]
      have HV := hideIt (fun W => rvalid_any k x W)
      rw [hv] at HV
      have hsz := str_size l
      rcases hm with rfl | rfl
      · omega
      · have hr2 := rem2_one 3 l.length (by omega)
        clear hv hw hx hl
        generalize str l = s at *
        generalize l.length = n at *
        change Hid (∀ W, Calls Tryd.prog 21 #[.int .i64 16, .int .i64 (x : Int)] W fun e w' => e = .returned (.bool true) ∧ W = w') at HV
        show Calls Tryd.prog 25 #[.int .i64 16, .int .i64 (x : Int), .string s] w _
        go_enter Tryd.func25, Tryd.ntmps25
        go_wp2_with (go_at_call 21; refine (HV.out _).mono ?_; rintro e w' ⟨rfl, rfl⟩)
        go_ret2
        exact ⟨rfl, Below.refl _ _⟩
  · rw [scR, scE, if_neg (fun h => hv h.1), if_neg (fun h => hv h.1)]
    have HV := hideIt (fun W => rvalid_any m c W)
    rw [Bool.eq_false_iff.2 hv] at HV
    clear hv hl
    generalize str l = s at *
    go_enter Tryd.func25, Tryd.ntmps25
    go_wp2_with (go_at_call 21; refine (HV.out _).mono ?_; rintro e w' ⟨rfl, rfl⟩)
    go_ret2
    exact ⟨rfl, Below.refl _ _⟩

/-- Are the first j coefficients and units good? -/
def GdK (m : Int) (cs : List Int) (us : List (List UInt8)) (j : Nat) : Prop := (∀ c ∈ cs.take j, vd m c = true) ∧ (∀ u ∈ us.take j, u.length = ul us) ∧ (0 < j → ul us % (m.toNat / 8) = 0)
theorem prs_mem (cs : List Int) (us : List (List UInt8)) (j : Nat) (p : Nat × List UInt8) (h : p ∈ (prs cs us).take j) : p.2 ∈ us.take j := by
  unfold prs at h
  rw [List.zip, List.take_zipWith] at h
  exact (List.of_mem_zip (show (p.1, p.2) ∈ ((cs.map Int.toNat).take j).zip (us.take j) from h)).2
theorem cmbK_lenK {m : Int} (cs : List Int) (us : List (List UInt8)) (h : cs.length = us.length) (j : Nat) (hj : j ≤ us.length) (hg : GdK m cs us j) : (cmbK m.toNat cs us j).length = ul us := by
  rcases Nat.eq_zero_or_pos j with rfl | h0
  · rw [cmbK_zero, List.length_replicate]
  · have hc : cs[0]'(by omega) ∈ cs.take j := by
      have h3 := List.getElem_mem (l := cs.take j) (n := 0) (by rw [List.length_take]; omega)
      rwa [List.getElem_take] at h3
    obtain ⟨k, x, rfl, _, hm, _⟩ := vd_spec (hg.1 _ hc)
    unfold cmbK
    rw [Int.toNat_natCast]
    have hw := hg.2.2 h0
    rw [Int.toNat_natCast] at hw
    rw [cmb_len hm _ _ (by unfold whl; rw [List.length_replicate]; exact hw) (fun p hp => by
      rw [List.length_replicate]
      exact hg.2.1 p.2 (prs_mem cs us j p hp)), List.length_replicate]
theorem GdK_next {m : Int} {cs : List Int} {us : List (List UInt8)} {j : Nat} (hg : GdK m cs us j) (h1 : j < cs.length) (h2 : j < us.length) (hv : vd m cs[j] = true) (hl : us[j].length = ul us) (hw : us[j].length % (m.toNat / 8) = 0) : GdK m cs us (j + 1) := by
  refine ⟨?_, ?_, fun _ => by rw [← hl]; exact hw⟩
  · rw [take_snoc cs j h1]
    intro c hc
    rcases List.mem_append.1 hc with h | h
    · exact hg.1 c h
    · rw [List.mem_singleton] at h; rw [h]; exact hv
  · rw [take_snoc us j h2]
    intro c hc
    rcases List.mem_append.1 hc with h | h
    · exact hg.2.1 c h
    · rw [List.mem_singleton] at h; rw [h]; exact hl
theorem GdK_all {m : Int} {cs : List Int} {us : List (List UInt8)} (h : cs.length = us.length) (h0 : 0 < us.length) (hg : GdK m cs us us.length) : Gd m cs us := by
  obtain ⟨a, b, c⟩ := hg
  rw [List.take_of_length_le (by omega)] at a
  rw [List.take_of_length_le (by omega)] at b
  exact ⟨by omega, h, a, b, c h0⟩

set_option maxHeartbeats 1000000 in
set_option maxRecDepth 100000 in
theorem rcombine_any (m : Int) (A : Option Addr) (ca : Nat) (cs : List Int) (D : Option Addr) (cd : Nat) (us : List (List UInt8)) (w : World) (hl : cs.length ≤ 100000) (hlu : ∀ u ∈ us, u.length ≤ 100000)
    (hc : Sl w w.heap.size A 1 cs.length (cs.map iv)) (hu : Sl w w.heap.size D 1 us.length (us.map sv)) :
    Calls Tryd.prog 23 #[.int .i64 m, .slice A cs.length ca, .slice D us.length cd] w fun e w' => e = .returned (.tuple #[.string (str (cbS m cs us)), .int .i64 (cbE m cs us)]) ∧ Below w.heap.size w w' := by
  by_cases h0 : cs.length = 0
  · rw [cbS, cbE, if_neg (fun h => by have := h.1; omega), if_neg (fun h => by have := h.1; omega)]
    have hq := int_eqlT 3 (a := (cs.length : Int)) (b := 0) (by omega)
    clear hc hu hl hlu h0
    generalize cs.length = n at *
    generalize us.length = k at *
    go_enter Tryd.func23, Tryd.ntmps23
    go_wp2_with fail
    go_ret2
    exact ⟨rfl, Below.refl _ _⟩
  have hq := int_eqlF 3 (a := (cs.length : Int)) (b := 0) (by omega)
  by_cases h1 : cs.length = us.length
  · have hq2 := neqF 3 us.length
    have h2 : 0 < us.length := by omega
    obtain ⟨bc, oc, rfl, hbc, hcc⟩ := hc.nums (by omega)
    obtain ⟨bu, ou, rfl, hbu, hcu⟩ := hu.strs h2
    rw [h1] at hq hl ⊢
    obtain ⟨i0, hi, hz0, hz1, hz2⟩ := info_parts (show (Tryd.prog.info? 5).map (fun i => (i.zero, i.size, i.bytes)) = some (some (Value.int .u8 0), 1, 1) by kernel_rfl)
    have HI0 := hideIt hi
    have HZ0 := hideIt hz0
    have HZ1 := hideIt hz1
    have HZ2 := hideIt hz2
    have HCC := hideIt hcc
    have HCU := hideIt hcu
    have HBC := hideIt hbc
    have HBU := hideIt hbu
    have HN := hideIt h1
    have HL := hideIt hl
    have HLU := hideIt hlu
    have hcell : w.cell? ⟨bu, ou, none⟩ = some (.string (str us[0])) := hcu 0 h2
    have hsz0 := str_size us[0]
    rw [ul_zero us h2] at hsz0
    have HQ1 := hideIt (show ul us ≤ 100000 by rw [← ul_zero us h2]; exact hlu _ (List.getElem_mem h2))
    generalize str us[0] = s0 at *
    obtain ⟨n, hn⟩ : ∃ n, n = us.length := ⟨_, rfl⟩
    have hn0 : (0 : Int) < (n : Int) := by omega
    rw [← hn] at hq hq2 ⊢
    have HNN := hideIt hn
    obtain ⟨q, hq3⟩ : ∃ q, q = ul us := ⟨_, rfl⟩
    rw [← hq3] at hsz0
    have HQ := hideIt hq3
    obtain ⟨z, hz⟩ : ∃ z, z = str (cbS m cs us) := ⟨_, rfl⟩
    obtain ⟨ze, hze⟩ : ∃ ze, ze = cbE m cs us := ⟨_, rfl⟩
    rw [← hz, ← hze]
    have HBAD := hideIt (show ¬ Gd m cs us → z = str [] ∧ ze = 1 from fun h => by rw [hz, hze, cbS, cbE, if_neg h, if_neg h]; exact ⟨rfl, rfl⟩)
    have HGOOD := hideIt (show Gd m cs us → z = str (cmbK m.toNat cs us n) ∧ ze = 0 from fun h => by rw [hz, hze, cbS, cbE, if_pos h, if_pos h, hn]; exact ⟨rfl, rfl⟩)
    clear hz hze hcc hcu hbc hbu h1 hl hlu hn h2 hc hu h0 hi hz0 hz1 hz2 hq3
    go_enter Tryd.func23, Tryd.ntmps23
    go_wp2_with ((with_reducible refine at_make ?_); refine wpList_make_full w rfl (.tmp 27) (.tmp 27) 51 rfl w.heap.size 5 i0 (.int .u8 0) 1 Tryd.underlying51 HI0.out HZ0.out HZ1.out .i64 .i64 (q : Int) (q : Int) q rfl rfl rfl rfl (by rw [HZ2.out]; have := HQ1.out; have := HQ.out; omega) (by have := HQ1.out; have := HQ.out; unfold maxLen; omega) (Nat.le_refl _) ?_; intro w2 hown2 hgr2; rw [Nat.mul_one, show (madeCells (Value.int .u8 0).cells q).toList = List.replicate q (.int .u8 0) from toList_madeCells_one _ q, zeros_bv] at hown2; have HB2 := hideIt ((Below.refl w.heap.size w).grown hgr2 (Nat.le_refl _) (by simp)); have hcs := conv_own (by rw [List.length_replicate]) hown2; clear hown2 hgr2)
    clear hcell hsz0 hcs
    go_loopg [8, 9] n (fun gg s8 s9 wr => ∃ j : Nat, j + gg = n ∧ s8 = .string (str (cmbK m.toNat cs us j)) ∧ s9 = .int .i64 (j : Int) ∧ Aside (Below w.heap.size w wr ∧ GdK m cs us j))
    case atStart => exact ⟨0, by omega, by rw [cmbK_zero, ← HQ.out], rfl, HB2.out, by simp, by simp, fun h => by omega⟩
    case round =>
      obtain ⟨j, hj, rfl, rfl, HA⟩ := hrel
      by_cases hlt : j < n
      · have hju : j < us.length := by rw [← HNN.out]; exact hlt
        have hjc : j < cs.length := by rw [HN.out]; exact hju
        have HC1 := hideIt (show ∀ W, Below wr.heap.size wr W → W.cell? ⟨bc, oc + j, none⟩ = some (.int .i64 cs[j]) from fun W hW => ((HA.out.1.trans (hW.mono HA.out.1.size)).cell (p := ⟨bc, oc + j, none⟩) HBC.out).trans (HCC.out j hjc))
        have HC2 := hideIt (show ∀ W, Below wr.heap.size wr W → W.cell? ⟨bu, ou + j, none⟩ = some (.string (str us[j])) from fun W hW => ((HA.out.1.trans (hW.mono HA.out.1.size)).cell (p := ⟨bu, ou + j, none⟩) HBU.out).trans (HCU.out j hju))
        have hnx := cmbK_next m.toNat cs us HN.out j hju
        have hlen := cmbK_lenK cs us HN.out j (by omega) HA.out.2
        have hlu := HLU.out us[j] (List.getElem_mem hju)
        have HS := hideIt (fun W (hW : Below wr.heap.size wr W) => rscale_any m cs[j] us[j] hlu W)
        have HX := hideIt (fun W => rxor_any (cmbK m.toNat cs us j) (scR m cs[j] us[j]) (by rw [hlen]; exact HQ1.out) W)
        have hinc := inc_c 3 j (by have := HL.out; have := HNN.out; omega)
        have hji : (j : Int) < (n : Int) := by omega
        by_cases hok : vd m cs[j] = true ∧ us[j].length % (m.toNat / 8) = 0
        · rw [scR, scE, if_pos hok, if_pos hok] at HS
          rw [scR, if_pos hok] at HX
          have hsl : (sc m.toNat cs[j].toNat us[j]).length = us[j].length := by
            obtain ⟨k, x, hk, _, hm, _⟩ := vd_spec hok.1
            rw [hk, Int.toNat_natCast] at hok ⊢
            exact sc_len hm _ _ hok.2
          by_cases hle : us[j].length = ul us
          · rw [xrS, xrE, if_pos (by rw [hlen, hsl, hle]), if_pos (by rw [hlen, hsl, hle]), ← hnx] at HX
            have HG := hideIt (GdK_next HA.out.2 hjc hju hok.1 hle hok.2)
            clear hsl hok hle hnx hlen hlu
            obtain ⟨o2, ho2⟩ : ∃ o2, o2 = str (cmbK m.toNat cs us (j + 1)) := ⟨_, rfl⟩
            rw [← ho2] at HX
            have HO2 := hideIt ho2
            clear ho2
            generalize str (sc m.toNat cs[j].toNat us[j]) = x at *
            generalize str (cmbK m.toNat cs us j) = o1 at *
            generalize str us[j] = su at *
            generalize cs[j] = c at *
            clear hju hjc
            go_wp2_with fail
            refine wp_region_quiet_below (by kernel_rfl) (by kernel_rfl) (Below.refl wr.heap.size wr) ?_
            try simp only [Act.put]
            try simp only [List.setIfInBounds_toArray]
            try simp only [List.set_cons_succ]
            try simp only [List.set_cons_zero]
            go_big_quiet_step ((first | (intro _; rfl) | (intro _; exact ⟨rfl, rfl⟩)))
            go_big_quiet_step ((first | (intro _; rfl) | (intro _; exact ⟨rfl, rfl⟩)))
            go_big_quiet_step ((first | (intro _; rfl) | (intro _; exact ⟨rfl, rfl⟩)))
            go_big_quiet_step ((first | (intro _; rfl) | (intro _; exact ⟨rfl, rfl⟩)))
            go_big_quiet_want
            refine quiet_run (.int .i64 c) (fun W hW => by simp [execOp, HC1.out W hW, Result.andThen, go_sem]) ?_
            go_big_quiet_on
            try simp only [Act.put]
            try simp only [List.setIfInBounds_toArray]
            try simp only [List.set_cons_succ]
            try simp only [List.set_cons_zero]
            go_big_quiet_step ((first | (intro _; rfl) | (intro _; exact ⟨rfl, rfl⟩)))
            go_big_quiet_step ((first | (intro _; rfl) | (intro _; exact ⟨rfl, rfl⟩)))
            go_big_quiet_step ((first | (intro _; rfl) | (intro _; exact ⟨rfl, rfl⟩)))
            go_big_quiet_want
            refine quiet_run (.string su) (fun W hW => by simp [execOp, HC2.out W hW, Result.andThen, go_sem]) ?_
            go_big_quiet_on
            try simp only [Act.put]
            try simp only [List.setIfInBounds_toArray]
            try simp only [List.set_cons_succ]
            try simp only [List.set_cons_zero]
            go_big_quiet_step ((intro hb; refine (HS.out _ hb).mono ?_; rintro x wc ⟨rfl, hb2⟩; exact ⟨rfl, hb.trans (hb2.mono hb.size)⟩))
            repeat (go_big_quiet_step ((first | (intro _; rfl) | (intro _; exact ⟨rfl, rfl⟩))))
            refine wpQuiet_nil ?_
            intro wc BC
            go_wp2_with (go_at_call 27; refine (HX.out _).mono ?_; rintro e w5 ⟨rfl, hb⟩; have HB5 := hideIt hb; clear hb)
            go_roundg (gk - 1)
            case measure => omega
            case rel => exact ⟨j + 1, by omega, by rw [HO2.out], by go_num, (HA.out.1.trans (BC.mono HA.out.1.size)).trans (HB5.out.mono (by have := HA.out.1.size; have := BC.size; omega)), HG.out⟩
          · rw [xrS, xrE, if_neg (fun h => hle (by rw [← hsl, ← h, hlen])), if_neg (fun h => hle (by rw [← hsl, ← h, hlen]))] at HX
            have HE := hideIt (HBAD.out (fun h => hle (h.2.2.2.1 _ (List.getElem_mem hju))))
            clear hsl hok hle hnx hlen hlu
            generalize str (sc m.toNat cs[j].toNat us[j]) = x at *
            generalize str (cmbK m.toNat cs us j) = o1 at *
            generalize str us[j] = su at *
            generalize cs[j] = c at *
            clear hju hjc
            go_wp2_with fail
            refine wp_region_quiet_below (by kernel_rfl) (by kernel_rfl) (Below.refl wr.heap.size wr) ?_
            try simp only [Act.put]
            try simp only [List.setIfInBounds_toArray]
            try simp only [List.set_cons_succ]
            try simp only [List.set_cons_zero]
            go_big_quiet_step ((first | (intro _; rfl) | (intro _; exact ⟨rfl, rfl⟩)))
            go_big_quiet_step ((first | (intro _; rfl) | (intro _; exact ⟨rfl, rfl⟩)))
            go_big_quiet_step ((first | (intro _; rfl) | (intro _; exact ⟨rfl, rfl⟩)))
            go_big_quiet_step ((first | (intro _; rfl) | (intro _; exact ⟨rfl, rfl⟩)))
            go_big_quiet_want
            refine quiet_run (.int .i64 c) (fun W hW => by simp [execOp, HC1.out W hW, Result.andThen, go_sem]) ?_
            go_big_quiet_on
            try simp only [Act.put]
            try simp only [List.setIfInBounds_toArray]
            try simp only [List.set_cons_succ]
            try simp only [List.set_cons_zero]
            go_big_quiet_step ((first | (intro _; rfl) | (intro _; exact ⟨rfl, rfl⟩)))
            go_big_quiet_step ((first | (intro _; rfl) | (intro _; exact ⟨rfl, rfl⟩)))
            go_big_quiet_step ((first | (intro _; rfl) | (intro _; exact ⟨rfl, rfl⟩)))
            go_big_quiet_want
            refine quiet_run (.string su) (fun W hW => by simp [execOp, HC2.out W hW, Result.andThen, go_sem]) ?_
            go_big_quiet_on
            try simp only [Act.put]
            try simp only [List.setIfInBounds_toArray]
            try simp only [List.set_cons_succ]
            try simp only [List.set_cons_zero]
            go_big_quiet_step ((intro hb; refine (HS.out _ hb).mono ?_; rintro x wc ⟨rfl, hb2⟩; exact ⟨rfl, hb.trans (hb2.mono hb.size)⟩))
            repeat (go_big_quiet_step ((first | (intro _; rfl) | (intro _; exact ⟨rfl, rfl⟩))))
            refine wpQuiet_nil ?_
            intro wc BC
            go_wp2_with (go_at_call 27; refine (HX.out _).mono ?_; rintro e w5 ⟨rfl, hb⟩; have HB5 := hideIt hb; clear hb)
            go_ret2
            exact ⟨by rw [HE.out.1, HE.out.2]; rfl, (HA.out.1.trans (BC.mono HA.out.1.size)).trans (HB5.out.mono (by have := HA.out.1.size; have := BC.size; omega))⟩
        · rw [scR, scE, if_neg hok, if_neg hok] at HS
          have HE := hideIt (HBAD.out (fun h => hok ⟨h.2.2.1 _ (List.getElem_mem hjc), by rw [h.2.2.2.1 _ (List.getElem_mem hju)]; exact h.2.2.2.2⟩))
          clear hok hnx hlen hlu HX
          generalize str (cmbK m.toNat cs us j) = o1 at *
          generalize str us[j] = su at *
          generalize cs[j] = c at *
          clear hju hjc
          go_wp2_with fail
          refine wp_region_quiet_below (by kernel_rfl) (by kernel_rfl) (Below.refl wr.heap.size wr) ?_
          try simp only [Act.put]
          try simp only [List.setIfInBounds_toArray]
          try simp only [List.set_cons_succ]
          try simp only [List.set_cons_zero]
          go_big_quiet_step ((first | (intro _; rfl) | (intro _; exact ⟨rfl, rfl⟩)))
          go_big_quiet_step ((first | (intro _; rfl) | (intro _; exact ⟨rfl, rfl⟩)))
          go_big_quiet_step ((first | (intro _; rfl) | (intro _; exact ⟨rfl, rfl⟩)))
          go_big_quiet_step ((first | (intro _; rfl) | (intro _; exact ⟨rfl, rfl⟩)))
          go_big_quiet_want
          refine quiet_run (.int .i64 c) (fun W hW => by simp [execOp, HC1.out W hW, Result.andThen, go_sem]) ?_
          go_big_quiet_on
          try simp only [Act.put]
          try simp only [List.setIfInBounds_toArray]
          try simp only [List.set_cons_succ]
          try simp only [List.set_cons_zero]
          go_big_quiet_step ((first | (intro _; rfl) | (intro _; exact ⟨rfl, rfl⟩)))
          go_big_quiet_step ((first | (intro _; rfl) | (intro _; exact ⟨rfl, rfl⟩)))
          go_big_quiet_step ((first | (intro _; rfl) | (intro _; exact ⟨rfl, rfl⟩)))
          go_big_quiet_want
          refine quiet_run (.string su) (fun W hW => by simp [execOp, HC2.out W hW, Result.andThen, go_sem]) ?_
          go_big_quiet_on
          try simp only [Act.put]
          try simp only [List.setIfInBounds_toArray]
          try simp only [List.set_cons_succ]
          try simp only [List.set_cons_zero]
          go_big_quiet_step ((intro hb; refine (HS.out _ hb).mono ?_; rintro x wc ⟨rfl, hb2⟩; exact ⟨rfl, hb.trans (hb2.mono hb.size)⟩))
          repeat (go_big_quiet_step ((first | (intro _; rfl) | (intro _; exact ⟨rfl, rfl⟩))))
          refine wpQuiet_nil ?_
          intro wc BC
          go_wp2_with fail
          go_ret2
          exact ⟨by rw [HE.out.1, HE.out.2]; rfl, HA.out.1.trans (BC.mono HA.out.1.size)⟩
      · obtain rfl : j = n := by omega
        have hji : ¬ (j : Int) < (j : Int) := by omega
        have HE := hideIt (HGOOD.out (GdK_all HN.out (by rw [← HNN.out]; omega) (by rw [← HNN.out]; exact HA.out.2)))
        generalize str (cmbK m.toNat cs us j) = o1 at *
        go_wp2_with fail
        go_ret2
        exact ⟨by rw [HE.out.1, HE.out.2]; rfl, HA.out.1⟩
  · have hq2 := neqT 3 h1
    rw [cbS, cbE, if_neg (fun h => h1 h.2.1), if_neg (fun h => h1 h.2.1)]
    clear hc hu hl hlu h0 h1
    generalize cs.length = n at *
    generalize us.length = k at *
    go_enter Tryd.func23, Tryd.ntmps23
    go_wp2_with fail
    go_ret2
    exact ⟨rfl, Below.refl _ _⟩

end Go.Proofs.YtihepogccgcfkaaDoor
