/-
  The program's candidates, walked.
-/
import Derived.Test.YtklngodlijiccaaDoorRepF
namespace Go.Proofs.YtklngodlijiccaaDoor
open Go.RowKit
set_option linter.unusedVariables false
set_option linter.unusedSimpArgs false

/-- The terms of a check all read present units, or one does not. -/
theorem trC_avl (x : Cd) (hs : List Bool) (i u : Nat) : (trC x i u).any (msT (ot hs u)) = !avl hs u (chk x i) := by
  rw [Bool.eq_iff_iff, Bool.not_eq_true', List.any_eq_true]
  unfold avl
  constructor
  · rintro ⟨t, ht, hm⟩
    obtain ⟨k, hk, rfl⟩ := List.mem_map.1 ht
    obtain ⟨hk1, hk2⟩ := List.mem_filter.1 hk
    refine Bool.eq_false_iff.2 fun h => ?_
    have := List.all_eq_true.1 h k hk1
    have hm : (!(ot hs u).getD k false) = true := hm
    rw [decide_eq_false (of_decide_eq_true hk2), Bool.or_false] at this
    rw [this] at hm
    cases hm
  · intro h
    obtain ⟨k, hk, h2⟩ := List.all_eq_false.1 h
    rw [Bool.not_eq_true, Bool.or_eq_false_iff] at h2
    refine ⟨(k, _), List.mem_map.2 ⟨k, List.mem_filter.2 ⟨hk, decide_eq_true (of_decide_eq_false h2.2)⟩, rfl⟩, ?_⟩
    show (!(ot hs u).getD k false) = true
    rw [h2.1]; rfl
/-- The candidates among the first k checks of the unit. -/
def pcI (x : Cd) (hs : List Bool) (u k : Nat) : List (Int × TL) := (((ixs x (u : Int) x.par.length).take k).filter fun i => cand x hs u i).map fun i => ((u : Int), trC x i u)
theorem pcI_next (x : Cd) (hs : List Bool) (u : Nat) {k : Nat} (hk : k < (ixs x (u : Int) x.par.length).length) : pcI x hs u (k + 1) = if cand x hs u (ixs x (u : Int) x.par.length)[k] = true then pcI x hs u k ++ [((u : Int), trC x (ixs x (u : Int) x.par.length)[k] u)] else pcI x hs u k := by
  unfold pcI
  rw [take_snoc _ k hk, List.filter_append]
  by_cases h : cand x hs u (ixs x (u : Int) x.par.length)[k] = true
  · rw [if_pos h, List.map_append, List.filter_cons, if_pos h]; rfl
  · rw [if_neg h, List.filter_cons, if_neg h, List.filter_nil, List.append_nil]
theorem pcI_all (x : Cd) (hs : List Bool) (u : Nat) : pcI x hs u (ixs x (u : Int) x.par.length).length = (pcs x hs u x.par.length).map fun L => ((u : Int), L) := by
  unfold pcI pcs ixs
  rw [List.take_length, List.filter_filter, List.map_map]
  congr 1
  refine List.filter_congr fun i _ => ?_
  unfold cand
  cases hasZ (chk x i) (u : Int) <;> simp
theorem pcI_len (x : Cd) (hs : List Bool) (u k : Nat) : (pcI x hs u k).length ≤ k := by
  unfold pcI
  rw [List.length_map]
  have h1 := List.length_filter_le (fun i => cand x hs u i) ((ixs x (u : Int) x.par.length).take k)
  have h2 : ((ixs x (u : Int) x.par.length).take k).length ≤ k := by rw [List.length_take]; omega
  omega
set_option maxHeartbeats 4000000 in
set_option maxRecDepth 100000 in
theorem cands_any (x : Cd) (A : Option Addr) (c : Nat) (w : World) (hT : Tabs w) (hx : CIn w x A) {m n : Nat} (hvc : VC x m n) (hs : List Bool) (hlen : hs.length = n + x.par.length) (hok : okB x hs = true) (u : Nat) (hu : u < hs.length) (D : Option Addr) (cd : Nat) (hD : Sl w w.heap.size D 1 hs.length ((ot hs u).map bl)) :
    Calls Tryd.prog 34 #[x.v A c, .slice D hs.length cd, .int .i64 (u : Int)] w fun e w' => ∃ v, e = .returned v ∧ PJ w' w.heap.size v ((pal x hs u).map fun L => ((u : Int), L)) ∧ Below w.heap.size w w' := by
  obtain ⟨W1, hW1⟩ : ∃ W, W = w.alloc (.cells (x.cs A c).toArray 24) := ⟨_, rfl⟩
  obtain ⟨W, hW⟩ : ∃ W, W = W1.alloc (.cells #[.slice D hs.length cd] 25) := ⟨_, rfl⟩
  have hb1 : Below w.heap.size w W1 := by rw [hW1]; exact below_new w _
  have hb2 : Below W1.heap.size W1 W := by rw [hW]; exact below_new W1 _
  have hbw := hb1.trans (hb2.mono hb1.size)
  have hs1 : W1.heap.size = w.heap.size + 1 := by rw [hW1]; simp
  have hs2 : W.heap.size = w.heap.size + 2 := by rw [hW]; simp [hs1]
  have HS2 := hideIt hs2
  have HB := hideIt hbw
  have HBC := hideIt (show BC W w.heap.size x A c by
    have : BC W1 w.heap.size x A c := by rw [hW1]; exact BC.new c hx
    exact this.keep hb2)
  have HPL := hideIt (show Blk W (w.heap.size + 1) 25 [.slice D hs.length cd] by
    rw [← hs1, hW]; exact Blk.new W1 25 [.slice D hs.length cd])
  have HSD := hideIt ((hD.below hbw).wide hbw.size)
  have HT := hideIt (hT.keep hbw)
  have HWE1 := hideIt hW1
  have HWE := hideIt hW
  have hnot := not_b
  have hwid := hvc.wid
  have HVC := hideIt hvc
  have hotl := ot_len hs u
  have HCM := hideIt (fun W2 (h : Below W.heap.size W W2) => show Calls Tryd.prog 57 #[x.v A c, .slice D hs.length cd, .int .i64 (u : Int)] W2 (TermRes W2 (combR x (ot hs u) (u : Int))) by
    have := combination_any x A c W2 (HT.out.keep h) (HBC.out.keep h).cin (ot hs u) D cd (by omega) (by have := (HSD.out.below h).wide h.size; rwa [← hotl] at this) (u : Int)
    rwa [hotl] at this)
  have HCK := hideIt (fun W2 (h : Below W.heap.size W W2) => show Calls Tryd.prog 14 #[x.v A c, .int .i64 (u : Int)] W2 (fun e w' => ∃ A6 c6, e = .returned (.slice A6 (ixs x (u : Int) x.par.length).length c6) ∧ PM w' w'.heap.size A6 (((ixs x (u : Int) x.par.length).map (chk x)).map nI) ∧ Below W2.heap.size W2 w') by
    refine (checks_any x A c W2 (HT.out.keep h) (HBC.out.keep h).cin (u : Int)).mono ?_
    rintro e w' ⟨v, rfl, hj, hb⟩
    have hv : vC x = true := by unfold okB at hok; rw [Bool.and_eq_true] at hok; exact hok.1
    rw [show chksR x (u : Int) = (ixs x (u : Int) x.par.length).map (chk x) by rw [← chks_ixs]; exact if_pos ⟨hv, by omega⟩] at hj
    obtain ⟨A6, c6, rfl, _, hpm⟩ := hj.pm
    exact ⟨A6, c6, by rw [List.length_map], hpm, hb⟩)
  have HMI := hideIt (fun i (h : i ∈ ixs x (u : Int) x.par.length) => show i < x.par.length ∧ u ∈ chk x i by
    obtain ⟨h1, h2⟩ := List.mem_filter.1 h
    rw [hasZ_nat, decide_eq_true_eq] at h2
    exact ⟨List.mem_range.1 h1, h2⟩)
  have HNX := hideIt (fun i (h : i < (ixs x (u : Int) x.par.length).length) => pcI_next x hs u h)
  have HF0 := hideIt (show pcI x hs u 0 = [] by unfold pcI; rw [List.take_zero]; rfl)
  have hIl : (ixs x (u : Int) x.par.length).length ≤ 100 := by
    have h1 := List.length_filter_le (fun i => hasZ (chk x i) (u : Int)) (List.range x.par.length)
    rw [List.length_range] at h1
    unfold ixs
    omega
  have HFL := hideIt (pcI_len x hs u)
  have HFA := hideIt (show (pal x hs u).map (fun L => ((u : Int), L)) = pcI x hs u (ixs x (u : Int) x.par.length).length ++ (if (combR x (ot hs u) (u : Int)).2 = 0 then [((u : Int), (combR x (ot hs u) (u : Int)).1)] else []) by
    rw [pcI_all]
    unfold pal bes0
    rw [List.map_append]
    split <;> rfl)
  have HGD := hideIt (fun i (hi : i < x.par.length) (hc : cand x hs u i = true) => good_pos hvc hlen hu (trC_good hvc hlen hi hc))
  have hN40 : hs.length ≤ 40 := by omega
  have HLN := hideIt hlen
  generalize ixs x (u : Int) x.par.length = I at *
  generalize pcI x hs u = f at *
  generalize combR x (ot hs u) (u : Int) = r at *
  obtain ⟨r1, r2⟩ := r
  have hq3 := i_eql 31 .i64 r2 0
  obtain ⟨P, hP⟩ : ∃ P, P = (pal x hs u).map fun L => ((u : Int), L) := ⟨_, rfl⟩
  rw [← hP] at HFA ⊢
  obtain ⟨N, hN⟩ : ∃ N, N = hs.length := ⟨_, rfl⟩
  have HN := hideIt hN
  rw [← hN] at HPL HSD HCM HLN hN40 HWE
  rw [← hN]
  clear hb1 hb2 hbw hs1 hs2 hx hD hW hW1 hT hvc hlen hok hP hN hu hotl hwid
  go_enter Tryd.func34, Tryd.ntmps34
  go_wp2_with (first
    | ((with_reducible refine at_load ?_); refine wpList_ldC (by kernel_rfl) (.tmp 3) rfl (p := w.heap.size) (c := c) rfl (by rw [← HWE1.out, ← HWE.out]; exact HBC.out.box) ?_)
    | (go_at_call 14; rw [← HWE1.out, ← HWE.out]; refine (HCK.out W (Below.refl _ _)).mono ?_; rintro e w6 ⟨A6, c6, rfl, hpm, hb6⟩; have HPM := hideIt hpm; have HB6 := hideIt hb6; clear hpm hb6 HCK))
  have HJ0 := hideIt (PJ.nil w6 w6.heap.size)
  go_loopg [8, 19] I.length (fun gk s8 s19 wr => ∃ i : Nat, i + gk = I.length ∧ s19 = .int .i64 (i : Int) ∧ Aside (PJ wr w6.heap.size s8 (f i)) ∧ Aside (Below w6.heap.size w6 wr))
  case atStart => exact ⟨0, by omega, rfl, by rw [HF0.out]; exact HJ0.out, Below.refl _ _⟩
  case round =>
    obtain ⟨i, hi, rfl, HJ, HL7⟩ := hrel
    obtain ⟨w7, rfl⟩ : ∃ x, x = wr := ⟨wr, rfl⟩
    have HLW := hideIt (HB6.out.trans (HL7.out.mono HB6.out.size))
    have HBX7 := hideIt (HBC.out.keep HLW.out).box
    by_cases hlt : i < I.length
    · have hinc := inc_c 3 i (by omega)
      have hki : (i : Int) < (I.length : Int) := by omega
      have HNi := hideIt (HNX.out i hlt)
      have HMi := hideIt (HMI.out _ (List.getElem_mem hlt))
      obtain ⟨b4, o4, A', c', hA, hb4, hcell, hsl⟩ := (HPM.out.below HL7.out).row (j := i) (by rw [List.length_map, List.length_map]; exact hlt)
      simp only [List.getElem_map, nI_len] at hcell hsl
      generalize I[i] = ii at *
      have HSO := hideIt (solved_any HVC.out A c w7 (HT.out.keep HLW.out) (HBC.out.keep HLW.out).cin ii HMi.out.1 u HMi.out.2 A' c' (hsl.wide HL7.out.size))
      have hcl := chk_len HVC.out ii
      have hcd : cand x hs u ii = avl hs u (chk x ii) := by unfold cand; rw [hasZ_nat, decide_eq_true HMi.out.2, Bool.true_and]
      have HAY := hideIt (trC_avl x hs ii u)
      have HTU := hideIt (fun t (ht : t ∈ trC x ii u) => show t.1 < N by
        obtain ⟨k, hk, rfl⟩ := List.mem_map.1 ht
        have h1 := HMi.out.1
        have h2 := HLN.out
        rcases (mem_chk HVC.out).1 (List.mem_filter.1 hk).1 with ⟨h3, _⟩ | h3
        · show k < N; omega
        · show k < N; omega)
      have hTL : (trC x ii u).length ≤ 40 := by
        have h1 := trC_len HVC.out HMi.out.2
        omega
      have HGi := hideIt (fun hc : cand x hs u ii = true => HGD.out ii HMi.out.1 hc)
      rw [hcd] at HNi HGi
      have hfl := HFL.out i
      generalize avl hs u (chk x ii) = av at *
      generalize trC x ii u = T at *
      generalize chk x ii = q at *
      subst hA
      clear hsl hb4 HMi hcd
      have HCF := hideIt (fun W2 (h : Below w7.heap.size w7 W2) (D8 : Option Addr) (c8 : Nat) (h8 : Sl W2 W2.heap.size D8 2 T.length (tcs T)) => show Calls Tryd.prog 56 #[.slice D8 T.length c8, .func (.func 54) #[] #[.pointer (some ⟨w.heap.size + 1, 0, none⟩)]] W2 (fun e w' => e = .returned (.bool (!av)) ∧ Below W2.heap.size W2 w') by
        rw [← HAY.out]
        refine containsf_any T (by omega) (msT (ot hs u)) D8 c8 (w.heap.size + 1) W2 h8 fun W3 h3 t ht => ?_
        have hL3 := HLW.out.trans ((h.trans (h3.mono h.size)).mono HLW.out.size)
        have ho : (ot hs u).length = N := by rw [ot_len, HN.out]
        refine missing_any (ot hs u) D cd (w.heap.size + 1) W3 (by rw [ho]; exact (HPL.out.kept hL3 HPL.out.lt).cell 0) (HPL.out.kept hL3 HPL.out.lt).lt (by rw [ho]; exact (HSD.out.below hL3).wide hL3.size) t (by rw [ho]; exact HTU.out t ht))
      cases av with
      | false =>
        have HE := hideIt (HNi.out.trans (if_neg (by decide)))
        clear HNi HGi HAY HTU
        go_wp2_with (first
          | ((with_reducible refine at_load ?_); refine wpList_ldC (by kernel_rfl) (.tmp 3) rfl (p := w.heap.size) (c := c) rfl HBX7.out ?_)
          | (go_at_call 55; refine HSO.out.mono ?_; rintro e w8 ⟨v8, rfl, ho8, hb8⟩; obtain ⟨A8, c8, hv8, _, _⟩ := own_form ho8; subst hv8; have HS8 := hideIt (Sl.of_own ho8); have HB8 := hideIt hb8; clear ho8 hb8 HSO)
          | (go_at_call 56; refine (HCF.out _ HB8.out _ _ HS8.out).mono ?_; rintro e w9 ⟨rfl, hb9⟩; have HB9 := hideIt (HB8.out.trans (hb9.mono HB8.out.size)); clear hb9 HCF))
        go_roundg (gk - 1)
        case measure => omega
        case rel => exact ⟨i + 1, by omega, by go_num, by rw [HE.out]; exact HJ.out.keep HB9.out, HL7.out.trans (HB9.out.mono HL7.out.size)⟩
      | true =>
        have HE := hideIt (HNi.out.trans (if_pos rfl))
        have hT0 := HGi.out rfl
        clear HNi HGi HAY HTU
        generalize hfi : f i = fi at *
        clear hfi
        obtain ⟨A3, c3v, hv3, _⟩ := HJ.out.form
        subst hv3
        go_wp2_with (first
          | ((with_reducible refine at_load ?_); refine wpList_ldC (by kernel_rfl) (.tmp 3) rfl (p := w.heap.size) (c := c) rfl HBX7.out ?_)
          | (go_at_call 55; refine HSO.out.mono ?_; rintro e w8 ⟨v8, rfl, ho8, hb8⟩; obtain ⟨A8, c8, hv8, _, _⟩ := own_form ho8; subst hv8; have HS8 := hideIt (Sl.of_own ho8); have HLO8 := hideIt (own_lo ho8); have HB8 := hideIt hb8; clear ho8 hb8 HSO)
          | (go_at_call 56; refine (HCF.out _ HB8.out _ _ HS8.out).mono ?_; rintro e w9 ⟨rfl, hb9⟩; have HS9 := hideIt ((HS8.out.below hb9).wide hb9.size); have HB9 := hideIt (HB8.out.trans (hb9.mono HB8.out.size)); obtain ⟨vs, hvs1, hvs2⟩ := HJ.out.keep (HB8.out.trans (hb9.mono HB8.out.size)); have HV1 := hideIt hvs1; have HV2 := hideIt hvs2; have HSZ := hideIt (Nat.le_trans HL7.out.size (HB8.out.trans (hb9.mono HB8.out.size)).size); clear hb9 HCF hvs1 hvs2)
          | ((with_reducible refine at_append ?_); refine wpList_apP (u := (u : Int)) (A := A8) (k := T.length) (c := c8) (n := fi.length) (us := pcells vs) rfl (.tmp 31) (.tmp 35) rfl rfl HV1.out rfl (by omega) HSZ.out ?_; intro v8 w8 HO8 HG8 HA8 HBB))
        have HNB := hideIt (show ∀ b o, A8 = some ⟨b, o, none⟩ → w6.heap.size ≤ b ∧ (Value.slice A3 fi.length c3v).ownBlock ≠ some b from fun b o hA => ⟨Nat.le_trans HL7.out.size (HLO8.out b o hA), fun e => by
          have h1 := HLO8.out b o hA
          obtain ⟨ws, hw1, _⟩ := HJ.out
          rcases hw1.2 with ⟨hn, _⟩ | ⟨g, cap, cur, hv, hb, hg, _⟩
          · rw [hn] at e; cases e
          · rw [hv] at e
            injection e with e
            have := (Array.getElem?_eq_some_iff.1 hg).1
            change g = b at e
            omega⟩)
        go_roundg (gk - 1)
        case measure => omega
        case rel => exact ⟨i + 1, by omega, by go_num, by rw [HE.out]; exact PJ.snoc HV1.out HV2.out HS9.out (fun _ => HNB.out) HO8.out HG8.out HA8.out (by have := HG8.out.size; simp at this; omega), HL7.out.trans ((HB9.out.mono HL7.out.size).trans HBB.out)⟩
    · have hki : ¬ (i : Int) < (I.length : Int) := by omega
      obtain rfl : i = I.length := by omega
      have hfl := HFL.out I.length
      have HPL7 := hideIt (HPL.out.kept HLW.out HPL.out.lt)
      have c4 := HPL7.out.cell 0
      have HCM7 := hideIt (HCM.out w7 HLW.out)
      have HBW := hideIt (HB.out.trans (HLW.out.mono HB.out.size))
      have HWS := hideIt (Nat.le_trans HB.out.size HB6.out.size)
      generalize hfi : f I.length = fi at *
      clear hfi HCM HNX HFL
      obtain ⟨A3, c3v, hv3, _⟩ := HJ.out.form
      subst hv3
      by_cases h0 : r2 = 0
      · rw [decide_eq_true h0] at hq3
        have HE := hideIt (show P = fi ++ [((u : Int), r1)] by rw [HFA.out, if_pos h0])
        clear h0 HFA
        go_wp2_with (first
          | ((with_reducible refine at_load ?_); refine wpList_ldC (by kernel_rfl) (.tmp 3) rfl (p := w.heap.size) (c := c) rfl HBX7.out ?_)
          | (go_at_call 57; refine HCM7.out.mono ?_; rintro e w8 ⟨v8, rfl, ho8, hb8⟩; obtain ⟨A8, c8, hv8, _, _⟩ := own_form ho8; subst hv8; have HS8 := hideIt (Sl.of_own ho8); have HLO8 := hideIt (own_lo ho8); have HB8 := hideIt hb8; obtain ⟨vs, hvs1, hvs2⟩ := HJ.out.keep hb8; have HV1 := hideIt hvs1; have HV2 := hideIt hvs2; have HSZ := hideIt (Nat.le_trans HL7.out.size hb8.size); clear ho8 hb8 HCM7 hvs1 hvs2)
          | ((with_reducible refine at_append ?_); refine wpList_apP (u := (u : Int)) (A := A8) (k := r1.length) (c := c8) (n := fi.length) (us := pcells vs) rfl (.tmp 47) (.tmp 51) rfl rfl HV1.out rfl (by omega) HSZ.out ?_; intro v8 w8 HO8 HG8 HA8 HBB))
        have HNB := hideIt (show ∀ b o, A8 = some ⟨b, o, none⟩ → w6.heap.size ≤ b ∧ (Value.slice A3 fi.length c3v).ownBlock ≠ some b from fun b o hA => ⟨Nat.le_trans HL7.out.size (HLO8.out b o hA), fun e => by
          have h1 := HLO8.out b o hA
          obtain ⟨ws, hw1, _⟩ := HJ.out
          rcases hw1.2 with ⟨hn, _⟩ | ⟨g, cap, cur, hv, hb, hg, _⟩
          · rw [hn] at e; cases e
          · rw [hv] at e
            injection e with e
            have := (Array.getElem?_eq_some_iff.1 hg).1
            change g = b at e
            omega⟩)
        go_ret
        refine ⟨_, rfl, ?_, HBW.out.trans ((HB8.out.mono HBW.out.size).trans (HBB.out.mono HWS.out))⟩
        rw [HE.out]
        exact (PJ.snoc HV1.out HV2.out HS8.out (fun _ => HNB.out) HO8.out HG8.out HA8.out (by have := HG8.out.size; simp at this; omega)).low HWS.out
      · rw [decide_eq_false h0] at hq3
        have HE := hideIt (show P = fi by rw [HFA.out, if_neg h0, List.append_nil])
        clear h0 HFA
        go_wp2_with (first
          | ((with_reducible refine at_load ?_); refine wpList_ldC (by kernel_rfl) (.tmp 3) rfl (p := w.heap.size) (c := c) rfl HBX7.out ?_)
          | (go_at_call 57; refine HCM7.out.mono ?_; rintro e w8 ⟨v8, rfl, ho8, hb8⟩; have HB8 := hideIt hb8; clear ho8 hb8 HCM7))
        go_ret
        refine ⟨_, rfl, ?_, HBW.out.trans (HB8.out.mono HBW.out.size)⟩
        rw [HE.out]
        exact (HJ.out.keep HB8.out).low HWS.out
end Go.Proofs.YtklngodlijiccaaDoor
