/-
  The walk of the law: the terms of Combination refer to present units in increasing order, have coefficients other than 0, and their rows add up to the row of the unit
-/
import Derived.Test.YtpjgmekpnlpjaaaDoorLwE
import Derived.Test.YtpjgmekpnlpjaaaDoorArgK
import Derived.Test.YtpjgmekpnlpjaaaDoorEreB
namespace Go.Proofs.YtpjgmekpnlpjaaaDoor.erasureCoefficientsAddUp
open Go.RowKit
set_option linter.unusedVariables false

/-- The sum of the rows of some terms. -/
def fsum (m : Nat) (G : Mx) (L : List (Nat × Nat)) : Nat → Nat := fun j => L.foldl (fun a t => a ^^^ mul m t.2 (G t.1 j)) 0
theorem fsum_snoc (m : Nat) (G : Mx) (L : List (Nat × Nat)) (t : Nat × Nat) (j : Nat) : fsum m G (L ++ [t]) j = fsum m G L j ^^^ mul m t.2 (G t.1 j) := by
  unfold fsum
  rw [List.foldl_append]
  rfl
theorem fsum_tms (m : Nat) (G : Mx) (B : List Nat) (c : Nat → Nat) (j : Nat) : ∀ p, fsum m G (tms B c p) j = sm p fun k => mul m (c k) (G (B.getD k 0) j)
  | 0 => rfl
  | p + 1 => by
    show fsum m G (if c p = 0 then tms B c p else tms B c p ++ [(B.getD p 0, c p)]) j = (sm p fun k => mul m (c k) (G (B.getD k 0) j)) ^^^ mul m (c p) (G (B.getD p 0) j)
    split
    · next h => rw [h, mul_zeroL, Nat.xor_zero]; exact fsum_tms m G B c j p
    · rw [fsum_snoc, fsum_tms m G B c j p]
theorem fsum_lt {m : Nat} (hm : Fm m) (G : Mx) (j : Nat) (L : List (Nat × Nat)) (h : ∀ t ∈ L, t.2 < 2 ^ m) : fsum m G L j < 2 ^ m := by
  have key : ∀ (L : List (Nat × Nat)) (a : Nat), a < 2 ^ m → (∀ t ∈ L, t.2 < 2 ^ m) → L.foldl (fun a t => a ^^^ mul m t.2 (G t.1 j)) a < 2 ^ m := by
    intro L
    induction L with
    | nil => intro a ha _; exact ha
    | cons t r ih => intro a ha h; exact ih _ (Nat.xor_lt_two_pow ha (mul_lt hm _ (h t List.mem_cons_self))) fun u hu => h u (List.mem_cons_of_mem _ hu)
  exact key L 0 (Nat.two_pow_pos m) h
theorem tms_inc {B : List Nat} {c : Nat → Nat} (hB : ∀ i l, i < l → l < B.length → B.getD i 0 < B.getD l 0) : ∀ p, p ≤ B.length → (tms B c p).Pairwise fun a b => a.1 < b.1
  | 0, _ => List.Pairwise.nil
  | p + 1, h => by
    show (if c p = 0 then tms B c p else tms B c p ++ [(B.getD p 0, c p)]).Pairwise _
    split
    · exact tms_inc hB p (by omega)
    · refine List.pairwise_append.2 ⟨tms_inc hB p (by omega), List.pairwise_singleton _ _, fun a ha b hb => ?_⟩
      rw [List.mem_singleton] at hb
      subst hb
      obtain ⟨i, hi, rfl, _⟩ := tms_mem ha
      exact hB i p hi (by omega)
theorem coef_facts {x : Cd} {m n : Nat} (h : VC x m n) {hs : List Bool} {u : Nat} (hr : recov x hs u) :
    (∀ t ∈ tms (basL x hs) (cofU x hs u) (basL x hs).length, t.1 < hs.length ∧ hs.getD t.1 false = true ∧ t.2 < 2 ^ m ∧ t.2 ≠ 0) ∧ (tms (basL x hs) (cofU x hs u) (basL x hs).length).Pairwise (fun a b => a.1 < b.1) ∧ (∀ j, j < n → fsum m (gC x) (tms (basL x hs) (cofU x hs u) (basL x hs).length) j = gC x u j) ∧ (tms (basL x hs) (cofU x hs u) (basL x hs).length).length ≤ 32 := by
  have hd := (recov_vc h hs u).1 hr
  have hc := cof_spec hd
  rw [cofU_vc h]
  have hbs : ∀ i, i < (basL x hs).length → (basL x hs).getD i 0 < hs.length ∧ hs.getD ((basL x hs).getD i 0) false = true := fun i hi => by
    rw [basL_vc h] at hi ⊢
    exact bas_at hi
  have hinc : ∀ i l, i < l → l < (basL x hs).length → (basL x hs).getD i 0 < (basL x hs).getD l 0 := fun i l h1 h2 => by
    rw [basL_vc h] at h2 ⊢
    exact bas_inc _ i l h1 h2
  refine ⟨fun t ht => ?_, tms_inc hinc _ (Nat.le_refl _), fun j hj => ?_, ?_⟩
  · obtain ⟨i, hi, rfl, h0⟩ := tms_mem ht
    exact ⟨(hbs i hi).1, (hbs i hi).2, hc.1 i, h0⟩
  · rw [fsum_tms]
    exact (hc.2.1 j hj).symm
  · have h1 := tms_len (basL x hs) (cof m n (basL x hs).length (sel (gC x) (basL x hs)) (gC x u)) (basL x hs).length
    have h2 : (basL x hs).length ≤ n := by rw [basL_vc h]; exact bas_le (n := n) (hv := hvF hs) h.fm (gC_v h) hs.length
    have := h.wid
    omega
/-- A sum while a row is being added. -/
def mixF (m : Nat) (F r : Nat → Nat) (cf j : Nat) : Nat → Nat := fun c => if c < j then F c ^^^ mul m cf (r c) else F c
theorem mix_set (n m : Nat) (F r : Nat → Nat) (cf j : Nat) (hj : j < n) : ((nl n (mixF m F r cf j)).map iv).set j (.int .i64 ((F j ^^^ mul m cf (r j) : Nat) : Int)) = (nl n (mixF m F r cf (j + 1))).map iv := by
  rw [set_nl _ j _ hj]
  congr 1
  refine nl_congr fun k hk => ?_
  unfold mixF
  by_cases e : k = j
  · subst e; rw [if_pos rfl, if_pos (Nat.lt_succ_self _)]
  · rw [if_neg e]
    by_cases h : k < j
    · rw [if_pos h, if_pos (by omega)]
    · rw [if_neg h, if_neg (by omega)]
theorem mix_zero (m : Nat) (F r : Nat → Nat) (cf : Nat) : mixF m F r cf 0 = F := by
  funext c; unfold mixF; rw [if_neg (Nat.not_lt_zero _)]
theorem comb_yes (x : Cd) (A : Option Addr) (c : Nat) (w : World) (hT : Tabs w) (hx : CIn w x A) (hs : List Bool) (D : Option Addr) (cd : Nat) (hl : hs.length ≤ 100000) (hD : Sl w w.heap.size D 1 hs.length (hs.map bl)) (u : Nat) (L : List (Nat × Nat)) (ee : Int) (hc : combR x hs (u : Int) = (L, ee)) :
    Calls Tryd.prog 26 #[x.v A c, .slice D hs.length cd, .int .i64 (u : Int)] w fun e w' => ∃ B cb, e = .returned (.tuple #[.slice B L.length cb, .int .i64 ee]) ∧ Sl w' w'.heap.size B 2 L.length (tcs L) ∧ Below w.heap.size w w' := by
  have h := combination_any x A c w hT hx hs D cd hl hD u
  rw [hc] at h
  refine h.mono ?_
  rintro e w' ⟨v, rfl, ho, hb⟩
  obtain ⟨B, cb, rfl, _, _⟩ := own_form ho
  exact ⟨B, cb, rfl, Sl.of_own ho, hb⟩
theorem row_yes {x : Cd} {m n : Nat} (hvc : VC x m n) (A : Option Addr) (c : Nat) (w : World) (hx : CIn w x A) (u : Nat) (hu : u < n + x.par.length) :
    Calls Tryd.prog 38 #[x.v A c, .int .i64 (u : Int)] w fun e w' => ∃ B cb, e = .returned (.slice B n cb) ∧ Sl w' w'.heap.size B 1 n ((nl n (gC x u)).map iv) ∧ (∀ b o, B = some ⟨b, o, none⟩ → w.heap.size ≤ b) ∧ Below w.heap.size w w' := by
  refine (rrow_any hvc A c w hx u hu).mono ?_
  rintro e w' ⟨v, rfl, ho, hb⟩
  rw [nl_len] at ho
  obtain ⟨B, cb, rfl, _, _⟩ := own_form ho
  refine ⟨B, cb, rfl, Sl.of_own ho, fun b o h => ?_, hb⟩
  subst h
  exact (ho.lt b rfl).1
theorem u8_int (y : Nat) (h : y < 256) (W : World) : (convert 5 3 (.int .u8 (y : Int))).run Tryd.prog W = .ok (.int .i64 (y : Int)) W := by
  have := conv_u8 (UInt8.ofNat y) W
  rwa [show (UInt8.ofNat y).toNat = y from by rw [UInt8.toNat_ofNat']; omega, show bv (UInt8.ofNat y) = .int .u8 (y : Int) by show Value.int .u8 (((UInt8.ofNat y).toNat : Nat) : Int) = _; rw [show (UInt8.ofNat y).toNat = y from by rw [UInt8.toNat_ofNat']; omega]] at this

set_option maxHeartbeats 600000 in
set_option maxRecDepth 100000 in
theorem walk (a0 : Cd) (A0 : Option Addr) (c0 : Nat) (l1 : List Bool) (A1 : Option Addr) (c1 : Nat) (y2 : Nat) (w : World) (x0 : CIn w a0 A0) (x1 : Sl w w.heap.size A1 1 l1.length (l1.map bl)) (m1 : l1.length ≤ 9223372036854775807) (w2 : y2 < 256) (T1 : Tabs w) :
    Calls Tryd.prog 10 #[a0.v A0 c0, .slice A1 l1.length c1, .int .u8 (y2 : Int)] w fun e w' => e = .returned (.bool true) ∧ Below w.heap.size w w' := by
  obtain ⟨W0, hW0⟩ : ∃ W, W = w.alloc (.cells (a0.cs A0 c0).toArray 24) := ⟨_, rfl⟩
  have hb0 : Below w.heap.size w W0 := by rw [hW0]; exact below_new w _
  have HB0 := hideIt hb0
  have HBC := hideIt (show BC W0 w.heap.size a0 A0 c0 by rw [hW0]; exact BC.new c0 x0)
  have HT := hideIt (T1.keep hb0)
  have HX := hideIt ((x1.below hb0).wide hb0.size)
  have HWE := hideIt hW0
  have HSA := hideIt (sanity_any W0 HT.out)
  have hnot := not_b
  have HWI := hideIt (fun (W : World) (h : Below W0.heap.size W0 W) => width_any a0 A0 c0 W (HT.out.keep h) (HBC.out.cin.keep h))
  have HSM := hideIt (fun (W : World) (h : Below W0.heap.size W0 W) => small_any a0 A0 c0 W (HBC.out.cin.keep h))
  have hq0 := i_eql 3 .i64 (wC a0) 0
  have hq1 := i_neq 3 .i64 (l1.length : Int) (wC a0)
  have HM := hideIt m1
  clear hW0 hb0 x0 x1 T1 m1
  by_cases hsm : smB a0 = true
  · rw [hsm] at HSM
    by_cases hz : wC a0 = 0
    · rw [decide_eq_true hz] at hq0
      clear hsm hz
      generalize wC a0 = wz at *
      go_enter Tryd.func10, Tryd.ntmps10
      go_wp2_with (first | (go_at_call 11; rw [← HWE.out]; refine HSA.out.mono ?_; rintro e w1 ⟨rfl, hb1⟩; have HB1 := hideIt hb1; clear hb1 HSA) | (go_at_call 21; refine (HWI.out _ HB1.out).mono ?_; rintro e w2 ⟨rfl, hb2⟩; have HB2 := hideIt (HB1.out.trans (hb2.mono HB1.out.size)); clear hb2 HWI) | (go_at_call 12; refine (HSM.out _ HB2.out).mono ?_; rintro e w3 ⟨rfl, hb3⟩; have HB3 := hideIt (HB2.out.trans (hb3.mono HB2.out.size)); clear hb3 HSM) | ((with_reducible refine at_load ?_); refine wpList_ldC (by kernel_rfl) (.tmp 3) rfl (p := w.heap.size) (c := c0) rfl (HBC.out.keep HB3.out).box ?_) | ((with_reducible refine at_load ?_); refine wpList_ldC (by kernel_rfl) (.tmp 3) rfl (p := w.heap.size) (c := c0) rfl (HBC.out.keep HB2.out).box ?_) | ((with_reducible refine at_load ?_); refine wpList_ldC (by kernel_rfl) (.tmp 3) rfl (p := w.heap.size) (c := c0) rfl (HBC.out.keep HB1.out).box ?_))
      go_ret
      exact ⟨rfl, HB0.out.trans (HB3.out.mono HB0.out.size)⟩
    · rw [decide_eq_false hz] at hq0
      by_cases hle : (l1.length : Int) = wC a0
      · have hvC : vC a0 = true := by
          cases hv : vC a0 with
          | true => rfl
          | false => exact absurd (by unfold wC; rw [hv]; rfl) hz
        obtain ⟨m, n, hvc⟩ := vC_spec hvC
        have hN : l1.length = n + a0.par.length := by
          unfold wC at hle
          rw [if_pos hvC, hvc.d] at hle
          omega
        have hok : okB a0 l1 = true := by
          unfold okB
          rw [hvC, Bool.true_and, hvc.d]
          exact decide_eq_true (by omega)
        have hN0 : 0 < l1.length := by rw [hN]; have := hvc.pos; omega
        have hN32 : l1.length ≤ 32 := by rw [hN]; exact hvc.wid
        have hn32 : n ≤ 32 := by omega
        have hk : y2 % l1.length < l1.length := Nat.mod_lt _ hN0
        have hrem : binOp .rem 3 (.int .i64 (y2 : Int)) (.int .i64 (l1.length : Int)) = pure (.int .i64 ((y2 % l1.length : Nat) : Int)) := nrem _ y2 _ hN0
        obtain ⟨iu, hkd⟩ : ∃ k, k = y2 % l1.length := ⟨_, rfl⟩
        rw [← hkd] at hk hrem
        have hcv := u8_int y2 w2
        have HCO := hideIt (fun L ee (hc : combR a0 l1 (iu : Int) = (L, ee)) (W : World) (h : Below W0.heap.size W0 W) => comb_yes a0 A0 c0 W (HT.out.keep h) (HBC.out.cin.keep h) l1 A1 c1 (by omega) ((HX.out.below h).wide h.size) iu L ee hc)
        have HRW := hideIt (fun (W : World) (h : Below W0.heap.size W0 W) u (hu : u < l1.length) => row_yes hvc A0 c0 W (HBC.out.cin.keep h) u (by rw [← hN]; exact hu))
        have hcomb : combR a0 l1 (iu : Int) = trmR a0 l1 iu := by
          unfold combR
          rw [if_pos ⟨hok, decide_eq_true (by omega)⟩, Int.toNat_natCast]
        obtain ⟨b1, o1, hA1, hbb1, hcc1⟩ := HX.out.2 (by rw [List.length_map]; exact hN0)
        have HH := hideIt (fun (W : World) (h : Below W0.heap.size W0 W) i (hi : i < l1.length) => show W.cell? ⟨b1, o1 + i, none⟩ = some (.bool (l1.getD i false)) by
          rw [h.cell (p := ⟨b1, o1 + i, none⟩) hbb1]
          refine hcc1 i _ ?_
          rw [List.getElem?_map, List.getElem?_eq_getElem hi]
          simp [List.getD_eq_getElem?_getD, hi])
        subst hA1
        rw [decide_eq_false (show ¬ (l1.length : Int) ≠ wC a0 by omega)] at hq1
        have HD0 := hideIt hvc.d
        have HF0 := hideIt hvc.f
        have he0 : binOp .neq 32 (.int .i64 0) (.int .i64 0) = pure (.bool false) := by rw [i_neq]; rfl
        have he1 : binOp .neq 32 (.int .i64 11) (.int .i64 0) = pure (.bool true) := by rw [i_neq]; rfl
        have he2 : binOp .eql 32 (.int .i64 11) (.int .i64 11) = pure (.bool true) := by rw [i_eql]; rfl
        have hki : (iu : Int) < (l1.length : Int) := by omega
        by_cases hr : recov a0 l1 iu
        · obtain ⟨z1, z2, z3, z4⟩ := coef_facts hvc hr
          have ht : trmR a0 l1 iu = (tms (basL a0 l1) (cofU a0 l1 iu) (basL a0 l1).length, 0) := by unfold trmR; rw [if_pos hr]
          rw [ht] at hcomb
          obtain ⟨L, hL⟩ : ∃ L, L = tms (basL a0 l1) (cofU a0 l1 iu) (basL a0 l1).length := ⟨_, rfl⟩
          rw [← hL] at z1 z2 z3 z4 hcomb
          have HCM := hideIt (HCO.out L 0 hcomb)
          have hm := hvc.fm
          have HLT := hideIt (fun k (hk : k < L.length) => z1 L[k] (List.getElem_mem hk))
          have HLP := hideIt (fun k (hk : k < L.length) (h0 : 0 < k) => show (L[k - 1]).1 < (L[k]).1 from List.pairwise_iff_getElem.1 z2 (k - 1) k (by omega) hk (by omega))
          have HLS := hideIt z3
          have HFL := hideIt (fun k j => show fsum m (gC a0) (L.take k) j < 2 ^ m from fsum_lt hm _ _ _ fun t ht => (z1 t (List.mem_of_mem_take ht)).2.2.1)
          have HGV := hideIt (gC_v hvc)
          have HMM := hideIt hm
          have HMB := hideIt (fm_big hm)
          clear hsm hz hvC hok hvc hN hkd hbb1 hcc1 hcomb hr ht hL z1 z2 z3 hm HCO
          rw [← hle] at hq0 hq1 HWI
          clear hle
          have HC2 := hideIt (fun (W : World) (h : Below W0.heap.size W0 W) => show W.cell? ⟨w.heap.size, 2, none⟩ = some (.int .i64 (n : Int)) by rw [← HD0.out]; exact (HBC.out.keep h).c2)
          have HC1 := hideIt (fun (W : World) (h : Below W0.heap.size W0 W) => show W.cell? ⟨w.heap.size, 1, none⟩ = some (.int .i64 (m : Int)) by rw [← HF0.out]; exact (HBC.out.keep h).c1)
          have HBL := hideIt (show w.heap.size < W0.heap.size from HBC.out.box.lt)
          go_enter Tryd.func10, Tryd.ntmps10
          go_wp2_with (first
            | (go_at_call 11; rw [← HWE.out]; refine HSA.out.mono ?_; rintro e w1 ⟨rfl, hb1⟩; have HB1 := hideIt hb1; clear hb1 HSA) | (go_at_call 21; refine (HWI.out _ HB1.out).mono ?_; rintro e w2 ⟨rfl, hb2⟩; have HB2 := hideIt (HB1.out.trans (hb2.mono HB1.out.size)); clear hb2 HWI) | (go_at_call 12; refine (HSM.out _ HB2.out).mono ?_; rintro e w3 ⟨rfl, hb3⟩; have HB3 := hideIt (HB2.out.trans (hb3.mono HB2.out.size)); clear hb3 HSM) | ((with_reducible refine at_load ?_); refine wpList_ldC (by kernel_rfl) (.tmp 3) rfl (p := w.heap.size) (c := c0) rfl (HBC.out.keep HB3.out).box ?_) | ((with_reducible refine at_load ?_); refine wpList_ldC (by kernel_rfl) (.tmp 3) rfl (p := w.heap.size) (c := c0) rfl (HBC.out.keep HB2.out).box ?_) | ((with_reducible refine at_load ?_); refine wpList_ldC (by kernel_rfl) (.tmp 3) rfl (p := w.heap.size) (c := c0) rfl (HBC.out.keep HB1.out).box ?_)
            | (go_at_call 26; refine (HCM.out _ HB3.out).mono ?_; rintro e w4 ⟨B4, c4, rfl, hs4, hb4⟩; have HB4 := hideIt (HB3.out.trans (hb4.mono HB3.out.size)); have HSL := hideIt hs4; have c24 := HC2.out _ HB4.out; clear hb4 hs4 HCM)
            | ((with_reducible refine at_make ?_); refine wpList_zeros _ rfl (.tmp 67) (.tmp 67) rfl n rfl rfl (by omega) ?_; intro w5 HG5 HW5))
          clear c24
          go_loopg [6, 13, 14, 15, 16, 17, 18] L.length (fun gk s6 s13 s14 s15 s16 s17 s18 wr => ∃ k : Nat, k + gk = L.length ∧ s6 = .bool false ∧ s13 = .int .i64 (k : Int) ∧ Aside (Below w4.heap.size w4 wr) ∧ Aside (Blk wr w4.heap.size 3 ((nl n (fsum m (gC a0) (L.take k))).map iv)))
          case atStart => exact ⟨0, by omega, rfl, rfl, HW5.out, by rw [List.take_zero]; exact HG5.out⟩
          case round =>
            obtain ⟨k, hk2, rfl, rfl, HLW, HG⟩ := hrel
            obtain ⟨w6, rfl⟩ : ∃ x, x = wr := ⟨wr, rfl⟩
            obtain ⟨g1, hg1⟩ : ∃ g, g = gk := ⟨_, rfl⟩
            have HB6 := hideIt (HB4.out.trans (HLW.out.mono HB4.out.size))
            by_cases hlt : k < L.length
            · obtain ⟨q1, q2, q3, q4⟩ := HLT.out k hlt
              have HPV := hideIt (HLP.out k hlt)
              obtain ⟨b, o, hA, hb, hc⟩ := (HSL.out.below HLW.out).2 (by rw [tcs_len]; omega)
              have hcu := hc _ _ (tcs_at L k hlt).1
              have hcc := hc _ _ (tcs_at L k hlt).2
              have HCP := hideIt (fun h0 : 0 < k => hc _ _ (tcs_at L (k - 1) (by omega)).1)
              have HTK := hideIt (fun j => show fsum m (gC a0) (L.take (k + 1)) j = fsum m (gC a0) (L.take k) j ^^^ mul m (L[k]).2 (gC a0 (L[k]).1 j) by rw [take_snoc L k hlt, fsum_snoc])
              have hun : ((L[k]).1 : Int) < (l1.length : Int) := by omega
              have hinc := inc_c 3 k (by omega)
              have hkL : (k : Int) < (L.length : Int) := by omega
              have hfl := HFL.out k
              obtain ⟨F, hF⟩ : ∃ F, F = fsum m (gC a0) (L.take k) := ⟨_, rfl⟩
              rw [← hF] at HTK HG hfl
              generalize (L[k]).1 = un at *
              generalize (L[k]).2 = cf at *
              rw [← Nat.add_assoc] at hcc
              subst hA
              have HBB := hideIt hb
              have hch := HH.out _ HB6.out un q1
              rw [q2] at hch
              clear hc hF hb
              go_wp2_with fail
              obtain ⟨p, hp⟩ : ∃ p, p = w6.heap.size := ⟨_, rfl⟩
              obtain ⟨w7, hw7⟩ : ∃ W, W = w6.alloc (.cells #[.int .i64 (un : Int), .int .i64 (cf : Int)] 63) := ⟨_, rfl⟩
              have hb7 : Below w6.heap.size w6 w7 := by rw [hw7]; exact below_new w6 _
              have HP7 := hideIt (show Blk w7 p 63 [.int .i64 (un : Int), .int .i64 (cf : Int)] by rw [hw7, hp]; exact Blk.new w6 63 [.int .i64 (un : Int), .int .i64 (cf : Int)])
              have HL7 := hideIt (HLW.out.trans (hb7.mono HLW.out.size))
              have HG7 := hideIt (HG.out.kept hb7 HG.out.lt)
              have HPG := hideIt (show p ≠ w4.heap.size by have := HG.out.lt; omega)
              have c0 : w7.cell? ⟨p, 0, none⟩ = some (.int .i64 (un : Int)) := HP7.out.cell 0
              have c1' : w7.cell? ⟨p, 1, none⟩ = some (.int .i64 (cf : Int)) := HP7.out.cell 1
              have ch7 : w7.cell? ⟨b1, o1 + un, none⟩ = some (.bool true) := by
                rw [← hch]
                exact (HH.out _ (HB4.out.trans (HL7.out.mono HB4.out.size)) un q1).trans (HH.out _ HB6.out un q1).symm
              have HCP7 := hideIt (fun h0 : 0 < k => (hb7.cell (p := ⟨b, o + (k - 1) * 2, none⟩) (Nat.lt_of_lt_of_le HBB.out HLW.out.size)).trans (HCP.out h0))
              rw [← hp, ← hw7]
              have hu0 : decide ((un : Int) < 0) = false := decide_eq_false (by omega)
              have hlss : binOp .lss 3 (.int .i64 (un : Int)) (.int .i64 0) = pure (.bool false) := by rw [binOp_lss, decide_eq_false (by omega)]
              have hge : binOp .geq 3 (.int .i64 (un : Int)) (.int .i64 (l1.length : Int)) = pure (.bool false) := by rw [binOp_geq, decide_eq_false (by omega)]
              have hcz : binOp .eql 3 (.int .i64 (cf : Int)) (.int .i64 0) = pure (.bool false) := by rw [i_eql, decide_eq_false (by omega)]
              clear hp hw7 hb7 hcu hcc hch HCP
              by_cases hk0 : 0 < k
              · have hgt : binOp .gtr 3 (.int .i64 (k : Int)) (.int .i64 0) = pure (.bool true) := by rw [binOp_gtr, decide_eq_true (by omega)]
                have hsb := sub_nat 3 k 1 (by omega) (by omega)
                have hpv := HPV.out hk0
                have cpv := HCP7.out hk0
                have hgp : binOp .geq 3 (.int .i64 ((L[k - 1]).1 : Int)) (.int .i64 (un : Int)) = pure (.bool false) := by rw [binOp_geq, decide_eq_false (by omega)]
                have hk1 : ((k - 1 : Nat) : Int) < (L.length : Int) := by omega
                generalize (L[k - 1]).1 = up at *
                clear HPV HCP7 hpv
                go_quiet (fail)
                obtain ⟨w8, hw8⟩ : ∃ W, W = w7.drewN nq := ⟨_, rfl⟩
                have HL8 := hideIt (show Below w4.heap.size w4 w8 by rw [hw8]; exact below_drewN HL7.out nq)
                have HP8 := hideIt (show Blk w8 p 63 [.int .i64 (un : Int), .int .i64 (cf : Int)] by rw [hw8]; exact HP7.out)
                have HG8 := hideIt (show Blk w8 w4.heap.size 3 ((nl n F).map iv) by rw [hw8]; exact HG7.out)
                have HB8 := hideIt (HB4.out.trans (HL8.out.mono HB4.out.size))
                have d0 : w8.cell? ⟨p, 0, none⟩ = some (.int .i64 (un : Int)) := HP8.out.cell 0
                have HRU := hideIt (HRW.out _ HB8.out un q1)
                rw [← hw8]
                clear hw8 HL7 HP7 HG7 c0 c1' ch7 hgt hlss hge hcz hu0
                go_wp2_with (first
                  | (go_at_call 38; refine HRU.out.mono ?_; rintro e w9 ⟨B9, c9, rfl, hs9, hq9, hb9⟩; have HB9 := hideIt (HB8.out.trans (hb9.mono HB8.out.size)); have HL9 := hideIt (HL8.out.trans (hb9.mono HL8.out.size)); have HS9 := hideIt hs9; have HQ9 := hideIt hq9; have HP9 := hideIt (HP8.out.kept hb9 HP8.out.lt); have HG9 := hideIt (HG8.out.kept hb9 HG8.out.lt); have c29 := HC2.out _ HB9.out; clear hs9 hq9 hb9 HRU)
                  | ((with_reducible refine at_load ?_); refine wpList_ldC (by kernel_rfl) (.tmp 3) rfl (p := w.heap.size) (c := c0) rfl (HBC.out.keep HB8.out).box ?_))
                clear d0 c29
                have HZ8 := hideIt (show w4.heap.size < w8.heap.size from HG8.out.lt)
                go_loopg [6, 16, 17, 18] n (fun gk s6 s16 s17 s18 wr => ∃ j : Nat, j + gk = n ∧ s6 = .bool false ∧ s16 = .int .i64 (j : Int) ∧ Aside (Turned w4.heap.size w9 wr) ∧ Aside (Blk wr w4.heap.size 3 ((nl n (mixF m F (gC a0 un) cf j)).map iv)))
                case atStart => exact ⟨0, by omega, rfl, rfl, Turned.refl _ _, by rw [mix_zero]; exact HG9.out⟩
                case round =>
                  obtain ⟨j, hj, rfl, rfl, HTU, HGJ⟩ := hrel
                  obtain ⟨w10, rfl⟩ : ∃ x, x = wr := ⟨wr, rfl⟩
                  have HLJ := hideIt (HTU.out.below HL9.out (Nat.le_refl _))
                  have HBJ := hideIt (HB4.out.trans (HLJ.out.mono HB4.out.size))
                  have c2j := HC2.out _ HBJ.out
                  by_cases hjn : j < n
                  · have hjni : (j : Int) < (n : Int) := by omega
                    obtain ⟨b9, o9, v9, hA9, hbb9, hv9, hcc9⟩ := HS9.out.at_ hjn
                    rw [iv_at hjn] at hv9
                    injection hv9 with hv9
                    have hne9 : b9 ≠ w4.heap.size := by have := HQ9.out b9 o9 hA9; have := HZ8.out; omega
                    subst hA9 hv9
                    have ccm : w10.cell? ⟨w.heap.size, 1, none⟩ = some (.int .i64 (m : Int)) := HC1.out _ HBJ.out
                    have ccf : w10.cell? ⟨p, 1, none⟩ = some (.int .i64 (cf : Int)) := (HTU.out.cell HPG.out).trans (HP9.out.cell 1)
                    have ccr : w10.cell? ⟨b9, o9 + j, none⟩ = some (.int .i64 (gC a0 un j : Int)) := (HTU.out.cell hne9).trans hcc9
                    have hsm1 : mixF m F (gC a0 un) cf j j = F j := by unfold mixF; rw [if_neg (Nat.lt_irrefl _)]
                    have ccs : w10.cell? ⟨w4.heap.size, j, none⟩ = some (.int .i64 (F j : Int)) := by rw [HGJ.out.cell, iv_at hjn, hsm1]
                    have cfr : w10.frozen? ⟨w4.heap.size, j, none⟩ = false := HGJ.out.free j
                    have HMU := hideIt (fun W => rmul_any (m : Int) (cf : Int) (gC a0 un j : Int) W)
                    rw [mlR_is HMM.out q3 (HGV.out un j)] at HMU
                    have hxo := nxor 3 (F j) (mul m cf (gC a0 un j)) (by have := hfl j; have := HMB.out; omega) (by have := mul_lt HMM.out (gC a0 un j) q3; have := HMB.out; omega)
                    have HSET := hideIt (mix_set n m F (gC a0 un) cf j hjn)
                    have hinj := inc_c 3 j (by omega)
                    generalize hgv : gC a0 un j = gv at *
                    generalize hfv : F j = fv at *
                    generalize hmv : mul m cf gv = mv at *
                    change Hid (∀ W, Calls _ _ _ W fun e w' => e = .returned (.tuple #[.int .i64 (mv : Int), .int .i64 0]) ∧ W = w') at HMU
                    clear hcc9 hbb9 hsm1 hne9
                    go_wp2_with fail
                    refine loads_begin_n 14 [(12, fun W => W.cell? ⟨w.heap.size, 1, none⟩ = some (.int .i64 (m : Int))), (12, fun W => W.cell? ⟨p, 1, none⟩ = some (.int .i64 (cf : Int))), (12, fun W => W.cell? ⟨b9, o9 + j, none⟩ = some (.int .i64 (gv : Int)))] rfl (by kernel_rfl) ?_
                    refine wpAnyL_move (oi := ⟨some 127, _, _, _, _, _⟩) 0 ?_ rfl (by kernel_rfl) (by kernel_rfl) (by kernel_rfl) (by kernel_rfl) (fun _ _ _ h => h) (by kernel_rfl) ?_ ((Hooks.add ccm (Hooks.add ccf (Hooks.add ccr (Hooks.nil _ _))))) ?_
                    rotate_left
                    · intro W'; go_simp; first | done | with_reducible rfl
                    try simp only [Act.put]
                    try simp only [List.setIfInBounds_toArray]
                    try simp only [List.set_cons_succ]
                    try simp only [List.set_cons_zero]
                    refine wpAnyL_take (oi := ⟨some 128, _, _, _, _, _⟩) 1 12 (.int .i64 (m : Int)) _ rfl (by kernel_rfl) (by kernel_rfl) (by kernel_rfl) (by kernel_rfl) (by kernel_rfl) (by kernel_rfl) (.head _) (fun _ _ _ h => h) (by kernel_rfl) (fun W' hW' => by (try dsimp only at hW'); go_simp) (Hooks.add ccm (Hooks.add ccf (Hooks.add ccr (Hooks.nil _ _)))) ?_
                    try simp only [Act.put]
                    try simp only [List.setIfInBounds_toArray]
                    try simp only [List.set_cons_succ]
                    try simp only [List.set_cons_zero]
                    refine wpAnyL_move (oi := ⟨some 129, _, _, _, _, _⟩) 2 ?_ rfl (by kernel_rfl) (by kernel_rfl) (by kernel_rfl) (by kernel_rfl) (fun _ _ _ h => h) (by kernel_rfl) ?_ ((Hooks.add ccm (Hooks.add ccf (Hooks.add ccr (Hooks.nil _ _))))) ?_
                    rotate_left
                    · intro W'; go_simp; first | done | with_reducible rfl
                    try simp only [Act.put]
                    try simp only [List.setIfInBounds_toArray]
                    try simp only [List.set_cons_succ]
                    try simp only [List.set_cons_zero]
                    refine wpAnyL_take (oi := ⟨some 130, _, _, _, _, _⟩) 3 12 (.int .i64 (cf : Int)) _ rfl (by kernel_rfl) (by kernel_rfl) (by kernel_rfl) (by kernel_rfl) (by kernel_rfl) (by kernel_rfl) (.tail _ (.head _)) (fun _ _ _ h => h) (by kernel_rfl) (fun W' hW' => by (try dsimp only at hW'); go_simp) (Hooks.add ccm (Hooks.add ccf (Hooks.add ccr (Hooks.nil _ _)))) ?_
                    try simp only [Act.put]
                    try simp only [List.setIfInBounds_toArray]
                    try simp only [List.set_cons_succ]
                    try simp only [List.set_cons_zero]
                    refine wpAnyL_move (oi := ⟨some 131, _, _, _, _, _⟩) 4 ?_ rfl (by kernel_rfl) (by kernel_rfl) (by kernel_rfl) (by kernel_rfl) (fun _ _ _ h => h) (by kernel_rfl) ?_ ((Hooks.add ccm (Hooks.add ccf (Hooks.add ccr (Hooks.nil _ _))))) ?_
                    rotate_left
                    · intro W'; go_simp; first | done | with_reducible rfl
                    try simp only [Act.put]
                    try simp only [List.setIfInBounds_toArray]
                    try simp only [List.set_cons_succ]
                    try simp only [List.set_cons_zero]
                    refine wpAnyL_move (oi := ⟨some 132, _, _, _, _, _⟩) 5 ?_ rfl (by kernel_rfl) (by kernel_rfl) (by kernel_rfl) (by kernel_rfl) (fun _ _ _ h => h) (by kernel_rfl) ?_ ((Hooks.add ccm (Hooks.add ccf (Hooks.add ccr (Hooks.nil _ _))))) ?_
                    rotate_left
                    · intro W'; go_simp; first | done | with_reducible rfl
                    try simp only [Act.put]
                    try simp only [List.setIfInBounds_toArray]
                    try simp only [List.set_cons_succ]
                    try simp only [List.set_cons_zero]
                    refine wpAnyL_move (oi := ⟨some 133, _, _, _, _, _⟩) 6 ?_ rfl (by kernel_rfl) (by kernel_rfl) (by kernel_rfl) (by kernel_rfl) (fun _ _ _ h => h) (by kernel_rfl) ?_ ((Hooks.add ccm (Hooks.add ccf (Hooks.add ccr (Hooks.nil _ _))))) ?_
                    rotate_left
                    · intro W'; go_simp; first | done | with_reducible rfl
                    try simp only [Act.put]
                    try simp only [List.setIfInBounds_toArray]
                    try simp only [List.set_cons_succ]
                    try simp only [List.set_cons_zero]
                    refine wpAnyL_take (oi := ⟨some 134, _, _, _, _, _⟩) 7 12 (.int .i64 (gv : Int)) _ rfl (by kernel_rfl) (by kernel_rfl) (by kernel_rfl) (by kernel_rfl) (by kernel_rfl) (by kernel_rfl) (.tail _ (.tail _ (.head _))) (fun _ _ _ h => h) (by kernel_rfl) (fun W' hW' => by (try dsimp only at hW'); go_simp) (Hooks.add ccm (Hooks.add ccf (Hooks.add ccr (Hooks.nil _ _)))) ?_
                    try simp only [Act.put]
                    try simp only [List.setIfInBounds_toArray]
                    try simp only [List.set_cons_succ]
                    try simp only [List.set_cons_zero]
                    refine wpAnyL_one (o := ⟨some 135, _, _, _, _, _⟩) 8 (by kernel_rfl) rfl (fun K hK => ?_)
                    go_wp2_with (first
                      | (go_at_call 39; refine (HMU.out _).mono ?_; rintro e w11 ⟨rfl, rfl⟩))
                    refine hK _ _ (Hooks.add ccm (Hooks.add ccf (Hooks.add ccr (Hooks.nil _ _)))) ?_
                    clear hK K
                    refine wpAnyL_move (oi := ⟨some 126, _, _, _, _, _⟩) 9 ?_ rfl (by kernel_rfl) (by kernel_rfl) (by kernel_rfl) (by kernel_rfl) (fun _ _ _ h => h) (by kernel_rfl) ?_ ((Hooks.add ccm (Hooks.add ccf (Hooks.add ccr (Hooks.nil _ _))))) ?_
                    rotate_left
                    · intro W'; go_simp; first | done | with_reducible rfl
                    try simp only [Act.put]
                    try simp only [List.setIfInBounds_toArray]
                    try simp only [List.set_cons_succ]
                    try simp only [List.set_cons_zero]
                    refine wpAnyL_move (oi := ⟨some 136, _, _, _, _, _⟩) 10 ?_ rfl (by kernel_rfl) (by kernel_rfl) (by kernel_rfl) (by kernel_rfl) (fun _ _ _ h => h) (by kernel_rfl) ?_ ((Hooks.add ccm (Hooks.add ccf (Hooks.add ccr (Hooks.nil _ _))))) ?_
                    rotate_left
                    · intro W'; go_simp; first | done | with_reducible rfl
                    try simp only [Act.put]
                    try simp only [List.setIfInBounds_toArray]
                    try simp only [List.set_cons_succ]
                    try simp only [List.set_cons_zero]
                    refine wpAnyL_move (oi := ⟨some 137, _, _, _, _, _⟩) 11 ?_ rfl (by kernel_rfl) (by kernel_rfl) (by kernel_rfl) (by kernel_rfl) (fun _ _ _ h => h) (by kernel_rfl) ?_ ((Hooks.add ccm (Hooks.add ccf (Hooks.add ccr (Hooks.nil _ _))))) ?_
                    rotate_left
                    · intro W'; go_simp; first | done | with_reducible rfl
                    try simp only [Act.put]
                    try simp only [List.setIfInBounds_toArray]
                    try simp only [List.set_cons_succ]
                    try simp only [List.set_cons_zero]
                    refine loads_tail 12 (by kernel_rfl) (by kernel_rfl) (by kernel_rfl) (by kernel_rfl) ?_
                    simp only [List.drop_succ_cons, List.drop_zero]
                    obtain ⟨w12, hw12⟩ : ∃ W, W = w10.drew := ⟨_, rfl⟩
                    have H12 := hideIt (show Turned w4.heap.size w9 w12 ∧ Blk w12 w4.heap.size 3 ((nl n (mixF m F (gC a0 un) cf j)).map iv) by rw [hw12]; exact ⟨HTU.out.trans (Turned.drewN _ w10 1), HGJ.out⟩)
                    have dcs : w12.cell? ⟨w4.heap.size, j, none⟩ = some (.int .i64 (fv : Int)) := by rw [hw12]; exact ccs
                    have dfr : w12.frozen? ⟨w4.heap.size, j, none⟩ = false := by rw [hw12]; exact cfr
                    rw [← hw12]
                    clear hw12 ccm ccf ccr ccs cfr HMU c2j
                    go_wp2_with fail
                    go_roundg (gk - 1)
                    case measure => omega
                    case rel => exact ⟨j + 1, by omega, rfl, by go_num, H12.out.1.trans (Turned.set _ _ _ _), by
                      have := H12.out.2.store j (.int .i64 ((fv ^^^ mv : Nat) : Int))
                      rw [HSET.out] at this
                      exact this⟩
                  · have hjni : ¬ (j : Int) < (n : Int) := by omega
                    have hjn2 : j = n := by omega
                    subst hjn2
                    go_wp2_with fail
                    go_roundg (g1 - 1)
                    case measure => omega
                    case rel => exact ⟨k + 1, by omega, rfl, by go_num, HLJ.out, by
                      rw [nl_congr (g := mixF m F (gC a0 un) cf j) (fun c hc => by unfold mixF; rw [if_pos hc, HTK.out c])]
                      exact HGJ.out⟩
              · have hgt : binOp .gtr 3 (.int .i64 (k : Int)) (.int .i64 0) = pure (.bool false) := by rw [binOp_gtr, decide_eq_false (by omega)]
                clear HPV HCP7
                go_quiet (fail)
                obtain ⟨w8, hw8⟩ : ∃ W, W = w7.drewN nq := ⟨_, rfl⟩
                have HL8 := hideIt (show Below w4.heap.size w4 w8 by rw [hw8]; exact below_drewN HL7.out nq)
                have HP8 := hideIt (show Blk w8 p 63 [.int .i64 (un : Int), .int .i64 (cf : Int)] by rw [hw8]; exact HP7.out)
                have HG8 := hideIt (show Blk w8 w4.heap.size 3 ((nl n F).map iv) by rw [hw8]; exact HG7.out)
                have HB8 := hideIt (HB4.out.trans (HL8.out.mono HB4.out.size))
                have d0 : w8.cell? ⟨p, 0, none⟩ = some (.int .i64 (un : Int)) := HP8.out.cell 0
                have HRU := hideIt (HRW.out _ HB8.out un q1)
                rw [← hw8]
                clear hw8 HL7 HP7 HG7 c0 c1' ch7 hgt hlss hge hcz hu0
                go_wp2_with (first
                  | (go_at_call 38; refine HRU.out.mono ?_; rintro e w9 ⟨B9, c9, rfl, hs9, hq9, hb9⟩; have HB9 := hideIt (HB8.out.trans (hb9.mono HB8.out.size)); have HL9 := hideIt (HL8.out.trans (hb9.mono HL8.out.size)); have HS9 := hideIt hs9; have HQ9 := hideIt hq9; have HP9 := hideIt (HP8.out.kept hb9 HP8.out.lt); have HG9 := hideIt (HG8.out.kept hb9 HG8.out.lt); have c29 := HC2.out _ HB9.out; clear hs9 hq9 hb9 HRU)
                  | ((with_reducible refine at_load ?_); refine wpList_ldC (by kernel_rfl) (.tmp 3) rfl (p := w.heap.size) (c := c0) rfl (HBC.out.keep HB8.out).box ?_))
                clear d0 c29
                have HZ8 := hideIt (show w4.heap.size < w8.heap.size from HG8.out.lt)
                go_loopg [6, 16, 17, 18] n (fun gk s6 s16 s17 s18 wr => ∃ j : Nat, j + gk = n ∧ s6 = .bool false ∧ s16 = .int .i64 (j : Int) ∧ Aside (Turned w4.heap.size w9 wr) ∧ Aside (Blk wr w4.heap.size 3 ((nl n (mixF m F (gC a0 un) cf j)).map iv)))
                case atStart => exact ⟨0, by omega, rfl, rfl, Turned.refl _ _, by rw [mix_zero]; exact HG9.out⟩
                case round =>
                  obtain ⟨j, hj, rfl, rfl, HTU, HGJ⟩ := hrel
                  obtain ⟨w10, rfl⟩ : ∃ x, x = wr := ⟨wr, rfl⟩
                  have HLJ := hideIt (HTU.out.below HL9.out (Nat.le_refl _))
                  have HBJ := hideIt (HB4.out.trans (HLJ.out.mono HB4.out.size))
                  have c2j := HC2.out _ HBJ.out
                  by_cases hjn : j < n
                  · have hjni : (j : Int) < (n : Int) := by omega
                    obtain ⟨b9, o9, v9, hA9, hbb9, hv9, hcc9⟩ := HS9.out.at_ hjn
                    rw [iv_at hjn] at hv9
                    injection hv9 with hv9
                    have hne9 : b9 ≠ w4.heap.size := by have := HQ9.out b9 o9 hA9; have := HZ8.out; omega
                    subst hA9 hv9
                    have ccm : w10.cell? ⟨w.heap.size, 1, none⟩ = some (.int .i64 (m : Int)) := HC1.out _ HBJ.out
                    have ccf : w10.cell? ⟨p, 1, none⟩ = some (.int .i64 (cf : Int)) := (HTU.out.cell HPG.out).trans (HP9.out.cell 1)
                    have ccr : w10.cell? ⟨b9, o9 + j, none⟩ = some (.int .i64 (gC a0 un j : Int)) := (HTU.out.cell hne9).trans hcc9
                    have hsm1 : mixF m F (gC a0 un) cf j j = F j := by unfold mixF; rw [if_neg (Nat.lt_irrefl _)]
                    have ccs : w10.cell? ⟨w4.heap.size, j, none⟩ = some (.int .i64 (F j : Int)) := by rw [HGJ.out.cell, iv_at hjn, hsm1]
                    have cfr : w10.frozen? ⟨w4.heap.size, j, none⟩ = false := HGJ.out.free j
                    have HMU := hideIt (fun W => rmul_any (m : Int) (cf : Int) (gC a0 un j : Int) W)
                    rw [mlR_is HMM.out q3 (HGV.out un j)] at HMU
                    have hxo := nxor 3 (F j) (mul m cf (gC a0 un j)) (by have := hfl j; have := HMB.out; omega) (by have := mul_lt HMM.out (gC a0 un j) q3; have := HMB.out; omega)
                    have HSET := hideIt (mix_set n m F (gC a0 un) cf j hjn)
                    have hinj := inc_c 3 j (by omega)
                    generalize hgv : gC a0 un j = gv at *
                    generalize hfv : F j = fv at *
                    generalize hmv : mul m cf gv = mv at *
                    change Hid (∀ W, Calls _ _ _ W fun e w' => e = .returned (.tuple #[.int .i64 (mv : Int), .int .i64 0]) ∧ W = w') at HMU
                    clear hcc9 hbb9 hsm1 hne9
                    go_wp2_with fail
                    refine loads_begin_n 14 [(12, fun W => W.cell? ⟨w.heap.size, 1, none⟩ = some (.int .i64 (m : Int))), (12, fun W => W.cell? ⟨p, 1, none⟩ = some (.int .i64 (cf : Int))), (12, fun W => W.cell? ⟨b9, o9 + j, none⟩ = some (.int .i64 (gv : Int)))] rfl (by kernel_rfl) ?_
                    refine wpAnyL_move (oi := ⟨some 127, _, _, _, _, _⟩) 0 ?_ rfl (by kernel_rfl) (by kernel_rfl) (by kernel_rfl) (by kernel_rfl) (fun _ _ _ h => h) (by kernel_rfl) ?_ ((Hooks.add ccm (Hooks.add ccf (Hooks.add ccr (Hooks.nil _ _))))) ?_
                    rotate_left
                    · intro W'; go_simp; first | done | with_reducible rfl
                    try simp only [Act.put]
                    try simp only [List.setIfInBounds_toArray]
                    try simp only [List.set_cons_succ]
                    try simp only [List.set_cons_zero]
                    refine wpAnyL_take (oi := ⟨some 128, _, _, _, _, _⟩) 1 12 (.int .i64 (m : Int)) _ rfl (by kernel_rfl) (by kernel_rfl) (by kernel_rfl) (by kernel_rfl) (by kernel_rfl) (by kernel_rfl) (.head _) (fun _ _ _ h => h) (by kernel_rfl) (fun W' hW' => by (try dsimp only at hW'); go_simp) (Hooks.add ccm (Hooks.add ccf (Hooks.add ccr (Hooks.nil _ _)))) ?_
                    try simp only [Act.put]
                    try simp only [List.setIfInBounds_toArray]
                    try simp only [List.set_cons_succ]
                    try simp only [List.set_cons_zero]
                    refine wpAnyL_move (oi := ⟨some 129, _, _, _, _, _⟩) 2 ?_ rfl (by kernel_rfl) (by kernel_rfl) (by kernel_rfl) (by kernel_rfl) (fun _ _ _ h => h) (by kernel_rfl) ?_ ((Hooks.add ccm (Hooks.add ccf (Hooks.add ccr (Hooks.nil _ _))))) ?_
                    rotate_left
                    · intro W'; go_simp; first | done | with_reducible rfl
                    try simp only [Act.put]
                    try simp only [List.setIfInBounds_toArray]
                    try simp only [List.set_cons_succ]
                    try simp only [List.set_cons_zero]
                    refine wpAnyL_take (oi := ⟨some 130, _, _, _, _, _⟩) 3 12 (.int .i64 (cf : Int)) _ rfl (by kernel_rfl) (by kernel_rfl) (by kernel_rfl) (by kernel_rfl) (by kernel_rfl) (by kernel_rfl) (.tail _ (.head _)) (fun _ _ _ h => h) (by kernel_rfl) (fun W' hW' => by (try dsimp only at hW'); go_simp) (Hooks.add ccm (Hooks.add ccf (Hooks.add ccr (Hooks.nil _ _)))) ?_
                    try simp only [Act.put]
                    try simp only [List.setIfInBounds_toArray]
                    try simp only [List.set_cons_succ]
                    try simp only [List.set_cons_zero]
                    refine wpAnyL_move (oi := ⟨some 131, _, _, _, _, _⟩) 4 ?_ rfl (by kernel_rfl) (by kernel_rfl) (by kernel_rfl) (by kernel_rfl) (fun _ _ _ h => h) (by kernel_rfl) ?_ ((Hooks.add ccm (Hooks.add ccf (Hooks.add ccr (Hooks.nil _ _))))) ?_
                    rotate_left
                    · intro W'; go_simp; first | done | with_reducible rfl
                    try simp only [Act.put]
                    try simp only [List.setIfInBounds_toArray]
                    try simp only [List.set_cons_succ]
                    try simp only [List.set_cons_zero]
                    refine wpAnyL_move (oi := ⟨some 132, _, _, _, _, _⟩) 5 ?_ rfl (by kernel_rfl) (by kernel_rfl) (by kernel_rfl) (by kernel_rfl) (fun _ _ _ h => h) (by kernel_rfl) ?_ ((Hooks.add ccm (Hooks.add ccf (Hooks.add ccr (Hooks.nil _ _))))) ?_
                    rotate_left
                    · intro W'; go_simp; first | done | with_reducible rfl
                    try simp only [Act.put]
                    try simp only [List.setIfInBounds_toArray]
                    try simp only [List.set_cons_succ]
                    try simp only [List.set_cons_zero]
                    refine wpAnyL_move (oi := ⟨some 133, _, _, _, _, _⟩) 6 ?_ rfl (by kernel_rfl) (by kernel_rfl) (by kernel_rfl) (by kernel_rfl) (fun _ _ _ h => h) (by kernel_rfl) ?_ ((Hooks.add ccm (Hooks.add ccf (Hooks.add ccr (Hooks.nil _ _))))) ?_
                    rotate_left
                    · intro W'; go_simp; first | done | with_reducible rfl
                    try simp only [Act.put]
                    try simp only [List.setIfInBounds_toArray]
                    try simp only [List.set_cons_succ]
                    try simp only [List.set_cons_zero]
                    refine wpAnyL_take (oi := ⟨some 134, _, _, _, _, _⟩) 7 12 (.int .i64 (gv : Int)) _ rfl (by kernel_rfl) (by kernel_rfl) (by kernel_rfl) (by kernel_rfl) (by kernel_rfl) (by kernel_rfl) (.tail _ (.tail _ (.head _))) (fun _ _ _ h => h) (by kernel_rfl) (fun W' hW' => by (try dsimp only at hW'); go_simp) (Hooks.add ccm (Hooks.add ccf (Hooks.add ccr (Hooks.nil _ _)))) ?_
                    try simp only [Act.put]
                    try simp only [List.setIfInBounds_toArray]
                    try simp only [List.set_cons_succ]
                    try simp only [List.set_cons_zero]
                    refine wpAnyL_one (o := ⟨some 135, _, _, _, _, _⟩) 8 (by kernel_rfl) rfl (fun K hK => ?_)
                    go_wp2_with (first
                      | (go_at_call 39; refine (HMU.out _).mono ?_; rintro e w11 ⟨rfl, rfl⟩))
                    refine hK _ _ (Hooks.add ccm (Hooks.add ccf (Hooks.add ccr (Hooks.nil _ _)))) ?_
                    clear hK K
                    refine wpAnyL_move (oi := ⟨some 126, _, _, _, _, _⟩) 9 ?_ rfl (by kernel_rfl) (by kernel_rfl) (by kernel_rfl) (by kernel_rfl) (fun _ _ _ h => h) (by kernel_rfl) ?_ ((Hooks.add ccm (Hooks.add ccf (Hooks.add ccr (Hooks.nil _ _))))) ?_
                    rotate_left
                    · intro W'; go_simp; first | done | with_reducible rfl
                    try simp only [Act.put]
                    try simp only [List.setIfInBounds_toArray]
                    try simp only [List.set_cons_succ]
                    try simp only [List.set_cons_zero]
                    refine wpAnyL_move (oi := ⟨some 136, _, _, _, _, _⟩) 10 ?_ rfl (by kernel_rfl) (by kernel_rfl) (by kernel_rfl) (by kernel_rfl) (fun _ _ _ h => h) (by kernel_rfl) ?_ ((Hooks.add ccm (Hooks.add ccf (Hooks.add ccr (Hooks.nil _ _))))) ?_
                    rotate_left
                    · intro W'; go_simp; first | done | with_reducible rfl
                    try simp only [Act.put]
                    try simp only [List.setIfInBounds_toArray]
                    try simp only [List.set_cons_succ]
                    try simp only [List.set_cons_zero]
                    refine wpAnyL_move (oi := ⟨some 137, _, _, _, _, _⟩) 11 ?_ rfl (by kernel_rfl) (by kernel_rfl) (by kernel_rfl) (by kernel_rfl) (fun _ _ _ h => h) (by kernel_rfl) ?_ ((Hooks.add ccm (Hooks.add ccf (Hooks.add ccr (Hooks.nil _ _))))) ?_
                    rotate_left
                    · intro W'; go_simp; first | done | with_reducible rfl
                    try simp only [Act.put]
                    try simp only [List.setIfInBounds_toArray]
                    try simp only [List.set_cons_succ]
                    try simp only [List.set_cons_zero]
                    refine loads_tail 12 (by kernel_rfl) (by kernel_rfl) (by kernel_rfl) (by kernel_rfl) ?_
                    simp only [List.drop_succ_cons, List.drop_zero]
                    obtain ⟨w12, hw12⟩ : ∃ W, W = w10.drew := ⟨_, rfl⟩
                    have H12 := hideIt (show Turned w4.heap.size w9 w12 ∧ Blk w12 w4.heap.size 3 ((nl n (mixF m F (gC a0 un) cf j)).map iv) by rw [hw12]; exact ⟨HTU.out.trans (Turned.drewN _ w10 1), HGJ.out⟩)
                    have dcs : w12.cell? ⟨w4.heap.size, j, none⟩ = some (.int .i64 (fv : Int)) := by rw [hw12]; exact ccs
                    have dfr : w12.frozen? ⟨w4.heap.size, j, none⟩ = false := by rw [hw12]; exact cfr
                    rw [← hw12]
                    clear hw12 ccm ccf ccr ccs cfr HMU c2j
                    go_wp2_with fail
                    go_roundg (gk - 1)
                    case measure => omega
                    case rel => exact ⟨j + 1, by omega, rfl, by go_num, H12.out.1.trans (Turned.set _ _ _ _), by
                      have := H12.out.2.store j (.int .i64 ((fv ^^^ mv : Nat) : Int))
                      rw [HSET.out] at this
                      exact this⟩
                  · have hjni : ¬ (j : Int) < (n : Int) := by omega
                    have hjn2 : j = n := by omega
                    subst hjn2
                    go_wp2_with fail
                    go_roundg (g1 - 1)
                    case measure => omega
                    case rel => exact ⟨k + 1, by omega, rfl, by go_num, HLJ.out, by
                      rw [nl_congr (g := mixF m F (gC a0 un) cf j) (fun c hc => by unfold mixF; rw [if_pos hc, HTK.out c])]
                      exact HGJ.out⟩
            · have hkL : ¬ (k : Int) < (L.length : Int) := by omega
              have hke : k = L.length := by omega
              subst hke
              have HG6 := hideIt (show Blk w6 w4.heap.size 3 ((nl n (gC a0 iu)).map iv) by
                have := HG.out
                rw [List.take_length, nl_congr (HLS.out)] at this
                exact this)
              have HRI := hideIt (HRW.out _ HB6.out iu hk)
              have HSI := hideIt (fun (W : World) (A : Option Addr) c (h1 : Sl W W.heap.size (some ⟨w4.heap.size, 0, none⟩) 1 n ((nl n (gC a0 iu)).map iv)) (h2 : Sl W W.heap.size A 1 n ((nl n (gC a0 iu)).map iv)) => by
                have := sameInts_any (nl n (gC a0 iu)) (nl n (gC a0 iu)) (some ⟨w4.heap.size, 0, none⟩) A n c W (by rw [nl_len]; exact h1) (by rw [nl_len]; exact h2) (by rw [nl_len]; omega)
                rw [nl_len, decide_eq_true rfl] at this
                exact this)
              clear HG
              go_wp2_with (first
                | (go_at_call 38; refine HRI.out.mono ?_; rintro e w7 ⟨B7, c7, rfl, hs7, _, hb7⟩; have HB7 := hideIt (HB6.out.trans (hb7.mono HB6.out.size)); have HS7 := hideIt hs7; have HG7 := hideIt (HG6.out.kept hb7 HG6.out.lt); clear hs7 hb7 HRI)
                | (go_at_call 18; refine (HSI.out _ _ _ (sl_blk HG7.out (by rw [List.length_map, nl_len])) HS7.out).mono ?_; rintro e w8 ⟨rfl, nq, rfl⟩; clear HSI)
                | ((with_reducible refine at_load ?_); refine wpList_ldC (by kernel_rfl) (.tmp 3) rfl (p := w.heap.size) (c := c0) rfl (HBC.out.keep HB6.out).box ?_))
              go_ret
              exact ⟨rfl, HB0.out.trans ((below_drewN HB7.out nq).mono HB0.out.size)⟩
        · have ht : trmR a0 l1 iu = ([], 11) := by unfold trmR; rw [if_neg hr]
          rw [ht] at hcomb
          have HCM := hideIt (HCO.out [] 11 hcomb)
          have hbf : l1.getD iu false = false := by
            cases hb : l1.getD iu false with
            | false => rfl
            | true => exact absurd ((recov_vc hvc l1 iu).2 (by rw [basL_vc hvc]; exact bas_span hvc.fm (gC_v hvc) l1.length iu hk hb)) hr
          have hee : binOp .eql 3 (.int .i64 ((0 : Nat) : Int)) (.int .i64 0) = pure (.bool true) := by rw [i_eql]; rfl
          clear hsm hz hvC hok hvc hN hkd hbb1 hcc1 hcomb hr ht HCO HRW
          rw [← hle] at hq0 hq1 HWI
          clear hle
          go_enter Tryd.func10, Tryd.ntmps10
          go_wp2_with (first
            | (go_at_call 11; rw [← HWE.out]; refine HSA.out.mono ?_; rintro e w1 ⟨rfl, hb1⟩; have HB1 := hideIt hb1; clear hb1 HSA) | (go_at_call 21; refine (HWI.out _ HB1.out).mono ?_; rintro e w2 ⟨rfl, hb2⟩; have HB2 := hideIt (HB1.out.trans (hb2.mono HB1.out.size)); clear hb2 HWI) | (go_at_call 12; refine (HSM.out _ HB2.out).mono ?_; rintro e w3 ⟨rfl, hb3⟩; have HB3 := hideIt (HB2.out.trans (hb3.mono HB2.out.size)); clear hb3 HSM) | ((with_reducible refine at_load ?_); refine wpList_ldC (by kernel_rfl) (.tmp 3) rfl (p := w.heap.size) (c := c0) rfl (HBC.out.keep HB3.out).box ?_) | ((with_reducible refine at_load ?_); refine wpList_ldC (by kernel_rfl) (.tmp 3) rfl (p := w.heap.size) (c := c0) rfl (HBC.out.keep HB2.out).box ?_) | ((with_reducible refine at_load ?_); refine wpList_ldC (by kernel_rfl) (.tmp 3) rfl (p := w.heap.size) (c := c0) rfl (HBC.out.keep HB1.out).box ?_)
            | (go_at_call 26; refine (HCM.out _ HB3.out).mono ?_; rintro e w4 ⟨B4, c4, rfl, hs4, hb4⟩; have HB4 := hideIt (HB3.out.trans (hb4.mono HB3.out.size)); have ch4 := HH.out _ HB4.out iu hk; rw [hbf] at ch4; clear hb4 hs4 HCM))
          go_ret
          exact ⟨rfl, HB0.out.trans (HB4.out.mono HB0.out.size)⟩
      · rw [decide_eq_true (show (l1.length : Int) ≠ wC a0 from hle)] at hq1
        clear hsm hz hle
        generalize wC a0 = wz at *
        go_enter Tryd.func10, Tryd.ntmps10
        go_wp2_with (first | (go_at_call 11; rw [← HWE.out]; refine HSA.out.mono ?_; rintro e w1 ⟨rfl, hb1⟩; have HB1 := hideIt hb1; clear hb1 HSA) | (go_at_call 21; refine (HWI.out _ HB1.out).mono ?_; rintro e w2 ⟨rfl, hb2⟩; have HB2 := hideIt (HB1.out.trans (hb2.mono HB1.out.size)); clear hb2 HWI) | (go_at_call 12; refine (HSM.out _ HB2.out).mono ?_; rintro e w3 ⟨rfl, hb3⟩; have HB3 := hideIt (HB2.out.trans (hb3.mono HB2.out.size)); clear hb3 HSM) | ((with_reducible refine at_load ?_); refine wpList_ldC (by kernel_rfl) (.tmp 3) rfl (p := w.heap.size) (c := c0) rfl (HBC.out.keep HB3.out).box ?_) | ((with_reducible refine at_load ?_); refine wpList_ldC (by kernel_rfl) (.tmp 3) rfl (p := w.heap.size) (c := c0) rfl (HBC.out.keep HB2.out).box ?_) | ((with_reducible refine at_load ?_); refine wpList_ldC (by kernel_rfl) (.tmp 3) rfl (p := w.heap.size) (c := c0) rfl (HBC.out.keep HB1.out).box ?_))
        go_ret
        exact ⟨rfl, HB0.out.trans (HB3.out.mono HB0.out.size)⟩
  · rw [Bool.eq_false_iff.2 hsm] at HSM
    clear hsm
    generalize wC a0 = wz at *
    go_enter Tryd.func10, Tryd.ntmps10
    go_wp2_with (first | (go_at_call 11; rw [← HWE.out]; refine HSA.out.mono ?_; rintro e w1 ⟨rfl, hb1⟩; have HB1 := hideIt hb1; clear hb1 HSA) | (go_at_call 21; refine (HWI.out _ HB1.out).mono ?_; rintro e w2 ⟨rfl, hb2⟩; have HB2 := hideIt (HB1.out.trans (hb2.mono HB1.out.size)); clear hb2 HWI) | (go_at_call 12; refine (HSM.out _ HB2.out).mono ?_; rintro e w3 ⟨rfl, hb3⟩; have HB3 := hideIt (HB2.out.trans (hb3.mono HB2.out.size)); clear hb3 HSM) | ((with_reducible refine at_load ?_); refine wpList_ldC (by kernel_rfl) (.tmp 3) rfl (p := w.heap.size) (c := c0) rfl (HBC.out.keep HB3.out).box ?_) | ((with_reducible refine at_load ?_); refine wpList_ldC (by kernel_rfl) (.tmp 3) rfl (p := w.heap.size) (c := c0) rfl (HBC.out.keep HB2.out).box ?_) | ((with_reducible refine at_load ?_); refine wpList_ldC (by kernel_rfl) (.tmp 3) rfl (p := w.heap.size) (c := c0) rfl (HBC.out.keep HB1.out).box ?_))
    go_ret
    exact ⟨rfl, HB0.out.trans (HB3.out.mono HB0.out.size)⟩

end Go.Proofs.YtpjgmekpnlpjaaaDoor.erasureCoefficientsAddUp
