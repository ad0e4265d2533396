/-
  The reference's terms, walked.
-/
import Derived.Test.YtklngodlijiccaaDoorRepU
namespace Go.Proofs.YtklngodlijiccaaDoor
open Go.RowKit
set_option linter.unusedVariables false
set_option linter.unusedSimpArgs false

theorem divR_is {m x y : Nat} (hm : Fm m) (hx : x < 2 ^ m) (hy : y < 2 ^ m) (h0 : y ≠ 0) : divR (m : Int) (x : Int) (y : Int) = (mul m x (inv m y), 0) := by
  unfold divR
  rw [if_pos (vd_true hm hx), invR_is hm hy h0, if_pos rfl, Int.toNat_natCast, Int.toNat_natCast]
/-- The terms of the first k units. -/
def trG (m : Nat) (q : List Nat) (G : Nat → Nat) (u k : Nat) : List (Nat × Nat) := ((q.take k).filter fun k => decide (k ≠ u)).map fun k => (k, mul m (G k) (inv m (G u)))
theorem trG_next (m : Nat) (q : List Nat) (G : Nat → Nat) (u : Nat) {k : Nat} (hk : k < q.length) : trG m q G u (k + 1) = if q[k] = u then trG m q G u k else trG m q G u k ++ [(q[k], mul m (G q[k]) (inv m (G u)))] := by
  unfold trG
  rw [take_snoc q k hk, List.filter_append, List.map_append]
  by_cases h : q[k] = u
  · rw [if_pos h, List.filter_cons, if_neg (by simp [h])]; simp
  · rw [if_neg h, List.filter_cons, if_pos (decide_eq_true h)]; rfl
theorem trG_len (m : Nat) (q : List Nat) (G : Nat → Nat) (u k : Nat) : (trG m q G u k).length ≤ k := by
  unfold trG
  rw [List.length_map]
  have h1 := List.length_filter_le (fun k => decide (k ≠ u)) (q.take k)
  have h2 : (q.take k).length ≤ k := by rw [List.length_take]; omega
  omega
theorem trC_trG {x : Cd} {m n : Nat} (h : VC x m n) (i u : Nat) : trC x i u = trG m (chk x i) (ckc x i) u (chk x i).length := by
  unfold trC trG
  rw [h.fn, List.take_of_length_le (Nat.le_refl _)]
theorem Sl.nat {w : World} {B : Nat} {A : Option Addr} {q : List Nat} (h : Sl w B A 1 q.length ((nI q).map iv)) {k : Nat} (hk : k < q.length) : ∃ b o, A = some ⟨b, o, none⟩ ∧ b < B ∧ w.cell? ⟨b, o + k, none⟩ = some (.int .i64 ((q[k] : Nat) : Int)) := by
  have h2 : Sl w B A 1 (nI q).length ((nI q).map iv) := by rw [nI_len]; exact h
  obtain ⟨b, o, e, hb, hc⟩ := h2.num (k := k) (by rw [nI_len]; exact hk)
  rw [List.getElem_map] at hc
  exact ⟨b, o, e, hb, hc⟩
set_option maxHeartbeats 2000000 in
set_option maxRecDepth 100000 in
theorem rterms_any {x : Cd} {m n : Nat} (hvc : VC x m n) (A : Option Addr) (c : Nat) (w : World) (hx : CIn w x A) (i : Nat) (hi : i < x.par.length) (u : Nat) (hu : u ∈ chk x i) (L : Option Addr) (cl : Nat) (hL : Sl w w.heap.size L 1 (chk x i).length ((nI (chk x i)).map iv)) :
    Calls Tryd.prog 40 #[x.v A c, .slice L (chk x i).length cl, .int .i64 (u : Int)] w fun e w' => ∃ v, e = .returned v ∧ w'.ownsRow w.heap.size 54 2 v (trC x i u).length (tcs (trC x i u)) ∧ Below w.heap.size w w' := by
  obtain ⟨W, hW⟩ : ∃ W, W = w.alloc (.cells (x.cs A c).toArray 24) := ⟨_, rfl⟩
  have hbw : Below w.heap.size w W := by rw [hW]; exact below_new w _
  have HB := hideIt hbw
  have HBC := hideIt (show BC W w.heap.size x A c by rw [hW]; exact BC.new c hx)
  have HL0 := hideIt ((hL.below hbw).wide hbw.size)
  have HWE := hideIt hW
  have hwid := hvc.wid
  have hcl := chk_len hvc i
  obtain ⟨b, o, A', c', hA, hb, hcell, hsl⟩ := HBC.out.cin.pm.row hi
  have hrl := (hvc.row _ (List.getElem_mem hi)).1
  have HGP := hideIt (fun (j : Nat) (q : j < x.par[i].length) => show ((ckc x i j : Nat) : Int) = x.par[i][j] by
    rw [show ckc x i j = gC x (n + i) j by unfold ckc; rw [hvc.dn, if_pos (by omega)]]
    exact gC_par hvc hi (by omega))
  have HG1 := hideIt (fun (j : Nat) (q : n ≤ j) => show ckc x i j = 1 by unfold ckc; rw [hvc.dn, if_neg (by omega)])
  have HMM := hideIt (fun (k : Nat) (h : k ∈ chk x i) => ckc_ne hvc h)
  have HLT := hideIt (fun (k : Nat) (h : k ∈ chk x i) => show k < n ∨ k = n + i from ((mem_chk hvc).1 h).imp (·.1) id)
  have hlast : ∀ h : (chk x i).length - 1 < (chk x i).length, (chk x i)[(chk x i).length - 1] = n + i := by
    intro h
    have e := chk_flt hvc i
    simp only [e, List.length_append, List.length_cons, List.length_nil, Nat.zero_add, Nat.add_sub_cancel]
    rw [List.getElem_append_right (Nat.le_refl _)]
    simp
  have HFM := hideIt hvc.fm
  have HXF := hideIt hvc.f
  have HXD := hideIt hvc.d
  have hip : (i : Int) < (x.par.length : Int) := by omega
  rw [trC_trG hvc]
  subst hA
  generalize x.par[i] = l at *
  generalize ckc x i = G at *
  generalize chk x i = q at *
  have hs1 := nsub_one 3 q.length (by omega) (by omega)
  have hs2 : binOp .sub 3 (.int .i64 ((n + i : Nat) : Int)) (.int .i64 (n : Int)) = pure (.int .i64 (i : Int)) := by
    have := nsub 3 (n + i) n (by omega) (by omega)
    rwa [Nat.add_sub_cancel_left] at this
  obtain ⟨aI, haI⟩ : ∃ a : Int, a = ((G u : Nat) : Int) := ⟨_, rfl⟩
  have HDV := hideIt (fun (y : Nat) (hy : y ∈ q) (xI : Int) (hxI : xI = ((G y : Nat) : Int)) (W2 : World) => show Calls Tryd.prog 59 #[.int .i64 (m : Int), .int .i64 xI, .int .i64 aI] W2 (fun e w' => e = .returned (.tuple #[.int .i64 ((mul m (G y) (inv m (G u)) : Nat) : Int), .int .i64 0]) ∧ W2 = w') by
    have := rdiv_any (m : Int) xI aI W2
    rw [hxI, haI, divR_is HFM.out (HMM.out y hy).2 (HMM.out u hu).2 (HMM.out u hu).1] at this
    rw [hxI, haI]
    exact this)
  obtain ⟨b2, o2, hA2, hb2, hc2⟩ := hsl.nums (by have := hvc.pos; omega)
  subst hA2
  have HC2 := hideIt hc2
  have HBB2 := hideIt hb2
  have hu2 : ((u : Int) < (n : Int) ∧ (u : Int) < (l.length : Int) ∧ W.cell? ⟨b2, o2 + u, none⟩ = some (.int .i64 aI)) ∨ (¬ (u : Int) < (n : Int) ∧ aI = 1) := by
    rcases HLT.out u hu with h | h
    · refine .inl ⟨by omega, by omega, ?_⟩
      rw [hc2 u (by omega), haI, HGP.out u (by omega)]
    · exact .inr ⟨by omega, by rw [haI, HG1.out u (by omega)]; rfl⟩
  obtain ⟨bL, oL, hLe, hbL, hcL⟩ := HL0.out.nat (k := q.length - 1) (by omega)
  rw [hlast (by omega)] at hcL
  subst hLe
  have HCL := hideIt hcell
  have HBB := hideIt hb
  have hqi : ((q.length - 1 : Nat) : Int) < (q.length : Int) := by omega
  have c2 := HBC.out.c2
  rw [HXD.out] at c2
  have c3 := HBC.out.c3
  have HO := hideIt (World.ownsRow_nil W W.heap.size 54 2)
  clear hbw hx hsl hb hvc hL hbL haI hlast hu hb2 hc2
  rw [HWE.out] at c2 c3 hcell hcL hu2
  rcases hu2 with ⟨hun, hul, hcu⟩ | ⟨hun, rfl⟩
  all_goals
  ·
    clear hW
    go_enter Tryd.func40, Tryd.ntmps40
    go_wp2_with fail
    rw [← HWE.out] at c2 c3 hcell hcL ⊢
    clear c2 c3 hcell hcL hs1 hs2 hqi
    try simp only [Nat.add_sub_cancel_left]
    go_loopg [10, 11] q.length (fun gk s10 s11 wr => ∃ k : Nat, k + gk = q.length ∧ s11 = .int .i64 (k : Int) ∧ Aside (wr.ownsRow W.heap.size 54 2 s10 (trG m q G u k).length (tcs (trG m q G u k))) ∧ Aside (Below W.heap.size W wr))
    case atStart => exact ⟨0, by omega, rfl, HO.out, Below.refl _ _⟩
    case round =>
      obtain ⟨k, hk, rfl, HO2, HL⟩ := hrel
      obtain ⟨w4, rfl⟩ : ∃ x, x = wr := ⟨wr, rfl⟩
      have HSZ := hideIt HL.out.size
      by_cases hlt : k < q.length
      · obtain ⟨b3, o3, hL3, hb3, hc3⟩ := (HL0.out.below HL.out).nat hlt
        have c1 := (HBC.out.keep HL.out).c1
        rw [HXF.out] at c1
        have c2 := (HBC.out.keep HL.out).c2
        rw [HXD.out] at c2
        injection hL3 with hL3
        injection hL3 with hL3a hL3b _
        subst hL3a hL3b
        have hinc := inc_c 3 k (by omega)
        have hki : (k : Int) < (q.length : Int) := by omega
        have HNX := hideIt (trG_next m q G u hlt)
        have hfl := trG_len m q G u k
        have HY := hideIt (List.getElem_mem hlt)
        have hqu := i_eql 3 .i64 ((q[k] : Nat) : Int) (u : Int)
        generalize q[k] = y at *
        clear hb3
        by_cases he : y = u
        · rw [decide_eq_true (by omega)] at hqu
          have HE := hideIt (HNX.out.trans (if_pos he))
          clear he HNX
          go_wp2_with fail
          go_roundg (gk - 1)
          case measure => omega
          case rel => exact ⟨k + 1, by omega, by go_num, by rw [HE.out]; exact HO2.out, HL.out⟩
        · rw [decide_eq_false (by omega)] at hqu
          have HE := hideIt (HNX.out.trans (if_neg he))
          clear he HNX
          obtain ⟨A3, c3v, hv3, _, _⟩ := own_form HO2.out
          subst hv3
          generalize hfn : trG m q G u k = fj at *
          clear hfn
          rcases HLT.out y HY.out with hy | hy
          · have hyi : (y : Int) < (n : Int) := by omega
            have hyl : (y : Int) < (l.length : Int) := by omega
            have hc6 := (HL.out.cell (p := ⟨b2, o2 + y, none⟩) HBB2.out).trans (HC2.out y (by omega))
            have HD2 := hideIt (HDV.out y HY.out l[y] (HGP.out y (by omega)).symm)
            generalize l[y] = xI at *
            generalize mul m (G y) (inv m (G u)) = cf at *
            clear hy
            go_wp2_with fail
            go_quiet (fail)
            go_wp2_with (first
              | (go_at_call 59; refine (HD2.out _).mono ?_; rintro e w7 ⟨rfl, rfl⟩)
              | ((with_reducible refine at_append ?_); refine wpList_apT (t := (y, cf)) (n := fj.length) (us := fj) rfl (.tmp 71) (.tmp 78) rfl rfl (own_kept HO2.out (below_drewN (Below.refl _ _) _)) rfl (by omega) HSZ.out ?_; intro v8 w8 HO8 HG8 HA8 HB8))
            go_roundg (gk - 1)
            case measure => omega
            case rel => exact ⟨k + 1, by omega, by go_num, by rw [HE.out, List.length_append]; exact HO8.out, (below_drewN HL.out _).trans HB8.out⟩
          · have hyi : ¬ (y : Int) < (n : Int) := by omega
            have HD2 := hideIt (HDV.out y HY.out 1 (by rw [HG1.out y (by omega)]; rfl))
            generalize mul m (G y) (inv m (G u)) = cf at *
            clear hy
            go_wp2_with fail
            go_quiet (fail)
            go_wp2_with (first
              | (go_at_call 59; refine (HD2.out _).mono ?_; rintro e w7 ⟨rfl, rfl⟩)
              | ((with_reducible refine at_append ?_); refine wpList_apT (t := (y, cf)) (n := fj.length) (us := fj) rfl (.tmp 71) (.tmp 78) rfl rfl (own_kept HO2.out (below_drewN (Below.refl _ _) _)) rfl (by omega) HSZ.out ?_; intro v8 w8 HO8 HG8 HA8 HB8))
            go_roundg (gk - 1)
            case measure => omega
            case rel => exact ⟨k + 1, by omega, by go_num, by rw [HE.out, List.length_append]; exact HO8.out, (below_drewN HL.out _).trans HB8.out⟩
      · have hki : ¬ (k : Int) < (q.length : Int) := by omega
        obtain rfl : k = q.length := by omega
        go_wp2_with fail
        go_ret
        have ho := HO2.out
        exact ⟨_, rfl, ⟨ho.1, ho.2.imp id fun ⟨g, cp, cur, q1, q2, q3⟩ => ⟨g, cp, cur, q1, Nat.le_trans HB.out.size q2, q3⟩⟩, HB.out.trans (HL.out.mono HB.out.size)⟩
end Go.Proofs.YtklngodlijiccaaDoor
