/-
  The program's solved with its closure, walked.
-/
import Derived.Test.YtklngodlijiccaaDoorRepD
import Derived.Test.YtklngodlijiccaaDoorRepX
namespace Go.Proofs.YtklngodlijiccaaDoor
open Go.RowKit
set_option linter.unusedVariables false
set_option linter.unusedSimpArgs false

theorem isz1 : (Tryd.prog.info? 3).map (·.size) = some 1 := by kernel_rfl
set_option maxHeartbeats 1000000 in
set_option maxRecDepth 100000 in
/-- The coefficient of a unit of a check. -/
theorem coef_any {x : Cd} {m n : Nat} (hvc : VC x m n) (A : Option Addr) (c : Nat) (w : World) (p p2 : Nat) (hx : BC w p x A c) (i : Nat) (hi : i < x.par.length) (z : Nat) (hz : z = n + i) (hp : w.cell? ⟨p2, 0, none⟩ = some (.int .i64 (z : Int))) (k : Nat) (hk : k < n ∨ k = z) :
    Calls Tryd.prog 72 #[.int .i64 (k : Int), .pointer (some ⟨p2, 0, none⟩), .pointer (some ⟨p, 0, none⟩)] w fun e w' => e = .returned (.int .i64 ((ckc x i k : Nat) : Int)) ∧ w = w' := by
  have hwid := hvc.wid
  have hq := i_eql 3 .i64 (k : Int) (z : Int)
  rcases hk with hk | hk
  · obtain ⟨b, o, A', c', hA, hb, hcell, hsl⟩ := hx.cin.pm.row hi
    have hrl := (hvc.row _ (List.getElem_mem hi)).1
    obtain ⟨b2, o2, hA2, hb2, hc2⟩ := hsl.num (k := k) (by omega)
    have HR := hideIt (show ((ckc x i k : Nat) : Int) = x.par[i][k] by
      rw [show ckc x i k = gC x (n + i) k by unfold ckc; rw [hvc.dn, if_pos (by omega)]]
      exact gC_par hvc hi (by omega))
    rw [HR.out]
    rw [decide_eq_false (by omega)] at hq
    have c2 := hx.c2
    have c3 := hx.c3
    rw [hvc.d] at c2
    have hs2 : binOp .sub 3 (.int .i64 (z : Int)) (.int .i64 (n : Int)) = pure (.int .i64 (i : Int)) := by
      have := nsub 3 z n (by omega) (by omega)
      rwa [show z - n = i by omega] at this
    have hip : (i : Int) < (x.par.length : Int) := by omega
    have hkl : (k : Int) < (x.par[i].length : Int) := by omega
    subst hA hA2
    generalize x.par[i][k] = v at *
    generalize x.par[i] = l at *
    clear hvc hx hsl hb hb2 HR hwid hrl hz
    go_enter Tryd.func72, Tryd.ntmps72
    go_wp2_with fail
    go_ret
    exact ⟨rfl, rfl⟩
  · have HR := hideIt (show ckc x i k = 1 by unfold ckc; rw [hvc.dn, if_neg (by omega)])
    rw [HR.out]
    rw [decide_eq_true (by omega)] at hq
    clear hvc hx HR hwid hk hz
    go_enter Tryd.func72, Tryd.ntmps72
    go_wp2_with fail
    go_ret
    exact ⟨rfl, rfl⟩
set_option maxHeartbeats 2000000 in
set_option maxRecDepth 100000 in
theorem solved_any {x : Cd} {m n : Nat} (hvc : VC x m n) (A : Option Addr) (c : Nat) (w : World) (hT : Tabs w) (hx : CIn w x A) (i : Nat) (hi : i < x.par.length) (u : Nat) (hu : u ∈ chk x i) (L : Option Addr) (cl : Nat) (hL : Sl w w.heap.size L 1 (chk x i).length ((nI (chk x i)).map iv)) :
    Calls Tryd.prog 55 #[x.v A c, .slice L (chk x i).length cl, .int .i64 (u : Int)] w fun e w' => ∃ v, e = .returned v ∧ w'.ownsRow w.heap.size 54 2 v (trC x i u).length (tcs (trC x i u)) ∧ Below w.heap.size w w' := by
  obtain ⟨W, hW⟩ : ∃ W, W = w.alloc (.cells (x.cs A c).toArray 24) := ⟨_, rfl⟩
  have hbw : Below w.heap.size w W := by rw [hW]; exact below_new w _
  have hs1 : W.heap.size = w.heap.size + 1 := by rw [hW]; simp
  have HS1 := hideIt hs1
  have HB := hideIt hbw
  have HBC := hideIt (show BC W w.heap.size x A c by rw [hW]; exact BC.new c hx)
  have HL0 := hideIt ((hL.below hbw).wide hbw.size)
  have HT := hideIt (hT.keep hbw)
  have HWE := hideIt hW
  have hcl := chk_len hvc i
  have hwid := hvc.wid
  have HMM := hideIt (fun (k : Nat) (h : k ∈ chk x i) => ckc_ne hvc h)
  have HLT := hideIt (fun (k : Nat) (h : k ∈ chk x i) => show k < n ∨ k = n + i from ((mem_chk hvc).1 h).imp (·.1) id)
  have hlast : ∀ h : (chk x i).length - 1 < (chk x i).length, (chk x i)[(chk x i).length - 1] = n + i := by
    intro h
    have e := chk_flt hvc i
    simp only [e, List.length_append, List.length_cons, List.length_nil, Nat.zero_add, Nat.add_sub_cancel]
    rw [List.getElem_append_right (Nat.le_refl _)]
    simp
  have HFM := hideIt hvc.fm
  have HXF := hideIt hvc.f
  have HCO := hideIt (fun (W2 : World) (p p2 : Nat) (h : BC W2 p x A c) (z : Nat) (hz : z = n + i) (hp : W2.cell? ⟨p2, 0, none⟩ = some (.int .i64 (z : Int))) (k : Nat) (hk : k ∈ chk x i) => coef_any hvc A c W2 p p2 h i hi z hz hp k ((HLT.out k hk).imp id fun e => e.trans hz.symm))
  rw [trC_trG hvc]
  generalize ckc x i = G at *
  have HU := hideIt hu
  generalize chk x i = q at *
  have hs1 := nsub_one 3 q.length (by omega) (by omega)
  obtain ⟨bL, oL, hLe, hbL, hcL⟩ := HL0.out.nat (k := q.length - 1) (by omega)
  rw [hlast (by omega)] at hcL
  subst hLe
  have hqi : ((q.length - 1 : Nat) : Int) < (q.length : Int) := by omega
  obtain ⟨z, hz⟩ : ∃ z : Nat, z = n + i := ⟨_, rfl⟩
  rw [← hz] at hcL
  have HZ := hideIt hz
  have hbL2 : bL < w.heap.size + 1 := by omega
  have hcL2 : (W.alloc (.cells #[.int .i64 0] 3)).cell? ⟨bL, oL + (q.length - 1), none⟩ = some (.int .i64 (z : Int)) := ((below_new W _).cell (p := ⟨bL, oL + (q.length - 1), none⟩) hbL).trans hcL
  obtain ⟨W8, hW8⟩ : ∃ W8, W8 = W.alloc (.cells #[.int .i64 (z : Int)] 3) := ⟨_, rfl⟩
  have HB8 := hideIt (show Below W.heap.size W W8 by rw [hW8]; exact below_new W _)
  have HZ8 := hideIt (show Blk W8 (w.heap.size + 1) 3 [.int .i64 (z : Int)] by rw [hW8, ← HS1.out]; exact Blk.new W 3 [.int .i64 (z : Int)])
  have HW8 := hideIt hW8
  have HDV := hideIt (fun (W2 : World) (h : Below W.heap.size W W2) (y : Nat) (hy : y ∈ q) => show ∀ k, Calls Tryd.prog 73 #[.int .i64 (m : Int), .int .i64 ((G y : Nat) : Int), .int .i64 ((G u : Nat) : Int)] (W2.drewN k) (fun e w' => e = .returned (.tuple #[.int .i64 ((mul m (G y) (inv m (G u)) : Nat) : Int), .int .i64 0]) ∧ ∃ j, w' = W2.drewN j) from fun k => by
    have := div_any (m : Int) ((G y : Nat) : Int) ((G u : Nat) : Int) W2 (HT.out.keep h) k
    rw [divR_is HFM.out (HMM.out y hy).2 (HMM.out u HU.out).2 (HMM.out u HU.out).1] at this
    exact this)
  rw [hW] at hcL hcL2
  clear hbw hx hvc hL hbL hlast hu hz hW hT hW8
  go_enter Tryd.func55, Tryd.ntmps55
  go_wp2_with fail
  rw [← HWE.out, ← HW8.out]
  clear hcL hcL2 hs1 hbL2 hqi
  have HBW8 := hideIt (HB.out.trans (HB8.out.mono HB.out.size))
  have HO := hideIt (World.ownsRow_nil W8 W8.heap.size 54 2)
  go_loopg [9, 23] q.length (fun gk s9 s23 wr => ∃ k : Nat, k + gk = q.length ∧ s23 = .int .i64 (k : Int) ∧ Aside (wr.ownsRow W8.heap.size 54 2 s9 (trG m q G u k).length (tcs (trG m q G u k))) ∧ Aside (Below W8.heap.size W8 wr))
  case atStart => exact ⟨0, by omega, rfl, HO.out, Below.refl _ _⟩
  case round =>
    obtain ⟨k, hk, rfl, HO2, HL⟩ := hrel
    obtain ⟨w4, rfl⟩ : ∃ x, x = wr := ⟨wr, rfl⟩
    have HSZ := hideIt HL.out.size
    have HBL := hideIt (HB8.out.trans (HL.out.mono HB8.out.size))
    by_cases hlt : k < q.length
    · obtain ⟨b3, o3, hL3, hb3, hc3⟩ := (HL0.out.below HBL.out).nat hlt
      have c1 := (HBC.out.keep HBL.out).c1
      rw [HXF.out] at c1
      injection hL3 with hL3
      injection hL3 with hL3a hL3b _
      subst hL3a hL3b
      have hinc := inc_c 3 k (by omega)
      have hki : (k : Int) < (q.length : Int) := by omega
      have HNX := hideIt (trG_next m q G u hlt)
      have hfl := trG_len m q G u k
      have HY := hideIt (List.getElem_mem hlt)
      have hqu := i_neq 3 .i64 ((q[k] : Nat) : Int) (u : Int)
      generalize q[k] = y at *
      clear hb3
      by_cases he : y = u
      · rw [decide_eq_false (fun h => h (by omega))] at hqu
        have HE := hideIt (HNX.out.trans (if_pos he))
        clear he HNX
        go_wp2_with fail
        go_roundg (gk - 1)
        case measure => omega
        case rel => exact ⟨k + 1, by omega, by go_num, by rw [HE.out]; exact HO2.out, HL.out⟩
      · rw [decide_eq_true (by omega)] at hqu
        have HE := hideIt (HNX.out.trans (if_neg he))
        clear he HNX
        obtain ⟨A3, c3v, hv3, _, _⟩ := own_form HO2.out
        subst hv3
        generalize hfn : trG m q G u k = fj at *
        have HD2 := hideIt (HDV.out w4 HBL.out y HY.out)
        have HC2 := hideIt (fun (j kk : Nat) (hk : kk ∈ q) => HCO.out (w4.drewN j) w.heap.size (w.heap.size + 1) ((HBC.out.keep HBL.out).keep (below_drewN (Below.refl _ _) j)) z HZ.out (((HZ8.out.kept HL.out HZ8.out.lt).kept (below_drewN (Below.refl _ _) j) (HZ8.out.kept HL.out HZ8.out.lt).lt).cell 0) kk hk)
        generalize mul m (G y) (inv m (G u)) = cf at *
        clear hfn
        go_wp2_with fail
        go_quiet ((first | (go_at_call 72; refine (HC2.out _ _ (by first | exact HY.out | exact HU.out)).mono ?_; rintro e w' ⟨rfl, hw⟩; exact ⟨rfl, _, hw.symm⟩) | (go_at_call 73; refine (HD2.out _).mono ?_; rintro e w' ⟨rfl, j, hw⟩; exact ⟨rfl, j, hw⟩)))
        go_wp2_with ((with_reducible refine at_append ?_); refine wpList_apT (t := (y, cf)) (n := fj.length) (us := fj) rfl (.tmp 42) (.tmp 46) rfl rfl (own_kept HO2.out (below_drewN (Below.refl _ _) _)) rfl (by omega) HSZ.out ?_; intro v8 w8 HO8 HG8 HA8 HB8)
        go_roundg (gk - 1)
        case measure => omega
        case rel => exact ⟨k + 1, by omega, by go_num, by rw [HE.out, List.length_append]; exact HO8.out, (below_drewN HL.out _).trans HB8.out⟩
    · have hki : ¬ (k : Int) < (q.length : Int) := by omega
      obtain rfl : k = q.length := by omega
      go_wp2_with fail
      go_ret
      have ho := HO2.out
      exact ⟨_, rfl, ⟨ho.1, ho.2.imp id fun ⟨g, cp, cur, q1, q2, q3⟩ => ⟨g, cp, cur, q1, Nat.le_trans HBW8.out.size q2, q3⟩⟩, HBW8.out.trans (HL.out.mono HBW8.out.size)⟩
end Go.Proofs.YtklngodlijiccaaDoor
