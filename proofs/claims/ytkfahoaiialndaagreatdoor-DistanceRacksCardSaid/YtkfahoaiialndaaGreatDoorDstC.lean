/-
  The program's sufficient, walked: the code that remains, decoded.
-/
import Derived.Test.YtkfahoaiialndaaGreatDoorD9a
import Derived.Test.YtkfahoaiialndaaGreatDoorD9b
import Derived.Test.YtkfahoaiialndaaGreatDoorD9c
import Derived.Test.YtkfahoaiialndaaGreatDoorD9d
import Derived.Test.YtkfahoaiialndaaGreatDoorD9f
import Derived.Test.YtkfahoaiialndaaGreatDoorDstA
import Derived.Test.YtkfahoaiialndaaGreatDoorDstB
import Derived.Test.YtkfahoaiialndaaGreatDoorDstR
import Derived.Test.YtkfahoaiialndaaGreatDoorDstS
import Derived.Test.YtkfahoaiialndaaGreatDoorDstM
import Derived.Test.YtkfahoaiialndaaGreatDoorDstG
import Derived.Test.YtkfahoaiialndaaGreatDoorDstI
import Derived.Test.YtkfahoaiialndaaGreatDoorDstF
namespace Go.Proofs.YtkfahoaiialndaaGreatDoor
open Go.RowKit
set_option linter.unusedVariables false
set_option linter.unusedSimpArgs false
set_option pp.maxSteps 1000000
set_option pp.deepTerms true

theorem rowsK_next (x : Cd) (hs : List Bool) (M : List Nat) (n k : Nat) : rowsK x hs M n (k + 1) = if keepB x hs M n k = true then rowsK x hs M n k ++ [pickL (x.par.getD k []) M] else rowsK x hs M n k := by
  unfold rowsK
  rw [idxK_next]
  by_cases h : keepB x hs M n k = true
  · rw [if_pos h, if_pos h, List.map_append]; rfl
  · rw [if_neg h, if_neg h]
theorem pos_any {m : Int} {l : List Int} (h : ∀ a ∈ l, vd m a = true) : (l.any fun a => decide (a > 0)) = l.any fun a => decide (a ≠ 0) := by
  induction l with
  | nil => rfl
  | cons a l ih =>
    rw [List.any_cons, List.any_cons, ih fun b hb => h b (List.mem_cons_of_mem _ hb)]
    congr 1
    have := vd_nonneg (h a List.mem_cons_self)
    exact decide_eq_decide.2 (by omega)
/-- Rows under construction: the rows' own row, and each row in a block of its own. -/
def RI (W : World) (B : Nat) (v : Value) (rows : List (List Int)) : Prop :=
  ∃ us, W.ownsRow B 26 1 v rows.length us ∧ All2 (fun (b : List Int) u => ∃ g c, u = .slice (some ⟨g, 0, none⟩) b.length c ∧ Blk W g 3 (b.map iv)) rows us
theorem RI.nil (W : World) (B : Nat) : RI W B (.slice none 0 0) [] := ⟨[], World.ownsRow_nil _ _ _ _, trivial⟩
theorem RI.keep {W W' : World} {B : Nat} {v : Value} {rows : List (List Int)} (h : RI W B v rows) (hb : Below W.heap.size W W') : RI W' B v rows := by
  obtain ⟨us, h1, h2⟩ := h
  exact ⟨us, own_kept h1 hb, All2.imp (fun b u ⟨g, c, e, hg⟩ => ⟨g, c, e, hg.kept hb hg.lt⟩) h2⟩
theorem RI.box {W : World} {B q i : Nat} {t : TypeId} {cs : List Value} {v u : Value} {rows : List (List Int)} (h : RI W B v rows) (hq : Blk W q t cs) (h1 : t ≠ 26) (h2 : t ≠ 3) : RI (W.setCell ⟨q, i, none⟩ u) B v rows := by
  obtain ⟨us, h3, h4⟩ := h
  refine ⟨us, own_set h3 hq h1 i u, All2.imp (fun b x ⟨g, c, e, hg⟩ => ⟨g, c, e, hg.store_other fun e2 => ?_⟩) h4⟩
  subst e2
  have := hg.symm.trans hq
  injection this with this
  injection this with _ this _
  exact h2 this.symm
theorem RI.snoc {W w' : World} {B g c : Nat} {v v' : Value} {us : List Value} {rows : List (List Int)} {b : List Int} {o : Obj} (h2 : All2 (fun (b : List Int) u => ∃ g c, u = .slice (some ⟨g, 0, none⟩) b.length c ∧ Blk W g 3 (b.map iv)) rows us)
    (hO : W.ownsRow B 26 1 v rows.length us) (hb : Blk W g 3 (b.map iv)) (h1 : w'.ownsRow B 26 1 v' (rows.length + 1) (us ++ [.slice (some ⟨g, 0, none⟩) b.length c])) (hg : (W.alloc o).grownBy w' v.ownBlock) : RI w' B v' (rows ++ [b]) := by
  have hk : ∀ {k : Nat} {cs : List Value}, Blk W k 3 cs → Blk w' k 3 cs := fun {k cs} hk =>
    (hg.block k (by simp; have := hk.lt; omega) (own_ne hO hk (by decide))).trans (hk.alloc o)
  refine ⟨us ++ [.slice (some ⟨g, 0, none⟩) b.length c], by rw [List.length_append]; exact h1, All2.snoc ⟨g, c, rfl, hk hb⟩ (All2.imp (fun b u ⟨g, c, e, hg⟩ => ⟨g, c, e, hk hg⟩) h2)⟩
theorem RI.pm {W : World} {B : Nat} {v : Value} {rows : List (List Int)} (h : RI W B v rows) : ∃ A c, v = .slice A rows.length c ∧ PM W W.heap.size A rows := by
  obtain ⟨us, h1, h2⟩ := h
  obtain ⟨A, c, rfl, _, _⟩ := own_form h1
  exact ⟨A, c, rfl, us, Sl.of_own h1, All2.imp (fun b u ⟨g, c, e, hg⟩ => ⟨_, c, e, by rw [List.length_map, Nat.mul_one], fun _ => ⟨g, 0, rfl, hg.lt, fun j x hj => by rw [Nat.zero_add, hg.cell]; exact hj⟩⟩) h2⟩

theorem sl_one8 (w : World) (t : TypeId) (u : Value) : Sl (w.alloc (.cells #[u] t)) (w.alloc (.cells #[u] t)).heap.size (some ⟨w.heap.size, 0, none⟩) 1 1 [u] :=
  ⟨rfl, fun _ => ⟨w.heap.size, 0, rfl, by simp, fun j v hj => by rw [show (w.alloc (.cells #[u] t)).cell? ⟨w.heap.size, 0 + j, none⟩ = [u][0 + j]? from (Blk.new w t [u]).cell _, Nat.zero_add]; exact hj⟩⟩
theorem nI_snocC (M : List Nat) (k : Nat) : nI (M ++ [k]) = nI M ++ [(k : Int)] := by simp [nI]
set_option maxHeartbeats 1000000 in
set_option maxRecDepth 100000 in
theorem sufficient_any (x : Cd) (A : Option Addr) (c : Nat) (w : World) (hT : Tabs w) (hx : CIn w x A) {m n : Nat} (hvc : VC x m n) (hs : List Bool) (hl : hs.length = n + x.par.length) (D : Option Addr) (cd : Nat) (hcd : hs.length ≤ cd) (hD : Sl w w.heap.size D 1 hs.length (hs.map bl)) :
    Calls Tryz.prog 47 #[x.v A c, .slice D hs.length cd] w fun e w' => e = .returned (.bool (dcX x hs)) ∧ Below w.heap.size w w' := by
  obtain ⟨W, hW⟩ : ∃ W, W = w.alloc (.cells (x.cs A c).toArray 24) := ⟨_, rfl⟩
  have hbw : Below w.heap.size w W := by rw [hW]; exact below_new w _
  have HB := hideIt hbw
  have HBC := hideIt (show BC W w.heap.size x A c by rw [hW]; exact BC.new c hx)
  have HD := hideIt ((hD.below hbw).wide hbw.size)
  have HT := hideIt (hT.keep hbw)
  have c1 := HBC.out.c1
  have c2 := HBC.out.c2
  have c3 := HBC.out.c3
  rw [hvc.f] at c1
  rw [hvc.d] at c2
  have HWE := hideIt hW
  have HVC := hideIt hvc
  have HLN := hideIt hl
  have hn1 := hvc.pos
  have hn32 := hvc.wid
  obtain ⟨N, hN⟩ : ∃ N, N = hs.length := ⟨_, rfl⟩
  have HN := hideIt hN
  rw [← hN] at hcd HD ⊢
  have hnN : n ≤ N := by omega
  have hN32 : N ≤ 32 := by omega
  have hpN : N = n + x.par.length := by omega
  have HPN := hideIt hpN
  clear hbw hT hx hD hW hl hvc hN hpN
  have hncd : n ≤ cd := by omega
  have hnot := not_b
  rw [HWE.out] at c1 c2 c3
  go_enter Tryz.func47, Tryz.ntmps47
  go_wp2_with fail
  have HO0 := hideIt (World.ownsRow_nil W W.heap.size 3 1)
  rw [← HWE.out]
  go_loopg [5, 17] n (fun gk s5 s17 wr => ∃ k : Nat, k + gk = n ∧ s17 = .int .i64 (k : Int) ∧ Aside (wr.ownsRow W.heap.size 3 1 s5 (misK hs k).length ((nI (misK hs k)).map iv)) ∧ Aside (Below W.heap.size W wr))
  case atStart => exact ⟨0, by omega, rfl, HO0.out, Below.refl _ _⟩
  case round =>
    obtain ⟨k, hk, rfl, HM, HL⟩ := hrel
    obtain ⟨w4, rfl⟩ : ∃ x, x = wr := ⟨wr, rfl⟩
    clear c1 c2 c3
    by_cases hlt : k < n
    · have hinc := inc_c 3 k (by omega)
      have hki : (k : Int) < (n : Int) := by omega
      have hkN : k < hs.length := by rw [← HN.out]; omega
      have HD4 := hideIt (HD.out.below HL.out)
      rw [HN.out] at HD4
      obtain ⟨b2, o2, u2, hDe, hb2, hu2, hc2⟩ := HD4.out.at_ hkN
      rw [List.getElem?_map, List.getElem?_eq_getElem hkN] at hu2
      injection hu2 with hu2
      subst hu2
      change w4.cell? ⟨b2, o2 + k, none⟩ = some (.bool hs[k]) at hc2
      have HNX := hideIt (misK_next hs k)
      rw [getD_lt hkN] at HNX
      have hmk := misK_len hs k
      generalize hs[k] = bb at *
      subst hDe
      clear hkN hb2
      cases bb with
      | true =>
        rw [if_pos rfl] at HNX
        go_wp2_with fail
        go_roundg (gk - 1)
        case measure => omega
        case rel => exact ⟨k + 1, by omega, by go_num, by rw [HNX.out]; exact HM.out, HL.out⟩
      | false =>
        rw [if_neg (by decide)] at HNX
        obtain ⟨M, cm, hMe, _, _⟩ := own_form HM.out
        subst hMe
        go_wp2_with ((with_reducible refine at_append ?_); refine wpList_apI (y := (k : Int)) (n := (misK hs k).length) (us := nI (misK hs k)) rfl (.tmp 24) (.tmp 26) rfl rfl HM.out rfl (by omega) HL.out.size ?_; intro v6 w6 HO6 HG6 HA6 HB6)
        go_roundg (gk - 1)
        case measure => omega
        case rel => exact ⟨k + 1, by omega, by go_num, by rw [HNX.out, List.length_append, nI_snocC]; exact HO6.out, HL.out.trans HB6.out⟩
    · have hki : ¬ (k : Int) < (n : Int) := by omega
      obtain rfl : k = n := by omega
      obtain ⟨M, hM⟩ : ∃ M, M = misK hs k := ⟨_, rfl⟩
      have HMM := hideIt hM
      have hMl : M.length ≤ k := by rw [hM]; exact misK_len hs k
      rw [← hM] at HM
      have hMb : ∀ i ∈ M, i < k := fun i hi => ((misK_mem hs k i).1 (by rw [← hM]; exact hi)).1
      have HMB := hideIt hMb
      obtain ⟨AM, cM, hMe, _, _⟩ := own_form HM.out
      subst hMe
      clear hM hMb
      by_cases h0 : M.length = 0
      · have HE := hideIt (suff_none HVC.out HLN.out (by rw [← HMM.out]; exact List.length_eq_zero_iff.1 h0))
        rw [h0]
        clear h0 hMl
        go_wp2_with fail
        go_ret
        exact ⟨by rw [HE.out]; rfl, HB.out.trans (HL.out.mono HB.out.size)⟩
      · have hne := hideIt (show misK hs k ≠ [] from fun e => h0 (by rw [HMM.out, e]; rfl))
        have HSM := hideIt (Sl.of_own HM.out)
        have hq := int_eqlF 3 (a := (M.length : Int)) (b := 0) (by omega)
        have d1 : w4.cell? ⟨w.heap.size, 1, none⟩ = some (.int .i64 (m : Int)) := by rw [(HBC.out.keep HL.out).c1, HVC.out.f]
        have HBC4 := hideIt (HBC.out.keep HL.out)
        have HLB := hideIt (below_new w4 (.cells #[.string ⟨#[]⟩, .int .i64 (m : Int), .int .i64 (M.length : Int), .slice none 0 0, .int .i64 0] 24))
        have d3 : (w4.alloc (.cells #[.string ⟨#[]⟩, .int .i64 (m : Int), .int .i64 (M.length : Int), .slice none 0 0, .int .i64 0] 24)).cell? ⟨w.heap.size, 3, none⟩ = some (.slice A x.par.length c) := (HBC4.out.keep HLB.out).box.cell 3
        have HQ := hideIt (Blk.new w4 24 [.string ⟨#[]⟩, .int .i64 (m : Int), .int .i64 (M.length : Int), .slice none 0 0, .int .i64 0])
        obtain ⟨q, hqd⟩ : ∃ q, q = w4.heap.size := ⟨_, rfl⟩
        have HQS := hideIt hqd
        clear h0 HM
        go_wp2_with fail
        rw [← hqd] at HQ HLB ⊢
        obtain ⟨w5, hw5⟩ : ∃ W5, W5 = w4.alloc (.cells #[.string ⟨#[]⟩, .int .i64 (m : Int), .int .i64 (M.length : Int), .slice none 0 0, .int .i64 0] 24) := ⟨_, rfl⟩
        have hs5 : w5.heap.size = q + 1 := by rw [hw5, hqd]; simp
        have HS5 := hideIt hs5
        change Hid (Blk (w4.alloc (.cells #[.string ⟨#[]⟩, .int .i64 (m : Int), .int .i64 (M.length : Int), .slice none 0 0, .int .i64 0] 24)) q 24 [.string ⟨#[]⟩, .int .i64 (m : Int), .int .i64 (M.length : Int), .slice none 0 0, .int .i64 0]) at HQ
        rw [← hw5] at HQ HLB ⊢
        clear hw5 hqd d3 d1 hs5
        go_loopg [40] x.par.length (fun gk s40 wr => ∃ (i : Nat) (vr : Value), i + gk = x.par.length ∧ s40 = .int .i64 (i : Int) ∧ Aside (Blk wr q 24 [.string ⟨#[]⟩, .int .i64 (m : Int), .int .i64 (M.length : Int), vr, .int .i64 0]) ∧ Aside (RI wr (q + 1) vr (rowsK x hs M k i)) ∧ Aside (Below q w4 wr))
        case atStart => exact ⟨0, _, by omega, rfl, HQ.out, RI.nil _ _, HLB.out⟩
        case round =>
          obtain ⟨i, vr, hi, rfl, HQI, HRI, HL2⟩ := hrel
          obtain ⟨w6, rfl⟩ : ∃ x, x = wr := ⟨wr, rfl⟩
          have HL6 := hideIt (show Below w4.heap.size w4 w6 by rw [← HQS.out]; exact HL2.out)
          have HBC6 := hideIt (HBC4.out.keep HL6.out)
          have HIL := hideIt (idxK_len x hs M k i)
          by_cases hip : i < x.par.length
          · have hinc := inc_c 3 i (by omega)
            have hii : (i : Int) < (x.par.length : Int) := by omega
            have hkiN : k + i < hs.length := by rw [← HN.out]; have := HPN.out; omega
            have e2 : w6.cell? ⟨w.heap.size, 2, none⟩ = some (.int .i64 (k : Int)) := by rw [HBC6.out.c2, HVC.out.d]
            have hadd := nadd 3 k i (by omega)
            have hkib : ((k + i : Nat) : Int) < (N : Int) := by have := HPN.out; omega
            obtain ⟨b, o, A', c', hAe, hb, hcell, hsl⟩ := HBC6.out.cin.pm.row hip
            have hrow := HVC.out.row _ (List.getElem_mem hip)
            have HNX := hideIt (rowsK_next x hs M k i)
            rw [show keepB x hs M k i = (hs[k + i] && (pickL x.par[i] M).any fun a => decide (a ≠ 0)) by unfold keepB; rw [getD_lt hkiN, getD_lt hip], getD_lt hip] at HNX
            have HD6 := hideIt ((HD.out.below HL.out).below (HL6.out.mono HL.out.size))
            rw [HN.out] at HD6
            obtain ⟨b2, o2, u2, hDe, hb2, hu2, hc2⟩ := HD6.out.at_ hkiN
            rw [List.getElem?_map, List.getElem?_eq_getElem hkiN] at hu2
            injection hu2 with hu2
            subst hu2
            change w6.cell? ⟨b2, o2 + (k + i), none⟩ = some (.bool hs[k + i]) at hc2
            rw [hrow.1] at hcell
            have hrl : x.par[i].length = k := hrow.1
            have HRL := hideIt hrl
            have HRV := hideIt hrow.2.1
            have HSL := hideIt hsl
            generalize x.par[i] = r at *
            generalize hs[k + i] = bb at *
            subst hDe hAe
            clear hb hb2 hkiN hrow hsl hrl
            cases bb with
            | false =>
              rw [Bool.false_and, if_neg (by decide)] at HNX
              go_wp2_with fail
              go_roundg (gk - 1)
              case measure => omega
              case rel => exact ⟨i + 1, vr, by omega, by go_num, HQI.out, by rw [HNX.out]; exact HRI.out, HL2.out⟩
            | true =>
              rw [Bool.true_and] at HNX
              have HPK := hideIt (picked_any r M (by rw [HRL.out]; omega) (by omega) (fun j hj => by rw [HRL.out]; exact HMB.out j hj) A' c' AM cM w6 HSL.out ((HSM.out.below HL6.out).wide HL6.out.size))
              rw [HRL.out] at HPK
              have hpl : (pickL r M).length = M.length := by unfold pickL; rw [List.length_map]
              have HPL := hideIt hpl
              have hpv : ∀ a ∈ pickL r M, vd x.field a = true := fun a ha => by
                unfold pickL at ha
                obtain ⟨j, hj, rfl⟩ := List.mem_map.1 ha
                have hj2 := HMB.out j hj
                rw [getD_lt (by rw [HRL.out]; exact hj2)]
                exact HRV.out _ (List.getElem_mem _)
              have HPA := hideIt (pos_any hpv)
              have hM0 : 0 < M.length := Nat.pos_of_ne_zero fun e => hne.out (by rw [← HMM.out]; exact List.length_eq_zero_iff.1 e)
              have HMX := hideIt (fun (W2 : World) (g : Nat) (h : Blk W2 g 3 ((pickL r M).map iv)) => max_any (pickL r M) (by omega) (by omega) (some ⟨g, 0, none⟩) M.length W2.heap.size W2 ⟨by rw [List.length_map, Nat.mul_one], fun _ => ⟨g, 0, rfl, h.lt, fun j u hj => by rw [Nat.zero_add, h.cell]; exact hj⟩⟩)
              rw [HPA.out, hpl] at HMX
              clear hpl hpv hM0 HPA
              generalize pickL r M = pl at *
              have hbb : (pl.any fun a => decide (a ≠ 0)) = true ∨ (pl.any fun a => decide (a ≠ 0)) = false := by cases (pl.any fun a => decide (a ≠ 0)) <;> simp
              rcases hbb with hbb | hbb
              · rw [hbb] at HNX HMX
                rw [if_pos rfl] at HNX
                clear hbb
                have hHRI := HRI.out
                obtain ⟨us, hO, hAll⟩ := hHRI
                have HALL := hideIt hAll
                have HO := hideIt hO
                have hrlen : (rowsK x hs M k i).length ≤ 32 := by unfold rowsK; rw [List.length_map]; have := HIL.out; omega
                obtain ⟨Av, cv, hve, _, _⟩ := own_form hO
                subst hve
                clear hO hAll
                obtain ⟨rl, hrl⟩ : ∃ z, z = (rowsK x hs M k i).length := ⟨_, rfl⟩
                have HRLN := hideIt hrl
                rw [← hrl] at HO hrlen HQI
                clear hrl
                go_wp2_with (first
                  | (go_at_call 70; refine HPK.out.mono ?_; rintro e w7 ⟨rfl, hblk, hb7⟩; have HK7 := hideIt hblk; have HL7 := hideIt hb7; have HQ7 := hideIt (HQI.out.kept hb7 HQI.out.lt); have HO7 := hideIt (own_kept HO.out hb7); have e3 : w7.cell? ⟨q, 3, none⟩ = some (.slice Av rl cv) := HQ7.out.cell 3; clear hblk hb7)
                  | (go_at_call 71; refine (HMX.out _ _ HK7.out).mono ?_; rintro e w8 ⟨z, rfl, hz, rfl⟩)
                  | ((with_reducible refine at_append ?_); refine wpList_apR (A := some ⟨w6.heap.size, 0, none⟩) (k := M.length) (c := M.length) (n := rl) (us := us) rfl (.tmp 60) (.tmp 62) rfl rfl HO7.out rfl (by omega) (Nat.le_trans HQ7.out.lt (Nat.le_refl _)) ?_; intro v8 w8 HO8 HG8 HA8 HB8; obtain ⟨A8, c8, h8, _, _⟩ := own_form HO8.out; subst h8; have HQ8 := hideIt (show Blk w8 q 24 [.string ⟨#[]⟩, .int .i64 (m : Int), .int .i64 (M.length : Int), .slice Av rl cv, .int .i64 0] from (HG8.out.block q (by simp; have := HQ7.out.lt; omega) (own_ne HO7.out HQ7.out (by decide))).trans (HQ7.out.alloc _)); have e4 : w8.cell? ⟨q, 3, none⟩ = some (.slice Av rl cv) := HQ8.out.cell 3; have f4 := HQ8.out.free 3))
                go_roundg (gk - 1)
                case measure => omega
                case rel =>
                  have hbx := RI.snoc (HALL.out |> fun h => All2.imp (fun b u ⟨g, c, e, hg⟩ => ⟨g, c, e, hg.kept HL7.out hg.lt⟩) h) (by rw [← HRLN.out]; exact HO7.out) HK7.out (by rw [← HRLN.out, HPL.out]; exact HO8.out) HG8.out
                  refine ⟨i + 1, _, by omega, by go_num, HQ8.out.store 3 _, ?_, ?_⟩
                  · rw [HNX.out]
                    exact hbx.box HQ8.out (by decide) (by decide)
                  · exact below_set ((HL2.out.trans (HL7.out.mono (by rw [HQS.out]; exact HL6.out.size))).trans (HB8.out.mono (Nat.le_succ q))) (Nat.le_refl _) 3 _
              · rw [hbb] at HNX HMX
                rw [if_neg (by decide)] at HNX
                clear hbb
                go_wp2_with (first
                  | (go_at_call 70; refine HPK.out.mono ?_; rintro e w7 ⟨rfl, hblk, hb7⟩; have HK7 := hideIt hblk; have HL7 := hideIt hb7; clear hblk hb7)
                  | (go_at_call 71; refine (HMX.out _ _ HK7.out).mono ?_; rintro e w8 ⟨z, rfl, hz, rfl⟩))
                go_roundg (gk - 1)
                case measure => omega
                case rel => exact ⟨i + 1, vr, by omega, by go_num, HQI.out.kept HL7.out HQI.out.lt, by rw [HNX.out]; exact HRI.out.keep HL7.out, HL2.out.trans (HL7.out.mono (by rw [HQS.out]; exact HL6.out.size))⟩
          · have hii : ¬ (i : Int) < (x.par.length : Int) := by omega
            obtain rfl : i = x.par.length := by omega
            obtain ⟨Av, cv, hve, hpm⟩ := RI.pm HRI.out
            subst hve
            obtain ⟨X, hX⟩ : ∃ X, X = restX x hs M k x.par.length := ⟨_, rfl⟩
            obtain ⟨r, hr⟩ : ∃ r, r = (rowsK x hs M k x.par.length).length := ⟨_, rfl⟩
            have hrX : X.par.length = r := by rw [hX, hr]; rfl
            have hrI : r = (idxK x hs M k x.par.length).length := by rw [hr]; unfold rowsK; rw [List.length_map]
            have hr32 : r ≤ 32 := by have := idxK_len x hs M k x.par.length; omega
            have hXr : X.par = rowsK x hs M k x.par.length := by rw [hX]; rfl
            have HQX := hideIt (show Blk w6 q 24 (X.cs Av cv) by
              have h := HQI.out
              rw [← HVC.out.f] at h
              rw [hX]; exact h)
            have HCI := hideIt (show CIn w6 X Av from ⟨by rw [hXr]; exact hpm, by rw [hrX]; omega, fun l hl => by
              rw [hXr] at hl
              obtain ⟨j, _, rfl⟩ := List.mem_map.1 hl
              unfold pickL; rw [List.length_map]; omega⟩)
            have HSU := hideIt (show dcX X (hsR M.length r) = dcX x hs by
              rw [hX, hrI, HMM.out]
              exact suff_rest HVC.out HLN.out hne.out)
            have HDC := hideIt (fun (W2 : World) (h : Below w6.heap.size w6 W2) (D' : Option Addr) (cd' : Nat) (hD' : Sl W2 W2.heap.size D' 1 (M.length + r) ((hsR M.length r).map bl)) => show Calls Tryz.prog 21 #[X.v Av cv, .slice D' (M.length + r) cd'] W2 (fun e w' => e = .returned (.bool (dcX x hs)) ∧ Below W2.heap.size W2 w') by
              have hlen : (hsR M.length r).length = M.length + r := by simp
              have := decodable_any X Av cv W2 (((HT.out.keep HL.out).keep HL6.out).keep h) (HCI.out.keep h) (hsR M.length r) D' cd' (by rw [hlen]; omega) (by rw [hlen]; exact hD')
              rw [hlen] at this
              rw [← HSU.out]
              exact this)
            have HKS := hideIt (fun (W2 : World) (b : Array Bool) (h : Below w6.heap.size w6 W2) => show Hooks [(12, fun W => Blk W q 24 (X.cs Av cv)), (12, fun W => W.cell? ⟨q, 2, none⟩ = some (.int .i64 (M.length : Int))), (12, fun W => W.cell? ⟨q, 3, none⟩ = some (.slice Av r cv))] b W2 from
              Hooks.add (HQX.out.kept h HQX.out.lt) (Hooks.add (by rw [(HQX.out.kept h HQX.out.lt).cell, hX]; rfl) (Hooks.add (by rw [(HQX.out.kept h HQX.out.lt).cell, hr, ← hXr]; rfl) (Hooks.nil b W2))))
            have GD := hideIt (Below.refl w6.heap.size w6).drew
            have HRP := hideIt (fun (W2 : World) (S : Option Addr) (hS : Sl W2 W2.heap.size S 1 1 [.bool true]) => repeatB_any r (by omega) S 1 W2 hS)
            have HM0 := hideIt (show 0 < M.length from Nat.pos_of_ne_zero fun e => hne.out (by rw [← HMM.out]; exact List.length_eq_zero_iff.1 e))
            have HCC := hideIt (fun (W2 : World) (h : Nat) (tt : TypeId) (g1 g2 : Nat) (h0 : Blk W2 h tt [.slice (some ⟨g1, 0, none⟩) M.length M.length, .slice (some ⟨g2, 0, none⟩) r r]) (h1 : Blk W2 g1 4 ((List.replicate M.length false).map bl)) (h2 : Blk W2 g2 4 ((List.replicate r true).map bl)) =>
              show Calls Tryz.prog 72 #[.slice (some ⟨h, 0, none⟩) 2 2] W2 (fun e w' => ∃ A c, e = .returned (.slice A (M.length + r) c) ∧ Sl w' w'.heap.size A 1 (M.length + r) ((hsR M.length r).map bl) ∧ Below W2.heap.size W2 w') by
              have hq : ∀ (b : Bool) (n g : Nat), Blk W2 g 4 ((List.replicate n b).map bl) → Sl W2 W2.heap.size (some ⟨g, 0, none⟩) 1 (List.replicate n b).length ((List.replicate n b).map bl) := fun b n g hg => ⟨by rw [List.length_map, Nat.mul_one], fun _ => ⟨g, 0, rfl, hg.lt, fun j u hj => by rw [Nat.zero_add, hg.cell]; exact hj⟩⟩
              have := concatB_any (List.replicate M.length false) (List.replicate r true) (by rw [List.length_replicate]; omega) (by rw [List.length_replicate]; omega) (by rw [List.length_replicate]; exact HM0.out) (some ⟨g1, 0, none⟩) (some ⟨g2, 0, none⟩) M.length r h 2 W2 tt (by rw [List.length_replicate, List.length_replicate]; exact h0) (hq false M.length g1 h1) (hq true r g2 h2)
              rw [List.length_replicate, List.length_replicate] at this
              exact this)
            clear hX hrX hrI hXr hr hpm HQI HRI
            have hML : M.length ≤ 32 := by omega
            go_wp2_with fail
            refine loads_begin_n 13 [(12, fun W => Blk W q 24 (X.cs Av cv)), (12, fun W => W.cell? ⟨q, 2, none⟩ = some (.int .i64 (M.length : Int))), (12, fun W => W.cell? ⟨q, 3, none⟩ = some (.slice Av r cv))] rfl (by kernel_rfl) ?_
            try simp only [Act.put]
            try simp only [List.setIfInBounds_toArray]
            try simp only [List.set_cons_succ]
            try simp only [List.set_cons_zero]
            refine wpAnyL_take (oi := ⟨some 66, _, _, _, _, _⟩) 0 12 (X.v Av cv) _ rfl (by kernel_rfl) (by kernel_rfl) (by kernel_rfl) (by kernel_rfl) (by kernel_rfl) (by kernel_rfl) (.head _) (fun _ _ _ h => h) (by kernel_rfl) (fun W' hW' => exec_load_blk (cs := X.cs Av cv) rfl rfl hW' _ Tryz.underlying24 rfl isz5) (HKS.out _ _ GD.out) ?_
            try simp only [Act.put]
            try simp only [List.setIfInBounds_toArray]
            try simp only [List.set_cons_succ]
            try simp only [List.set_cons_zero]
            refine wpAnyL_move (oi := ⟨some 67, _, _, _, _, _⟩) 1 ?_ rfl (by kernel_rfl) (by kernel_rfl) (by kernel_rfl) (by kernel_rfl) (fun _ _ _ h => h) (by kernel_rfl) ?_ ((HKS.out _ _ GD.out)) ?_
            rotate_left
            · intro W'; go_simp; first | done | with_reducible rfl
            try simp only [Act.put]
            try simp only [List.setIfInBounds_toArray]
            try simp only [List.set_cons_succ]
            try simp only [List.set_cons_zero]
            refine wpAnyL_take (oi := ⟨some 68, _, _, _, _, _⟩) 2 12 (.int .i64 (M.length : Int)) _ rfl (by kernel_rfl) (by kernel_rfl) (by kernel_rfl) (by kernel_rfl) (by kernel_rfl) (by kernel_rfl) (.tail _ (.head _)) (fun _ _ _ h => h) (by kernel_rfl) (fun W' hW' => by (try dsimp only at hW'); go_simp) (HKS.out _ _ GD.out) ?_
            try simp only [Act.put]
            try simp only [List.setIfInBounds_toArray]
            try simp only [List.set_cons_succ]
            try simp only [List.set_cons_zero]
            refine wpAnyL_move (oi := ⟨some 71, _, _, _, _, _⟩) 5 ?_ rfl (by kernel_rfl) (by kernel_rfl) (by kernel_rfl) (by kernel_rfl) (fun _ _ _ h => h) (by kernel_rfl) ?_ ((HKS.out _ _ GD.out)) ?_
            rotate_left
            · intro W'; go_simp; first | done | with_reducible rfl
            try simp only [Act.put]
            try simp only [List.setIfInBounds_toArray]
            try simp only [List.set_cons_succ]
            try simp only [List.set_cons_zero]
            refine wpAnyL_take (oi := ⟨some 72, _, _, _, _, _⟩) 6 12 (.slice Av r cv) _ rfl (by kernel_rfl) (by kernel_rfl) (by kernel_rfl) (by kernel_rfl) (by kernel_rfl) (by kernel_rfl) (.tail _ (.tail _ (.head _))) (fun _ _ _ h => h) (by kernel_rfl) (fun W' hW' => by (try dsimp only at hW'); go_simp) (HKS.out _ _ GD.out) ?_
            try simp only [Act.put]
            try simp only [List.setIfInBounds_toArray]
            try simp only [List.set_cons_succ]
            try simp only [List.set_cons_zero]
            refine wpAnyL_move (oi := ⟨some 73, _, _, _, _, _⟩) 7 ?_ rfl (by kernel_rfl) (by kernel_rfl) (by kernel_rfl) (by kernel_rfl) (fun _ _ _ h => h) (by kernel_rfl) ?_ ((HKS.out _ _ GD.out)) ?_
            rotate_left
            · intro W'; go_simp; first | done | with_reducible rfl
            try simp only [Act.put]
            try simp only [List.setIfInBounds_toArray]
            try simp only [List.set_cons_succ]
            try simp only [List.set_cons_zero]
            refine wpAnyL_two (oi := ⟨some 69, _, _, _, _, _⟩) (oj := ⟨some 70, _, _, _, _, _⟩) 3 4 (by kernel_rfl) rfl rfl (fun K hK => ?_) (fun K hK => ?_)
            · go_wp2_with ((with_reducible refine at_make ?_); refine wpList_mkB _ rfl (.tmp 68) (.tmp 68) rfl M.length rfl rfl (by omega) ?_; intro wA HF69 HWA)
              have GD1 := hideIt (GD.out.trans (HWA.out.mono GD.out.size))
              obtain ⟨g69, hg69⟩ : ∃ g, g = (w6.drew).heap.size := ⟨_, rfl⟩
              rw [← hg69] at HF69 ⊢
              clear hg69 HWA
              refine hK _ _ (HKS.out _ _ GD1.out) ?_
              clear hK K
              try simp only [Act.put]
              try simp only [List.setIfInBounds_toArray]
              try simp only [List.set_cons_succ]
              try simp only [List.set_cons_zero]
              refine wpAnyL_one (o := ⟨some 70, _, _, _, _, _⟩) 4 (by kernel_rfl) rfl (fun K hK => ?_)
              go_wp2_with fail
              have GD2 := hideIt (GD1.out.alloc GD1.out.size (.cells #[.bool true] 4))
              have hbl := below_new (wA) (.cells #[.bool true] 4)
              have HS70 := hideIt (sl_one8 (wA) 4 (.bool true))
              obtain ⟨A70, hA70⟩ : ∃ A, A = (some ⟨(wA).heap.size, 0, none⟩ : Option Addr) := ⟨_, rfl⟩
              obtain ⟨wL, hwL⟩ : ∃ V, V = (wA).alloc (.cells #[.bool true] 4) := ⟨_, rfl⟩
              rw [← hA70] at HS70
              rw [← hwL] at HS70 GD2 hbl
              rw [← hA70, ← hwL]
              replace HF69 := hideIt (HF69.out.kept hbl HF69.out.lt)
              clear hA70 hwL hbl
              refine hK _ _ (HKS.out _ _ GD2.out) ?_
              clear hK K
              try simp only [Act.put]
              try simp only [List.setIfInBounds_toArray]
              try simp only [List.set_cons_succ]
              try simp only [List.set_cons_zero]
              refine wpAnyL_one (o := ⟨some 74, _, _, _, _, _⟩) 8 (by kernel_rfl) rfl (fun K hK => ?_)
              go_wp2_with (go_at_call 38; refine (HRP.out _ _ HS70.out).mono ?_; rintro e wR ⟨g74, rfl, hg, hblk, hbr⟩)
              have HF74 := hideIt hblk
              have GD3 := hideIt (GD2.out.trans (hbr.mono GD2.out.size))
              replace HF69 := hideIt (HF69.out.kept hbr HF69.out.lt)
              clear hblk hbr hg
              refine hK _ _ (HKS.out _ _ GD3.out) ?_
              clear hK K
              try simp only [Act.put]
              try simp only [List.setIfInBounds_toArray]
              try simp only [List.set_cons_succ]
              try simp only [List.set_cons_zero]
              refine wpAnyL_one (o := ⟨some 75, _, _, _, _, _⟩) 9 (by kernel_rfl) rfl (fun K hK => ?_)
              go_wp2_with fail
              have hbl := below_new (wR) (.cells #[.slice (some ⟨g69, 0, none⟩) M.length M.length, .slice (some ⟨g74, 0, none⟩) r r] 25)
              have GD9 := hideIt (GD3.out.alloc GD3.out.size (.cells #[.slice (some ⟨g69, 0, none⟩) M.length M.length, .slice (some ⟨g74, 0, none⟩) r r] 25))
              have HC9 := hideIt (HCC.out _ _ _ g69 g74 (Blk.new (wR) 25 [.slice (some ⟨g69, 0, none⟩) M.length M.length, .slice (some ⟨g74, 0, none⟩) r r]) (HF69.out.kept hbl HF69.out.lt) (HF74.out.kept hbl HF74.out.lt))
              clear hbl
              refine hK _ _ (HKS.out _ _ GD9.out) ?_
              clear hK K
              try simp only [Act.put]
              try simp only [List.setIfInBounds_toArray]
              try simp only [List.set_cons_succ]
              try simp only [List.set_cons_zero]
              refine wpAnyL_one (o := ⟨some 76, _, _, _, _, _⟩) 10 (by kernel_rfl) rfl (fun K hK => ?_)
              go_wp2_with (go_at_call 72; refine HC9.out.mono ?_; rintro e wC ⟨AC, cC, rfl, hsC, hbC⟩)
              have HSC := hideIt hsC
              have GD10 := hideIt (GD9.out.trans (hbC.mono GD9.out.size))
              clear hsC hbC
              refine hK _ _ (HKS.out _ _ GD10.out) ?_
              clear hK K
              try simp only [Act.put]
              try simp only [List.setIfInBounds_toArray]
              try simp only [List.set_cons_succ]
              try simp only [List.set_cons_zero]
              refine wpAnyL_one (o := ⟨some 77, _, _, _, _, _⟩) 11 (by kernel_rfl) rfl (fun K hK => ?_)
              go_wp2_with (go_at_call 21; refine (HDC.out _ GD10.out _ _ HSC.out).mono ?_; rintro e wD ⟨rfl, hbD⟩)
              have GD11 := hideIt (GD10.out.trans (hbD.mono GD10.out.size))
              clear hbD
              refine hK _ _ (HKS.out _ _ GD11.out) ?_
              clear hK K
              try simp only [Act.put]
              try simp only [List.setIfInBounds_toArray]
              try simp only [List.set_cons_succ]
              try simp only [List.set_cons_zero]
              refine loads_tail 12 (by kernel_rfl) (by kernel_rfl) (by kernel_rfl) (by kernel_rfl) ?_
              simp only [List.drop_succ_cons, List.drop_zero]
              go_wp2_with fail
              go_ret
              exact ⟨rfl, HB.out.trans ((HL.out.trans ((HL6.out.trans (GD11.out.mono HL6.out.size)).mono HL.out.size)).mono HB.out.size)⟩
            · go_wp2_with fail
              have GD1 := hideIt (GD.out.alloc GD.out.size (.cells #[.bool true] 4))
              have hbl := below_new (w6.drew) (.cells #[.bool true] 4)
              have HS70 := hideIt (sl_one8 (w6.drew) 4 (.bool true))
              obtain ⟨A70, hA70⟩ : ∃ A, A = (some ⟨(w6.drew).heap.size, 0, none⟩ : Option Addr) := ⟨_, rfl⟩
              obtain ⟨wL, hwL⟩ : ∃ V, V = (w6.drew).alloc (.cells #[.bool true] 4) := ⟨_, rfl⟩
              rw [← hA70] at HS70
              rw [← hwL] at HS70 GD1 hbl
              rw [show (some ⟨w6.heap.size, 0, none⟩ : Option Addr) = A70 from hA70.symm, show (w6.alloc (.cells #[.bool true] 4)).drew = wL from hwL.symm]
              clear hA70 hwL hbl
              refine hK _ _ (HKS.out _ _ GD1.out) ?_
              clear hK K
              try simp only [Act.put]
              try simp only [List.setIfInBounds_toArray]
              try simp only [List.set_cons_succ]
              try simp only [List.set_cons_zero]
              refine wpAnyL_two (oi := ⟨some 69, _, _, _, _, _⟩) (oj := ⟨some 74, _, _, _, _, _⟩) 3 8 (by kernel_rfl) rfl rfl (fun K hK => ?_) (fun K hK => ?_)
              · go_wp2_with ((with_reducible refine at_make ?_); refine wpList_mkB _ rfl (.tmp 68) (.tmp 68) rfl M.length rfl rfl (by omega) ?_; intro wA HF69 HWA)
                have GD2 := hideIt (GD1.out.trans (HWA.out.mono GD1.out.size))
                obtain ⟨g69, hg69⟩ : ∃ g, g = (wL).heap.size := ⟨_, rfl⟩
                rw [← hg69] at HF69 ⊢
                replace HS70 := hideIt ((HS70.out.below HWA.out).wide HWA.out.size)
                clear hg69 HWA
                refine hK _ _ (HKS.out _ _ GD2.out) ?_
                clear hK K
                try simp only [Act.put]
                try simp only [List.setIfInBounds_toArray]
                try simp only [List.set_cons_succ]
                try simp only [List.set_cons_zero]
                refine wpAnyL_one (o := ⟨some 74, _, _, _, _, _⟩) 8 (by kernel_rfl) rfl (fun K hK => ?_)
                go_wp2_with (go_at_call 38; refine (HRP.out _ _ HS70.out).mono ?_; rintro e wR ⟨g74, rfl, hg, hblk, hbr⟩)
                have HF74 := hideIt hblk
                have GD3 := hideIt (GD2.out.trans (hbr.mono GD2.out.size))
                replace HF69 := hideIt (HF69.out.kept hbr HF69.out.lt)
                clear hblk hbr hg
                refine hK _ _ (HKS.out _ _ GD3.out) ?_
                clear hK K
                try simp only [Act.put]
                try simp only [List.setIfInBounds_toArray]
                try simp only [List.set_cons_succ]
                try simp only [List.set_cons_zero]
                refine wpAnyL_one (o := ⟨some 75, _, _, _, _, _⟩) 9 (by kernel_rfl) rfl (fun K hK => ?_)
                go_wp2_with fail
                have hbl := below_new (wR) (.cells #[.slice (some ⟨g69, 0, none⟩) M.length M.length, .slice (some ⟨g74, 0, none⟩) r r] 25)
                have GD9 := hideIt (GD3.out.alloc GD3.out.size (.cells #[.slice (some ⟨g69, 0, none⟩) M.length M.length, .slice (some ⟨g74, 0, none⟩) r r] 25))
                have HC9 := hideIt (HCC.out _ _ _ g69 g74 (Blk.new (wR) 25 [.slice (some ⟨g69, 0, none⟩) M.length M.length, .slice (some ⟨g74, 0, none⟩) r r]) (HF69.out.kept hbl HF69.out.lt) (HF74.out.kept hbl HF74.out.lt))
                clear hbl
                refine hK _ _ (HKS.out _ _ GD9.out) ?_
                clear hK K
                try simp only [Act.put]
                try simp only [List.setIfInBounds_toArray]
                try simp only [List.set_cons_succ]
                try simp only [List.set_cons_zero]
                refine wpAnyL_one (o := ⟨some 76, _, _, _, _, _⟩) 10 (by kernel_rfl) rfl (fun K hK => ?_)
                go_wp2_with (go_at_call 72; refine HC9.out.mono ?_; rintro e wC ⟨AC, cC, rfl, hsC, hbC⟩)
                have HSC := hideIt hsC
                have GD10 := hideIt (GD9.out.trans (hbC.mono GD9.out.size))
                clear hsC hbC
                refine hK _ _ (HKS.out _ _ GD10.out) ?_
                clear hK K
                try simp only [Act.put]
                try simp only [List.setIfInBounds_toArray]
                try simp only [List.set_cons_succ]
                try simp only [List.set_cons_zero]
                refine wpAnyL_one (o := ⟨some 77, _, _, _, _, _⟩) 11 (by kernel_rfl) rfl (fun K hK => ?_)
                go_wp2_with (go_at_call 21; refine (HDC.out _ GD10.out _ _ HSC.out).mono ?_; rintro e wD ⟨rfl, hbD⟩)
                have GD11 := hideIt (GD10.out.trans (hbD.mono GD10.out.size))
                clear hbD
                refine hK _ _ (HKS.out _ _ GD11.out) ?_
                clear hK K
                try simp only [Act.put]
                try simp only [List.setIfInBounds_toArray]
                try simp only [List.set_cons_succ]
                try simp only [List.set_cons_zero]
                refine loads_tail 12 (by kernel_rfl) (by kernel_rfl) (by kernel_rfl) (by kernel_rfl) ?_
                simp only [List.drop_succ_cons, List.drop_zero]
                go_wp2_with fail
                go_ret
                exact ⟨rfl, HB.out.trans ((HL.out.trans ((HL6.out.trans (GD11.out.mono HL6.out.size)).mono HL.out.size)).mono HB.out.size)⟩
              · go_wp2_with (go_at_call 38; refine (HRP.out _ _ HS70.out).mono ?_; rintro e wR ⟨g74, rfl, hg, hblk, hbr⟩)
                have HF74 := hideIt hblk
                have GD2 := hideIt (GD1.out.trans (hbr.mono GD1.out.size))
                clear hblk hbr hg
                refine hK _ _ (HKS.out _ _ GD2.out) ?_
                clear hK K
                try simp only [Act.put]
                try simp only [List.setIfInBounds_toArray]
                try simp only [List.set_cons_succ]
                try simp only [List.set_cons_zero]
                refine wpAnyL_one (o := ⟨some 69, _, _, _, _, _⟩) 3 (by kernel_rfl) rfl (fun K hK => ?_)
                go_wp2_with ((with_reducible refine at_make ?_); refine wpList_mkB _ rfl (.tmp 68) (.tmp 68) rfl M.length rfl rfl (by omega) ?_; intro wA HF69 HWA)
                have GD3 := hideIt (GD2.out.trans (HWA.out.mono GD2.out.size))
                obtain ⟨g69, hg69⟩ : ∃ g, g = (wR).heap.size := ⟨_, rfl⟩
                rw [← hg69] at HF69 ⊢
                replace HF74 := hideIt (HF74.out.kept HWA.out HF74.out.lt)
                clear hg69 HWA
                refine hK _ _ (HKS.out _ _ GD3.out) ?_
                clear hK K
                try simp only [Act.put]
                try simp only [List.setIfInBounds_toArray]
                try simp only [List.set_cons_succ]
                try simp only [List.set_cons_zero]
                refine wpAnyL_one (o := ⟨some 75, _, _, _, _, _⟩) 9 (by kernel_rfl) rfl (fun K hK => ?_)
                go_wp2_with fail
                have hbl := below_new (wA) (.cells #[.slice (some ⟨g69, 0, none⟩) M.length M.length, .slice (some ⟨g74, 0, none⟩) r r] 25)
                have GD9 := hideIt (GD3.out.alloc GD3.out.size (.cells #[.slice (some ⟨g69, 0, none⟩) M.length M.length, .slice (some ⟨g74, 0, none⟩) r r] 25))
                have HC9 := hideIt (HCC.out _ _ _ g69 g74 (Blk.new (wA) 25 [.slice (some ⟨g69, 0, none⟩) M.length M.length, .slice (some ⟨g74, 0, none⟩) r r]) (HF69.out.kept hbl HF69.out.lt) (HF74.out.kept hbl HF74.out.lt))
                clear hbl
                refine hK _ _ (HKS.out _ _ GD9.out) ?_
                clear hK K
                try simp only [Act.put]
                try simp only [List.setIfInBounds_toArray]
                try simp only [List.set_cons_succ]
                try simp only [List.set_cons_zero]
                refine wpAnyL_one (o := ⟨some 76, _, _, _, _, _⟩) 10 (by kernel_rfl) rfl (fun K hK => ?_)
                go_wp2_with (go_at_call 72; refine HC9.out.mono ?_; rintro e wC ⟨AC, cC, rfl, hsC, hbC⟩)
                have HSC := hideIt hsC
                have GD10 := hideIt (GD9.out.trans (hbC.mono GD9.out.size))
                clear hsC hbC
                refine hK _ _ (HKS.out _ _ GD10.out) ?_
                clear hK K
                try simp only [Act.put]
                try simp only [List.setIfInBounds_toArray]
                try simp only [List.set_cons_succ]
                try simp only [List.set_cons_zero]
                refine wpAnyL_one (o := ⟨some 77, _, _, _, _, _⟩) 11 (by kernel_rfl) rfl (fun K hK => ?_)
                go_wp2_with (go_at_call 21; refine (HDC.out _ GD10.out _ _ HSC.out).mono ?_; rintro e wD ⟨rfl, hbD⟩)
                have GD11 := hideIt (GD10.out.trans (hbD.mono GD10.out.size))
                clear hbD
                refine hK _ _ (HKS.out _ _ GD11.out) ?_
                clear hK K
                try simp only [Act.put]
                try simp only [List.setIfInBounds_toArray]
                try simp only [List.set_cons_succ]
                try simp only [List.set_cons_zero]
                refine loads_tail 12 (by kernel_rfl) (by kernel_rfl) (by kernel_rfl) (by kernel_rfl) ?_
                simp only [List.drop_succ_cons, List.drop_zero]
                go_wp2_with fail
                go_ret
                exact ⟨rfl, HB.out.trans ((HL.out.trans ((HL6.out.trans (GD11.out.mono HL6.out.size)).mono HL.out.size)).mono HB.out.size)⟩
end Go.Proofs.YtkfahoaiialndaaGreatDoor
