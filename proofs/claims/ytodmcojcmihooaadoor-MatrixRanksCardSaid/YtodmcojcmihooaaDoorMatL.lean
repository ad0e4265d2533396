/-
  eliminate, walked.
-/
import Derived.Test.YtodmcojcmihooaaDoorMatK
namespace Go.Proofs.YtodmcojcmihooaaDoor
open Go.RowKit
set_option linter.unusedVariables false

/-- The rows while the multiples are added. -/
def half (m : Nat) (N : Mx) (top col i : Nat) : Mx := fun r j => if r = top then mul m (N top j) (inv m (N top col)) else if r < i then N r j ^^^ mul m (mul m (N top j) (inv m (N top col))) (N r col) else N r j
theorem half_zero (m : Nat) (N : Mx) (top col : Nat) : sclR6 m N top (inv m (N top col)) = half m N top col 0 := by
  funext r j
  unfold sclR6 half
  by_cases e : r = top
  · rw [if_pos e, if_pos e]
  · rw [if_neg e, if_neg e, if_neg (by omega)]
theorem half_at {m : Nat} {N : Mx} {top col i : Nat} (h : i ≠ top) : half m N top col i i col = N i col := by
  unfold half
  rw [if_neg h, if_neg (by omega)]
theorem half_step {m : Nat} {N : Mx} {top col i : Nat} (h : i ≠ top) : addR6 m (half m N top col i) i top (N i col) = half m N top col (i + 1) := by
  funext r j
  unfold addR6 half
  by_cases e : r = i
  · subst e
    rw [if_pos rfl, if_neg h, if_neg (by omega), if_pos rfl, if_neg h, if_pos (by omega)]
  · rw [if_neg e]
    by_cases e2 : r = top
    · rw [if_pos e2, if_pos e2]
    · rw [if_neg e2, if_neg e2]
      by_cases e3 : r < i
      · rw [if_pos e3, if_pos (by omega)]
      · rw [if_neg e3, if_neg (by omega)]
theorem half_skip (m : Nat) (N : Mx) (top col : Nat) : half m N top col top = half m N top col (top + 1) := by
  funext r j
  unfold half
  by_cases e2 : r = top
  · rw [if_pos e2, if_pos e2]
  · rw [if_neg e2, if_neg e2]
    by_cases e3 : r < top
    · rw [if_pos e3, if_pos (by omega)]
    · rw [if_neg e3, if_neg (by omega)]
theorem half_all (m : Nat) (N : Mx) (top col R r j : Nat) (hr : r < R) : half m N top col R r j = clr m N top col r j := by
  unfold half clr
  by_cases e : r = top
  · rw [if_pos e, if_pos e]
  · rw [if_neg e, if_neg e, if_pos hr]
theorem half_v {m : Nat} (hm : Fm m) {N : Mx} (hN : Vm m N) (top col i : Nat) : Vm m (half m N top col i) := fun r j => by
  unfold half
  split
  · exact mul_lt hm _ (hN _ _)
  · split
    · exact Nat.xor_lt_two_pow (hN _ _) (mul_lt hm _ (mul_lt hm _ (hN _ _)))
    · exact hN _ _

/-- What eliminate leaves. -/
def ElimPost (m B g R n cols : Nat) (D : RD) (A : Mx) (w : World) (e : Ending) (w' : World) : Prop :=
  ∃ v D', e = .returned v ∧ w'.ownsRow w.heap.size 3 1 v (red m R A cols).2.length (pvC (red m R A cols).2) ∧ EM w' B g R n D' (red m R A cols).1 ∧ Sel (fun k _ => k = g ∨ (0 < n ∧ ∃ i, i < R ∧ k = D.b i)) w w'

theorem int_neqF6 (t : TypeId) {a b : Int} (h : a = b) : binOp .neq t (.int .i64 a) (.int .i64 b) = pure (.bool false) := by
  rw [binOp_neq, h]; simp
theorem int_neqT6 (t : TypeId) {a b : Int} (h : a ≠ b) : binOp .neq t (.int .i64 a) (.int .i64 b) = pure (.bool true) := by
  have h2 : (a != b) = true := by rw [bne_iff_ne]; exact h
  rw [binOp_neq, h2]

set_option maxHeartbeats 2000000 in
set_option maxRecDepth 100000 in
theorem elim_any (m B g R n cols cR : Nat) (hm : Fm m) (D : RD) (A : Mx) (hA : Vm m A) (w : World) (hT : Tabs w) (hBT : 0 < B) (hBw : B ≤ w.heap.size) (hn : n ≤ 100) (hR : R ≤ 100) (hc : cols ≤ n) (h : EM w B g R n D A) :
    Calls Tryd.prog 43 #[.int .i64 (m : Int), .slice (some ⟨g, 0, none⟩) R cR, .int .i64 (cols : Int)] w (ElimPost m B g R n cols D A w) := by
  obtain ⟨W0, hW0⟩ : ∃ W0, W0 = (w.alloc (.cells #[.int .i64 (m : Int)] 3)).alloc (.cells #[.slice (some ⟨g, 0, none⟩) R cR] 51) := ⟨_, rfl⟩
  have hb0 : Below w.heap.size w W0 := by rw [hW0]; exact ((Below.refl _ w).alloc (Nat.le_refl _) _).alloc (by simp) _
  have hp3 : Blk W0 w.heap.size 3 [.int .i64 (m : Int)] := by rw [hW0]; exact (Blk.new w _ _).alloc _
  have hp4 : Blk W0 (w.heap.size + 1) 51 [.slice (some ⟨g, 0, none⟩) R cR] := by rw [hW0]; exact Blk.new2 w _ _ _
  have hI0 : EI m B g R n cR D A w (red m R A 0).1 (red m R A 0).2 (.slice none 0 0) D W0 :=
    ⟨h, h.below hb0, World.ownsRow_nil _ _ _ _, hp3, hp4, Sel.of_below _ hb0, fun h0 i hi => .inr ⟨i, hi, rfl⟩, fun k hk => by cases hk⟩
  have HI0 := hideIt hI0
  have HM := hideIt hm
  have HA := hideIt hA
  have HTT := hideIt hT
  have HBT := hideIt hBT
  have HBW := hideIt hBw
  have HRD := hideIt (fun c => red_rd hm R hA c)
  clear hI0 hb0 hp3 hp4 h hm hA hT hBT hBw
  go_enter Tryd.func43, Tryd.ntmps43
  go_wp2_with fail
  go_step3
  go_wp2_with fail
  go_step3
  go_wp2_with fail
  rw [← hW0]
  have HW0 := hideIt hW0
  clear hW0
  go_loopg [7, 21] cols (fun gk s7 s21 wr => ∃ (c : Nat) (DD : RD) (v : Value), c + gk = cols ∧ s7 = v ∧ s21 = .int .i64 (c : Int) ∧ Aside (EI m B g R n cR D A w (red m R A c).1 (red m R A c).2 v DD wr))
  case atStart => exact ⟨0, D, .slice none 0 0, by omega, rfl, rfl, HI0.out⟩
  case round =>
    obtain ⟨c, DD, v, hck, rfl, rfl, HE0⟩ := hrel
    by_cases hlt : c < cols
    · have hci : (c : Int) < (cols : Int) := by omega
      have HE1 := HE0.out
      have HR1 := HRD.out c
      have HNX := hideIt (show red m R A (c + 1) = stp m R c ((red m R A c).1, (red m R A c).2) from rfl)
      generalize (red m R A c).1 = M at HE1 HR1 HNX
      generalize (red m R A c).2 = pv at HE1 HR1 HNX
      obtain ⟨A', c', rfl, hc1, hc2⟩ := own_form HE1.own
      have HR := hideIt HR1
      obtain ⟨top, htop⟩ : ∃ top, top = pv.length := ⟨_, rfl⟩
      rw [← htop] at HE1
      have HE := hideIt HE1
      have htR : top ≤ R := by rw [htop]; exact HR1.len
      have hp4c : wr.cell? ⟨w.heap.size + 1, 0, none⟩ = some (.slice (some ⟨g, 0, none⟩) R cR) := by rw [HE1.p4.cell]; rfl
      rw [← htop]
      have HTOP := hideIt htop
      clear HE0 HE1 HR1 htop HI0
      have hinc0 := inc_c 3 c (by omega)
      obtain ⟨w1, rfl⟩ : ∃ x, x = wr := ⟨wr, rfl⟩
      obtain ⟨g1, rfl⟩ : ∃ x, x = gk := ⟨gk, rfl⟩
      go_wp2_with fail
      go_loopg [13] (R - top) (fun gj s13 W => ∃ i : Nat, i + gj = R ∧ top ≤ i ∧ s13 = .int .i64 (i : Int) ∧ W = w1 ∧ Aside (∀ k, top ≤ k → k < i → M k c = 0))
      case atStart => exact ⟨top, by omega, Nat.le_refl _, rfl, rfl, fun k h1 h2 => absurd h2 (by omega)⟩
      case round =>
        obtain ⟨i, hij, hti, rfl, rfl, HZ⟩ := hrel
        by_cases hiR : i < R
        · have h0n : 0 < n := by omega
          have hq := int_eqlF 3 (a := (i : Int)) (b := (R : Int)) (by omega)
          have hdr := HE.out.em.hdr i hiR
          have hrw := HE.out.em.row i hiR
          rw [hrw.adr h0n] at hdr
          have hcell := hrw.cell c (by omega)
          have hiRi : (i : Int) < (R : Int) := by omega
          have hcni : (c : Int) < (n : Int) := by omega
          have hinc := inc_c 3 i (by omega)
          clear hrw
          by_cases hz : M i c = 0
          · have hnq := int_neqF6 3 (a := ((M i c : Nat) : Int)) (b := 0) (by omega)
            have HZ0 := hideIt hz
            clear hz
            generalize M i c = x at hcell hnq
            go_wp2_with fail
            go_roundg (gk - 1)
            case measure => omega
            case rel =>
              refine ⟨i + 1, by omega, by omega, by go_num, rfl, fun k h1 h2 => ?_⟩
              by_cases e : k = i
              · rw [e]; exact HZ0.out
              · exact HZ.out k h1 (by omega)
          · have hnq := int_neqT6 3 (a := ((M i c : Nat) : Int)) (b := 0) (by omega)
            have HZ0 := hideIt hz
            clear hz
            generalize M i c = x at hcell hnq
            go_wp2_with fail
            have htR2 : top < R := by omega
            have hgs := HE.out.ini.glt
            refine (eswap_any B g R n i top (w.heap.size + 1) cR DD M wr HE.out.em hiR htR2 (by omega) HE.out.p4 (by omega)).mono ?_
            rintro e w2 ⟨rfl, hem2, hs2⟩
            have HE2 := HE.out.step (hs2.wide (fun k o q => .inl q)) hem2 (fun h0 x hx => .inr ⟨(if x = i then top else if x = top then i else x), by split; exact htR2; split; exact hiR; exact hx, rfl⟩)
            rw [swp_comm] at HE2
            have hpr : prow M R c pv.length = i := prow_is (by rw [← HTOP.out]; exact hti) hiR HZ0.out (fun k h1 h2 => HZ.out k (by rw [HTOP.out]; exact h1) h2)
            have HNX2 : Hid (red m R A (c + 1) = (clr m (swp M top i) top c, pv ++ [c])) := by
              refine hideIt (HNX.out.trans ?_)
              unfold stp
              rw [if_pos (by simp only; rw [hpr]; exact hiR)]
              simp only
              rw [hpr, HTOP.out]
            have hNV := swp_v HR.out.v top i
            have hNT : swp M top i top c ≠ 0 := by unfold swp; rw [if_pos rfl]; exact HZ0.out
            clear hem2 hs2 hpr hdr hcell hnq hq hinc hp4c hiRi HZ HNX HZ0 HR
            generalize swp M top i = N at HE2 HNX2 hNV hNT
            generalize DD.swap i top = D2 at HE2
            have hdr := HE2.em.hdr top htR2
            have hrw := HE2.em.row top htR2
            rw [hrw.adr h0n] at hdr
            have hcell := hrw.cell c (by omega)
            have hp4c : w2.cell? ⟨w.heap.size + 1, 0, none⟩ = some (.slice (some ⟨g, 0, none⟩) R cR) := by rw [HE2.p4.cell]; rfl
            have hp3c : w2.cell? ⟨w.heap.size, 0, none⟩ = some (.int .i64 (m : Int)) := by rw [HE2.p3.cell]; rfl
            have hTR : (top : Int) < (R : Int) := by omega
            have HINV := hideIt (fun k => finv_is (HTT.out.sel HE2.sel (fun o q => by have := HBT.out; have := HE2.ini.gB; rcases q with q | ⟨_, j, hj, q⟩; omega; have := (HE2.ini.low h0n j hj).1; omega)) HM.out (hNV top c) hNT k)
            have HEB := hideIt HE2
            have HNV := hideIt hNV
            clear hrw HE2 hNV hNT
            obtain ⟨iv1, hiv1⟩ : ∃ x, x = inv m (N top c) := ⟨_, rfl⟩
            rw [← hiv1] at HINV
            have HIV := hideIt hiv1
            clear hiv1
            generalize N top c = x at hcell HINV
            go_wp2_with fail
            go_quiet ((go_at_call 55; refine (HINV.out _).mono ?_; rintro e w' ⟨rfl, k, rfl⟩; exact ⟨rfl, k, rfl⟩))
            go_wp2_with fail
            have HE3 := HEB.out.below (below_drewN (Below.refl _ _) nq)
            generalize w2.drewN nq = w3 at *
            clear hdr hcell hp4c hp3c HEB HINV
            have tab : ∀ {MM : Mx} {vv : Value} {DX : RD} {W : World}, EI m B g R n cR D A w MM pv vv DX W → Tabs W := fun hh => HTT.out.sel hh.sel (fun o q => by have := HBT.out; have := hh.ini.gB; rcases q with q | ⟨_, j, hj, q⟩; omega; have := (hh.ini.low h0n j hj).1; omega)
            refine (escale_any m B g R n top iv1 w.heap.size (w.heap.size + 1) cR HM.out (by rw [HIV.out]; exact inv_lt HM.out _) D2 N w3 (tab HE3) HBT.out (by have := HBW.out; have := HE3.sel.size; omega) h0n (by omega) (fun r j _ _ => HNV.out r j) HE3.em htR2 (by omega) HE3.p3 HE3.p4).mono ?_
            rintro e w4 ⟨rfl, hem4, hs4⟩
            have HE4 := HE3.step (hs4.wide (fun k o q => .inl q)) hem4 (fun h0 x hx => by
              show w3.heap.size ≤ (if x = top then w3.heap.size else D2.b x) ∨ ∃ k, k < R ∧ (if x = top then w3.heap.size else D2.b x) = D2.b k
              by_cases e : x = top
              · rw [if_pos e]; exact .inl (Nat.le_refl _)
              · rw [if_neg e]; exact .inr ⟨x, hx, rfl⟩)
            rw [HIV.out, half_zero] at HE4
            generalize D2.new top w3.heap.size n = D3 at HE4
            have HTAB := hideIt (fun (MM : Mx) (vv : Value) (DX : RD) (W : World) (hh : EI m B g R n cR D A w MM pv vv DX W) => tab hh)
            have HEB := hideIt HE4
            have hp4c : w4.cell? ⟨w.heap.size + 1, 0, none⟩ = some (.slice (some ⟨g, 0, none⟩) R cR) := by rw [HE4.p4.cell]; rfl
            clear tab hem4 hs4 HE3 HE4 HIV
            obtain ⟨g2, rfl⟩ : ∃ x, x = gk := ⟨gk, rfl⟩
            go_wp2_with fail
            clear hp4c
            go_loopg [63] R (fun gi s63 W => ∃ x : Nat, x + gi = R ∧ s63 = .int .i64 (x : Int) ∧ Aside (EI m B g R n cR D A w (half m N top c x) pv (.slice A' top c') D3 W))
            case atStart => exact ⟨0, by omega, rfl, HEB.out⟩
            case round =>
              obtain ⟨x, hx, rfl, HL⟩ := hrel
              by_cases hxR : x < R
              · have hxi : (x : Int) < (R : Int) := by omega
                have hinc := inc_c 3 x (by omega)
                by_cases hxt : x = top
                · have hnq := int_neqF6 3 (a := (x : Int)) (b := (top : Int)) (by omega)
                  have HXT := hideIt hxt
                  clear hxt
                  go_wp2_with fail
                  go_roundg (gk - 1)
                  case measure => omega
                  case rel => exact ⟨x + 1, by omega, by go_num, by have e : half m N top c x = half m N top c (x + 1) := (by rw [HXT.out]; exact half_skip m N top c); rw [← e]; exact HL.out⟩
                · have hnq := int_neqT6 3 (a := (x : Int)) (b := (top : Int)) (by omega)
                  have HXT := hideIt hxt
                  have hdr := HL.out.em.hdr x hxR
                  have hrw := HL.out.em.row x hxR
                  rw [hrw.adr h0n] at hdr
                  have hcell := hrw.cell c (by omega)
                  rw [half_at hxt] at hcell
                  have hp4c : wr.cell? ⟨w.heap.size + 1, 0, none⟩ = some (.slice (some ⟨g, 0, none⟩) R cR) := by rw [HL.out.p4.cell]; rfl
                  have HAD := hideIt (eadd_any m B g R n x top (N x c) w.heap.size (w.heap.size + 1) cR HM.out (HNV.out x c) D3 (half m N top c x) wr (HTAB.out _ _ _ _ HL.out) HBT.out h0n (by omega) (fun r j _ _ => half_v HM.out HNV.out top c x r j) HL.out.em hxR htR2 hxt (by omega) HL.out.p3 HL.out.p4)
                  rw [half_step hxt] at HAD
                  have HLL := hideIt HL.out
                  clear hrw hxt HL
                  generalize N x c = y at hcell HAD
                  go_wp2_with fail
                  refine HAD.out.mono ?_
                  rintro e w5 ⟨rfl, hem5, hs5⟩
                  have HE5 := hideIt (HLL.out.step (hs5.wide (fun k o q => .inr ⟨h0n, x, hxR, q.1⟩)) hem5 (fun h0 z hz => .inr ⟨z, hz, rfl⟩))
                  clear hem5 hs5 hdr hcell hp4c HAD HLL
                  go_wp2_with fail
                  go_roundg (gk - 1)
                  case measure => omega
                  case rel => exact ⟨x + 1, by omega, by go_num, HE5.out⟩
              · have hxi : ¬ (x : Int) < (R : Int) := by omega
                obtain rfl : x = R := by omega
                have HE6 := hideIt (HL.out.congr (fun r j hr hj => half_all m N top c x r j hr))
                have HE7 := hideIt (HE6.out.below (below_new wr (.cells #[.int .i64 (c : Int)] 3)))
                have HTL := hideIt (show pv.length ≤ 100 by rw [← HTOP.out]; omega)
                obtain ⟨i0, hi, hz0, hz1, hz2⟩ := info_parts (show (Tryd.prog.info? 3).map (fun i => (i.zero, i.size, i.bytes)) = some (some (Value.int .i64 0), 1, 8) by kernel_rfl)
                have HIN := hideIt (And.intro hi (And.intro hz0 (And.intro hz1 hz2)))
                clear HL hi hz0 hz1 hz2
                go_wp2_with ((with_reducible refine at_append ?_); refine wpList_append_own_at _ rfl (.tmp 81) (.tmp 83) 22 rfl (w.heap.size + 2) 3 i0 (.int .i64 0) 1 8 Tryd.underlying22 HIN.out.1 HIN.out.2.1 HIN.out.2.2.1 HIN.out.2.2.2 rfl (by decide) (.slice A' top c') pv.length (pvC pv) rfl HE7.out.own ⟨wr.heap.size, 0, none⟩ 1 1 [.int .i64 (c : Int)] rfl rfl (one_new6 _ _ _) (ones_one rfl) (by unfold maxLen; have := HTL.out; omega) (by have := HTL.out; omega) (by have := HE7.out.p4.lt; omega) ?_; intro v6 w6 ho hg hn hat; have HE8 := hideIt (HE7.out.snoc hg ho hat); clear ho hg hn hat)
                go_roundg (g1 - 1)
                case measure => omega
                case rel => exact ⟨c + 1, D3, _, by omega, rfl, by go_num, by rw [HNX2.out]; exact HE8.out⟩
        · obtain rfl : i = R := by omega
          have hq := int_eqlT 3 (a := (i : Int)) (b := (i : Int)) rfl
          have hpr : prow M i c pv.length = i := prow_none (by rw [← HTOP.out]; exact htR) (fun k h1 h2 => HZ.out k (by rw [HTOP.out]; exact h1) h2)
          have HNX2 : Hid (red m i A (c + 1) = (M, pv)) := by
            refine hideIt (HNX.out.trans ?_)
            unfold stp
            rw [if_neg (by simp only; rw [hpr]; omega)]
          clear hpr HZ
          go_wp2_with fail
          go_roundg (g1 - 1)
          case measure => omega
          case rel => exact ⟨c + 1, DD, _, by omega, rfl, by go_num, by rw [HNX2.out]; exact HE.out⟩
    · have hci : ¬ (c : Int) < (cols : Int) := by omega
      obtain rfl : c = cols := by omega
      have HE := hideIt HE0.out
      clear HE0
      go_wp2_with fail
      try rw [Exit.noGoto_ret]
      go_ret
      exact ⟨_, DD, rfl, own_low HE.out.own (by omega), HE.out.em, HE.out.sel⟩

end Go.Proofs.YtodmcojcmihooaaDoor
