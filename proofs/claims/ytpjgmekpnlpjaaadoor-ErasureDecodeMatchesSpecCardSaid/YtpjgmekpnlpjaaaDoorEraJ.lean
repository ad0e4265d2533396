/-
  The program's Generator, walked.
-/
import Derived.Test.YtpjgmekpnlpjaaaDoorEraI
namespace Go.Proofs.YtpjgmekpnlpjaaaDoor
open Go.RowKit
set_option linter.unusedVariables false
set_option linter.unusedSimpArgs false

theorem below_set {B g : Nat} {a w : World} (h : Below B a w) (hg : B ≤ g) (i : Nat) (u : Value) : Below B a (w.setCell ⟨g, i, none⟩ u) := h.setCell (p := ⟨g, i, none⟩) hg u

structure GI (x : Cd) (w1 : World) (p4 n m k : Nat) (wr : World) (v : Value) : Prop where
  low : Below w1.heap.size w1 wr
  box : Blk wr p4 31 (mtC (m : Int) ((n + k : Nat) : Int) (n : Int) v)
  own : wr.ownsRow w1.heap.size 3 1 v ((n + k) * n) ((genK x k).map iv)

theorem ident_vc {x : Cd} {m n : Nat} (h : VC x m n) (w : World) (hT : Tabs w) :
    Calls Tryd.prog 40 #[.int .i64 x.field, .int .i64 x.data] w fun e w' => ∃ A c, e = .returned (.tuple #[mtV (m : Int) (n : Int) (n : Int) (.slice A (n * n) c), .int .i64 0]) ∧ w'.ownsRow w.heap.size 3 1 (.slice A (n * n) c) (n * n) ((genK x 0).map iv) ∧ Below w.heap.size w w' := by
  have hidm : idM x.field x.data = (mkM m n n idm, 0) := by
    unfold idM
    rw [if_pos ⟨by rw [h.f]; exact vd_true (a := 0) h.fm (Nat.two_pow_pos m), by rw [h.d]; exact isz_nat (by have := h.wid; omega)⟩, h.fn, h.dn]
  have := ident_any x.field x.data w hT
  rw [hidm] at this
  refine this.mono ?_
  rintro e w' ⟨s, rfl, ho, hb⟩
  rw [mk_len] at ho
  obtain ⟨A, c, rfl, _, _⟩ := own_form ho
  exact ⟨A, c, rfl, by rw [genK_zero h]; exact ho, hb⟩

set_option maxHeartbeats 4000000 in
set_option maxRecDepth 100000 in
theorem generator_any (x : Cd) (A : Option Addr) (c : Nat) (w : World) (hT : Tabs w) (hx : CIn w x A) :
    Calls Tryd.prog 14 #[x.v A c] w (MRes w (genR x)) := by
  obtain ⟨W, hW⟩ : ∃ W, W = w.alloc (.cells (x.cs A c).toArray 24) := ⟨_, rfl⟩
  have hbw : Below w.heap.size w W := by rw [hW]; exact below_new w _
  have hWs : W.heap.size = w.heap.size + 1 := by rw [hW]; simp
  have HBC0 := show BC W w.heap.size x A c by rw [hW]; exact BC.new c hx
  obtain ⟨W2, hW2⟩ : ∃ W2, W2 = W.alloc (.cells (mtC 0 0 0 (.slice none 0 0)).toArray 31) := ⟨_, rfl⟩
  have hbw2 : Below w.heap.size w W2 := by rw [hW2]; exact la7 hbw
  have HB := hideIt hbw2
  have HBC := hideIt (show BC W2 w.heap.size x A c by rw [hW2]; exact HBC0.keep (below_new W _))
  have HPR := hideIt (show Blk W2 (w.heap.size + 1) 31 (mtC 0 0 0 (.slice none 0 0)) by rw [hW2, ← hWs]; exact Blk.new W 31 (mtC 0 0 0 (.slice none 0 0)))
  have HV := hideIt (evalid_any x A c W2 (hT.keep hbw2) HBC.out.cin)
  have hnot := not_b
  have HT := hideIt (hT.keep hbw2)
  have HPL := hideIt (show w.heap.size ≤ w.heap.size + 1 by omega)
  have HWE := hideIt (show W2 = (w.alloc (.cells (x.cs A c).toArray 24)).alloc (.cells (mtC 0 0 0 (.slice none 0 0)).toArray 31) by rw [hW2, hW])
  clear hbw hbw2 hT hx hW hW2 HBC0 hWs
  cases q1 : vC x with
  | true =>
    rw [q1] at HV
    obtain ⟨m, n, hvc⟩ := vC_spec q1
    have HR : Hid (genR x = (mkM m (n + x.par.length) n (gC x), 0)) := hideIt (by unfold genR genM; rw [if_pos q1, hvc.fn, hvc.dn])
    have HVC := hideIt hvc
    have HID := hideIt (fun W3 (h : Below W2.heap.size W2 W3) => ident_vc hvc W3 (HT.out.keep h))
    have hwid := hvc.wid
    have hpos := hvc.pos
    clear q1 hvc
    go_enter Tryd.func14, Tryd.ntmps14
    go_wp2_with (first
      | (go_at_call 19; rw [← HWE.out]; refine HV.out.mono ?_; rintro e w1 ⟨rfl, hb1⟩; have HB1 := hideIt hb1; have c1 := (HBC.out.keep hb1).c1; have c2 := (HBC.out.keep hb1).c2; clear hb1 HV)
      | (go_at_call 40; refine (HID.out _ HB1.out).mono ?_; rintro e w3 ⟨A3, c3', rfl, ho3, hb3⟩; have c3 := (HBC.out.keep ((HB1.out.trans (hb3.mono HB1.out.size)).alloc (Nat.le_trans HB1.out.size hb3.size) (.cells (mtC (m : Int) (n : Int) (n : Int) (.slice A3 (n * n) c3')).toArray 31))).c3; have HO3 := hideIt ho3; have HB3 := hideIt hb3; clear hb3 ho3 HID c1 c2))
    have HGI := hideIt (show GI x w1 w3.heap.size n m 0 _ _ from ⟨la7 HB3.out, Blk.new w3 31 (mtC (m : Int) (n : Int) (n : Int) (.slice A3 (n * n) c3')), World.ownsRow.alloc HO3.out _⟩)
    obtain ⟨p4, hp4⟩ : ∃ p, p = w3.heap.size := ⟨_, rfl⟩
    have HP4 := hideIt (show w1.heap.size ≤ p4 by rw [hp4]; exact HB3.out.size)
    rw [← hp4] at HGI ⊢
    clear c3 HO3 HB3 hp4
    go_loopg [23] x.par.length (fun g s23 wr => ∃ (k : Nat) (v : Value), k + g = x.par.length ∧ s23 = .int .i64 (k : Int) ∧ Aside (GI x w1 p4 n m k wr v))
    case atStart => exact ⟨0, _, by omega, rfl, HGI.out⟩
    case round =>
      obtain ⟨k, v, hk, rfl, HI⟩ := hrel
      obtain ⟨w4, rfl⟩ : ∃ x, x = wr := ⟨wr, rfl⟩
      obtain ⟨A5, c5, hv5, _, _⟩ := own_form HI.out.own
      subst hv5
      have HBC4 := hideIt (HBC.out.keep (HB1.out.trans (HI.out.low.mono HB1.out.size)))
      have HLW := hideIt HI.out.low
      have HBX := hideIt HI.out.box
      have HOW := hideIt HI.out.own
      clear HI
      by_cases hlt : k < x.par.length
      · obtain ⟨b, o, A', c', hA, hb, hcell, hsl⟩ := HBC4.out.cin.pm.row hlt
        have hll := (HVC.out.row _ (List.getElem_mem hlt)).1
        have HTK := hideIt (genK_next HVC.out hlt)
        subst hA
        have hinc := inc_c 3 k (by omega)
        have hinc2 := inc_c 3 (n + k) (by omega)
        have hji : (k : Int) < (x.par.length : Int) := by omega
        generalize x.par[k] = l at *
        obtain ⟨b2, o2, hA2, hb2, hc2⟩ := hsl.2 (by rw [List.length_map]; omega)
        subst hA2
        have HC2 := hideIt hc2
        have HLL := hideIt hll
        have c3 := HBX.out.cell 3
        have hnb : (n + k) * n + n ≤ 32 * 32 + 32 := by have : (n + k) * n ≤ 32 * 32 := Nat.mul_le_mul (by omega) (by omega); omega
        clear hsl hb hb2 hc2 hll
        change w4.cell? ⟨p4, 3, none⟩ = some (.slice A5 ((n + k) * n) c5) at c3
        go_wp2_with (first
          | ((with_reducible refine at_append ?_); refine wpList_apG (z := .int .i64 0) (size := 1) (bytes := 8) (n := (n + k) * n) (m := l.length) (news := l.map iv) Tryd.underlying29 (by kernel_rfl) rfl (by decide) (by decide) rfl (.tmp 28) (.tmp 29) rfl rfl HOW.out rfl (by rw [List.length_map, Nat.mul_one]) (fun j u h => by rw [addr_add]; exact HC2.out j u h) (iv_one l) (by have := HLL.out; omega) HLW.out.size ?_; intro v7 w7 HO7 HG7 HA7 HB7; have HBX7 := hideIt (HBX.out.grown HG7.out (own_ne HOW.out HBX.out (by decide))); have d3 := HBX7.out.cell 3; have d1 := HBX7.out.cell 1; have f3 := HBX7.out.free 3; have f1 := HBX7.out.free 1; obtain ⟨A7, c7, rfl, _, _⟩ := own_form HO7.out; change w7.cell? ⟨p4, 3, none⟩ = some (.slice A5 ((n + k) * n) c5) at d3; change w7.cell? ⟨p4, 1, none⟩ = some (.int .i64 ((n + k : Nat) : Int)) at d1))
        go_roundg (gk - 1)
        case measure => omega
        case rel =>
          refine ⟨k + 1, .slice A7 ((n + k) * n + l.length) c7, by omega, by go_num, ?_, ?_, ?_⟩
          · exact below_set (below_set (HLW.out.trans HB7.out) HP4.out _ _) HP4.out _ _
          · have := (HBX7.out.store 3 (.slice A7 ((n + k) * n + l.length) c7)).store 1 (.int .i64 ((n + k + 1 : Nat) : Int))
            exact this
          · refine own_set (own_set ?_ HBX7.out (by decide) _ _) (HBX7.out.store 3 _) (by decide) _ _
            have := HO7.out
            rw [HLL.out] at this ⊢
            rw [HTK.out, List.map_append, ← Nat.add_assoc n k 1, Nat.add_mul (n + k) 1 n, Nat.one_mul]
            exact this
      · have hji : ¬ (k : Int) < (x.par.length : Int) := by omega
        have hke : k = x.par.length := by omega
        have HKE := hideIt hke
        have HPR4 := hideIt (HPR.out.kept (HB1.out.trans (HLW.out.mono HB1.out.size)) HPR.out.lt)
        clear hke
        go_wp2_with (first
          | ((with_reducible refine at_load ?_); refine wpList_ldM rfl (.tmp 4) rfl p4 _ _ _ _ rfl HBX.out ?_)
          | ((with_reducible refine at_store ?_); refine wpList_stM rfl (.tmp 2) (.tmp 37) rfl (w.heap.size + 1) _ _ _ _ _ _ _ _ rfl rfl rfl HPR4.out ?_; intro w8 HT8 HB8))
        refine bodyPost_ret (results_two rfl _ _ (w.heap.size + 1) _ _ _ rfl HB8.out Tryd.underlying31 rfl isz4) rfl ?_
        rw [HR.out, ← HKE.out]
        refine ⟨.slice A5 ((n + k) * n) c5, rfl, ?_, HT8.out.below (HB.out.trans ((HB1.out.trans (HLW.out.mono HB1.out.size)).mono HB.out.size)) HPL.out⟩
        show w8.ownsRow _ _ _ _ (mkM m (n + k) n (gC x)).l.length ((mkM m (n + k) n (gC x)).l.map iv)
        rw [mk_len]
        have h9 := own_base (own_turned HOW.out HPR4.out (by decide) HT8.out) (Nat.le_trans HB.out.size HB1.out.size)
        unfold genK at h9
        rw [HVC.out.dn] at h9
        exact h9
  | false =>
    rw [q1] at HV
    have HR : Hid (genR x = (zeroM, 1)) := hideIt (by unfold genR; rw [if_neg (by rw [q1]; decide)])
    clear q1
    go_enter Tryd.func14, Tryd.ntmps14
    go_wp2_with (first
      | (go_at_call 19; rw [← HWE.out]; refine HV.out.mono ?_; rintro e w1 ⟨rfl, hb1⟩; have HB1 := hideIt hb1; have HPR1 := hideIt (HPR.out.kept hb1 HPR.out.lt); clear hb1 HV)
      | ((with_reducible refine at_store ?_); refine wpList_stM rfl (.tmp 2) (.tmp 11) rfl (w.heap.size + 1) 0 0 0 0 0 0 (.slice none 0 0) (.slice none 0 0) rfl rfl rfl HPR1.out ?_; intro w8 HT8 HB8))
    refine bodyPost_ret (results_two rfl _ _ (w.heap.size + 1) _ _ _ rfl HB8.out Tryd.underlying31 rfl isz4) rfl ?_
    rw [HR.out]
    exact MRes.bad (HT8.out.below (HB.out.trans (HB1.out.mono HB.out.size)) HPL.out) 1
end Go.Proofs.YtpjgmekpnlpjaaaDoor
