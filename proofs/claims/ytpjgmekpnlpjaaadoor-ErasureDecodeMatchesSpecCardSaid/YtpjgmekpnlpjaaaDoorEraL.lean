/-
  The program's reduced, walked.
-/
import Derived.Test.YtpjgmekpnlpjaaaDoorEraK
import Derived.BigRegion
import Derived.StillTailTactics
import Derived.Laws.CopyOwn
namespace Go.Proofs.YtpjgmekpnlpjaaaDoor
open Go.RowKit
set_option linter.unusedVariables false
set_option linter.unusedSimpArgs false

/-- copy of n numbers to the front of zeros. -/
theorem wpList_cp2 {w : World} {ops : Array Oper} {rest : List Oper} {o : Oper} {a : Act} {Q : Exit → Act → World → Prop} (hgd : o.guard = none) (d s : Operand) (ho : o.op = .call { callee := .builtin .copy, args := #[d, s], argTypes := #[29, 29] })
    {g n k dCap sCap : Nat} {S : Option Addr} {B : Nat} {f : Nat → Nat} (hd : a.eval d = .slice (some ⟨g, 0, none⟩) (n + k) dCap) (hs : a.eval s = .slice S n sCap) (hn : 0 < n) (hg : Blk w g 3 ((nl (n + k) fun _ => 0).map iv)) (hS : Sl w B S 1 n ((nl n f).map iv))
    (h : ∀ w', Hid (Blk w' g 3 ((nl (n + k) (pad n f)).map iv)) → Hid (Turned g w w') → wpList Tryd.prog ops Q rest (a.put o.dst (goInt n)) w') : wpList Tryd.prog ops Q (o :: rest) a w := by
  obtain ⟨b, so, rfl, hb, hc⟩ := hS.2 (by rw [List.length_map, nl_len]; exact hn)
  have hl : ((nl n f).map iv).length = n := by rw [List.length_map, nl_len]
  have e : (((nl (n + k) fun _ => 0).map iv).toArray.toList.take 0 ++ ((nl n f).map iv ++ ((nl (n + k) fun _ => 0).map iv).toArray.toList.drop (0 + ((nl n f).map iv).length))) = (nl (n + k) (pad n f)).map iv := by
    rw [hl]
    refine List.ext_getElem? fun j => ?_
    simp only [List.take_zero, List.nil_append, Nat.zero_add]
    by_cases hj : j < n
    · rw [List.getElem?_append_left (by rw [hl]; exact hj), iv_at hj, iv_at (by omega)]
      unfold pad; rw [if_pos hj]
    · rw [List.getElem?_append_right (by rw [hl]; omega), hl, List.getElem?_drop]
      by_cases hk : j < n + k
      · rw [show n + (j - n) = j by omega, iv_at hk, iv_at hk]
        unfold pad; rw [if_neg hj]
      · rw [List.getElem?_eq_none (by simp [nl_len]; omega), List.getElem?_eq_none (by simp [nl_len]; omega)]
  refine wpList_copy_own hgd d s 29 29 ho 3 Tryd.underlying29 (by kernel_rfl) g 0 (n + k) dCap ⟨b, so, none⟩ n sCap hd hs ((nl (n + k) fun _ => 0).map iv).toArray 3 hg ((nl n f).map iv) (by rw [hl]; exact (Nat.min_eq_left (by omega)).symm) (fun j v hj => by rw [addr_add]; exact hc j v hj) (by rw [hl]; simp [nl_len]) (iv_one _) ?_
  rw [e, hl]
  exact h _ (Blk.row hg _) (Turned.row w g _)

theorem gen_row {x : Cd} {m n : Nat} (h : VC x m n) {u : Nat} (hu : u < n + x.par.length) : (((genK x x.par.length).map iv).drop (u * n)).take n = (nl n (gC x u)).map iv := by
  unfold genK
  rw [h.dn]
  have hle : u * n + n ≤ (n + x.par.length) * n := by
    have : (u + 1) * n ≤ (n + x.par.length) * n := Nat.mul_le_mul_right _ hu
    rw [Nat.add_mul, Nat.one_mul] at this; exact this
  refine List.ext_getElem? fun j => ?_
  by_cases hj : j < n
  · rw [List.getElem?_take, if_pos hj, List.getElem?_drop, iv_at (by omega), iv_at hj, ix_div hj, ix_mod hj]
  · rw [List.getElem?_eq_none (by simp; omega), List.getElem?_eq_none (by simp [nl_len]; omega)]

set_option maxHeartbeats 4000000 in
set_option maxRecDepth 100000 in
theorem reduced_any {x : Cd} {m n : Nat} (hvc : VC x m n) {B pv : List Nat} {Q : Mx} (hR : Rdc m n (gC x) B pv Q) (hBn : B.length ≤ n) (u : Nat) (hu : u < n + x.par.length) (pb : Nat) {gA uA rA pA : Option Addr} {gc uc rc pc : Nat} (hgc : (n + x.par.length) * n ≤ gc) (w : World) (hT : Tabs w)
    (hb : Blk w pb 74 (baC (m : Int) ((n + x.par.length : Nat) : Int) (n : Int) (.slice gA ((n + x.par.length) * n) gc) (.slice uA B.length uc) (.slice rA B.length rc) (.slice pA pv.length pc))) (hM : BaM w x m n B pv Q gA uA rA pA) :
    Calls Tryd.prog 70 #[.pointer (some ⟨pb, 0, none⟩), .int .i64 (u : Int)] w fun e w' => ∃ g, e = .returned (.slice (some ⟨g, 0, none⟩) (n + n) (n + n)) ∧ w.heap.size ≤ g ∧ Blk w' g 3 ((nl (n + n) (rd m Q pv (pad n (gC x u)) B.length)).map iv) ∧ Below w.heap.size w w' := by
  have c0 : w.cell? ⟨pb, 0, none⟩ = some (.int .i64 (m : Int)) := hb.cell 0
  have c2 : w.cell? ⟨pb, 2, none⟩ = some (.int .i64 (n : Int)) := hb.cell 2
  have HB := hideIt hb
  have HM := hideIt hM
  have HT := hideIt hT
  have HVC := hideIt hvc
  have HR := hideIt hR
  have hpos := hvc.pos
  have hwid := hvc.wid
  have hmul2 : binOp .mul 3 (.int .i64 2) (.int .i64 (n : Int)) = pure (.int .i64 ((n + n : Nat) : Int)) := by
    have := nmul 3 2 n (by omega)
    rw [show 2 * n = n + n by omega] at this
    exact this
  have hpl := hb.lt
  clear hb hM hT hvc hR
  go_enter Tryd.func70, Tryd.ntmps70
  go_wp2_with fail
  go_region
  obtain ⟨W1, hW1⟩ : ∃ W, W = (w.alloc (.cells #[.int .i64 (m : Int)] 3)).drew := ⟨_, rfl⟩
  have HB1 := hideIt (show Below w.heap.size w W1 by rw [hW1]; exact (below_new w _).drew)
  have HPM1 := hideIt (show Blk W1 w.heap.size 3 [.int .i64 (m : Int)] by rw [hW1]; exact Blk.new w 3 [.int .i64 (m : Int)])
  have HZ1 := hideIt (show W1.heap.size = w.heap.size + 1 by rw [hW1]; show (w.alloc _).heap.size = _; simp)
  rw [← hW1]
  clear hW1 c0 c2
  go_wp2_with (first
    | ((with_reducible refine at_make ?_); refine wpList_zeros _ rfl (.tmp 23) (.tmp 23) rfl (n + n) rfl rfl (by omega) ?_; intro w2 HB2 HW2))
  obtain ⟨g, hg⟩ : ∃ g, g = W1.heap.size := ⟨_, rfl⟩
  obtain ⟨pr, hpr⟩ : ∃ p, p = w2.heap.size := ⟨_, rfl⟩
  obtain ⟨W3, hW3⟩ : ∃ W, W = w2.alloc (.cells #[.slice (some ⟨g, 0, none⟩) (n + n) (n + n)] 29) := ⟨_, rfl⟩
  have HB3 := hideIt (show Below w.heap.size w W3 by rw [hW3]; exact la7 (HB1.out.trans (HW2.out.mono HB1.out.size)))
  have HPM3 := hideIt (show Blk W3 w.heap.size 3 [.int .i64 (m : Int)] by rw [hW3]; exact (HPM1.out.kept HW2.out HPM1.out.lt).alloc _)
  have HG3 := hideIt (show Blk W3 g 3 ((nl (n + n) fun _ => 0).map iv) by rw [hW3, hg]; exact HB2.out.alloc _)
  have HPR3 := hideIt (show Blk W3 pr 29 [.slice (some ⟨g, 0, none⟩) (n + n) (n + n)] by rw [hW3, hpr]; exact Blk.new w2 29 [.slice (some ⟨g, 0, none⟩) (n + n) (n + n)])
  have HPG := hideIt (show w.heap.size ≠ g by rw [hg, HZ1.out]; omega)
  have HRG := hideIt (show pr ≠ g by have := HB2.out.lt; omega)
  have HGL := hideIt (show w.heap.size ≤ g by rw [hg]; exact HB1.out.size)
  rw [← hg, ← hpr, ← hW3]
  clear hg hpr hW3 HB1 HPM1 HZ1 HB2 HW2
  have c0 := HPR3.out.cell 0
  change W3.cell? ⟨pr, 0, none⟩ = some (.slice (some ⟨g, 0, none⟩) (n + n) (n + n)) at c0
  have c3 : W3.cell? ⟨pb, 3, none⟩ = some (.slice gA ((n + x.par.length) * n) gc) := (HB.out.kept HB3.out HB.out.lt).cell 3
  have hle : (u + 1) * n ≤ (n + x.par.length) * n := Nat.mul_le_mul_right _ hu
  have hle2 : (n + x.par.length) * n ≤ 32 * 32 := Nat.mul_le_mul (by omega) (by omega)
  have hun : (u + 1) * n = u * n + n := by rw [Nat.add_mul, Nat.one_mul]
  have hm1 := nmul 3 u n (by omega)
  have hm2 : binOp .mul 3 (.int .i64 ((u : Int) + 1)) (.int .i64 (n : Int)) = pure (.int .i64 (((u + 1) * n : Nat) : Int)) := nmul 3 (u + 1) n (by omega)
  have hi1 := inc_c 3 u (by omega)
  have hcut := fun W => cut_is gA (n := (n + x.par.length) * n) (c := gc) (p := u * n) (q := (u + 1) * n) (by omega) hle hgc W
  rw [show (u + 1) * n - u * n = n by omega] at hcut
  have HS := hideIt (show Sl w w.heap.size (rowA gA gc (u * n)) 1 n ((nl n (gC x u)).map iv) by
    have := sl_row HM.out.gen (p := u * n) (q := (u + 1) * n) (by omega) hle hgc
    rw [show (u + 1) * n - u * n = n by omega, gen_row HVC.out hu] at this
    exact this)
  generalize (n + x.par.length) * n = gn at *
  generalize u * n = un at *
  generalize hun1 : (u + 1) * n = un1 at *
  generalize hga : rowA gA gc un = rA0 at *
  clear hga hun1 hun hle hle2
  refine still_tail 14 (by kernel_rfl) (by kernel_rfl) ?_
  intro w4 hw4
  have d0 : w4.cell? ⟨pr, 0, none⟩ = some (.slice (some ⟨g, 0, none⟩) (n + n) (n + n)) := by rw [hw4]; exact c0
  have d3 : w4.cell? ⟨pb, 3, none⟩ = some (.slice gA gn gc) := by rw [hw4]; exact c3
  have H4 := hideIt (show Below w.heap.size w w4 ∧ Blk w4 w.heap.size 3 [.int .i64 (m : Int)] ∧ Blk w4 g 3 ((nl (n + n) fun _ => 0).map iv) ∧ Blk w4 pr 29 [.slice (some ⟨g, 0, none⟩) (n + n) (n + n)] by rw [hw4]; exact ⟨HB3.out.drew, HPM3.out, HG3.out, HPR3.out⟩)
  clear c0 c3 HB3 HPM3 HG3 HPR3 hw4
  simp only [List.take_succ_cons, List.take_zero, List.drop_succ_cons, List.drop_zero]
  repeat still_step
  refine wpStill_nil ?_
  have HTQ := hideIt (show Tabs w4 from HT.out.keep H4.out.1)
  go_wp2_with (first
    | ((with_reducible refine at_copy ?_); refine wpList_cp2 rfl (.tmp 25) (.tmp 38) rfl (n := n) (k := n) rfl rfl hpos H4.out.2.2.1 (HS.out.below H4.out.1) ?_; intro w5 HG5 HT5; have H5 := hideIt (show Below w.heap.size w w5 ∧ Blk w5 w.heap.size 3 [.int .i64 (m : Int)] ∧ Blk w5 pr 29 [.slice (some ⟨g, 0, none⟩) (n + n) (n + n)] from ⟨HT5.out.below H4.out.1 HGL.out, HT5.out.blk H4.out.2.1 HPG.out, HT5.out.blk H4.out.2.2.2 HRG.out⟩); have c6 : w5.cell? ⟨pb, 6, none⟩ = some (.slice pA pv.length pc) := (HB.out.kept H5.out.1 HB.out.lt).cell 6))
  have HGW := hideIt (show w.heap.size ≤ g ∧ pb < w.heap.size from ⟨HGL.out, hpl⟩)
  clear d0 d3 hcut hm1 hm2 hi1 H4 HS HTQ hmul2 c6
  go_loopg [46] pv.length (fun gk s46 wr => ∃ i : Nat, i + gk = pv.length ∧ s46 = .int .i64 (i : Int) ∧ Aside (Turned g w5 wr) ∧ Aside (Blk wr g 3 ((nl (n + n) (rd m Q pv (pad n (gC x u)) i)).map iv)))
  case atStart => exact ⟨0, by omega, rfl, Turned.refl _ _, HG5.out⟩
  case round =>
    obtain ⟨i, hi, rfl, HTU, HG⟩ := hrel
    obtain ⟨w6, rfl⟩ : ∃ x, x = wr := ⟨wr, rfl⟩
    have HLW := hideIt (HTU.out.below H5.out.1 HGW.out.1)
    have HPB := hideIt (HB.out.kept HLW.out HB.out.lt)
    have HPM := hideIt (HTU.out.blk H5.out.2.1 HPG.out)
    have HPR := hideIt (HTU.out.blk H5.out.2.2 HRG.out)
    have cr : w6.cell? ⟨pr, 0, none⟩ = some (.slice (some ⟨g, 0, none⟩) (n + n) (n + n)) := HPR.out.cell 0
    by_cases hlt : i < pv.length
    · have hiB : i < B.length := by rw [← HR.out.len]; exact hlt
      obtain ⟨b, o, v, hA, hb, hv, hc⟩ := (HM.out.piv.below HLW.out).at_ hlt
      rw [iv_at hlt] at hv
      injection hv with hv
      subst hv hA
      have hpl2 := HR.out.pl i hiB
      generalize hcc : pv.getD i 0 = c at *
      have hcg := HG.out.cell c
      rw [iv_at (by omega)] at hcg
      have HXV := hideIt (rd_v (Q := Q) (pv := pv) HVC.out.fm (pad_v (n := n) (gC_v HVC.out u)) i)
      have HNX := hideIt (show ∀ j, rd m Q pv (pad n (gC x u)) (i + 1) j = rd m Q pv (pad n (gC x u)) i j ^^^ mul m (rd m Q pv (pad n (gC x u)) i c) (Q i j) from fun j => by rw [← hcc]; rfl)
      have hinc := inc_c 3 i (by omega)
      have hji : (i : Int) < (pv.length : Int) := by omega
      have hcn : (c : Int) < ((n + n : Nat) : Int) := by omega
      generalize rd m Q pv (pad n (gC x u)) i = r0 at *
      by_cases hf0 : r0 c = 0
      · rw [hf0] at hcg
        have HF0 := hideIt hf0
        clear hcc hb hf0
        go_wp2_with fail
        go_roundg (gk - 1)
        case measure => omega
        case rel =>
          refine ⟨i + 1, by omega, by go_num, HTU.out, ?_⟩
          have e : nl (n + n) (rd m Q pv (pad n (gC x u)) (i + 1)) = nl (n + n) r0 := nl_congr fun j _ => by rw [HNX.out j, HF0.out, mul_zeroL, Nat.xor_zero]
          show Blk _ g _ ((nl (n + n) (rd m Q pv (pad n (gC x u)) (i + 1))).map iv)
          rw [e]; exact HG.out
      · have hnq : binOp .neq 3 (.int .i64 (r0 c : Int)) (.int .i64 0) = pure (.bool true) := neqT (a := r0 c) (b := 0) 3 hf0
        obtain ⟨rb, ro, A', c', hA, hrb, hcell, hsl⟩ := (HM.out.row.below HLW.out).row (j := i) (by rw [rowsL_len]; exact hiB)
        rw [rowsL_at] at hcell hsl
        rw [nl_len] at hcell hsl
        rw [show 2 * n = n + n by omega] at hcell hsl
        subst hA
        have c5 : w6.cell? ⟨pb, 5, none⟩ = some (.slice (some ⟨rb, ro, none⟩) B.length rc) := HPB.out.cell 5
        have hiB2 : (i : Int) < (B.length : Int) := by omega
        obtain ⟨b3, o3, hA3, hb3, _⟩ := hsl.2 (by rw [List.length_map, nl_len]; omega)
        have HAD := hideIt (radd_any m (r0 c) (n + n) HVC.out.fm (HXV.out c) (by omega) r0 (Q i) HXV.out (HR.out.v i) A' c' w.heap.size pr g w6 (HT.out.keep HLW.out) (hsl.wide HLW.out.size) (fun b4 o4 h4 => by rw [h4] at hA3; injection hA3 with hA3; injection hA3 with e1; have := HGW.out.1; omega) HPM.out HPR.out HG.out HPG.out HRG.out (by have := HT.out.lo; have := HGW.out.1; omega))
        generalize hfc : r0 c = fc at *
        clear hcc hb hf0 hsl hrb hb3 hA3
        go_wp2_with (first
          | (go_at_call 78; refine HAD.out.mono ?_; rintro e w7 ⟨rfl, hg7, ht7⟩; have HG7 := hideIt hg7; have HT7 := hideIt ht7; clear hg7 ht7 HAD))
        go_roundg (gk - 1)
        case measure => omega
        case rel =>
          refine ⟨i + 1, by omega, by go_num, HTU.out.trans HT7.out, ?_⟩
          have e : nl (n + n) (rd m Q pv (pad n (gC x u)) (i + 1)) = nl (n + n) (fun j => r0 j ^^^ mul m fc (Q i j)) := nl_congr fun j _ => HNX.out j
          show Blk _ g _ ((nl (n + n) (rd m Q pv (pad n (gC x u)) (i + 1))).map iv)
          rw [e]; exact HG7.out
    · have hji : ¬ (i : Int) < (pv.length : Int) := by omega
      have hie : i = B.length := by rw [← HR.out.len]; omega
      have HIE := hideIt hie
      clear hie
      go_wp2_with fail
      go_ret
      exact ⟨g, rfl, HGW.out.1, by rw [← HIE.out]; exact HG.out, HLW.out⟩
end Go.Proofs.YtpjgmekpnlpjaaaDoor
