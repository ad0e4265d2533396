/-
  basisOf, walked.
-/
import Derived.Test.YtpjgmekpnlpjaaaDoorEraP
namespace Go.Proofs.YtpjgmekpnlpjaaaDoor
open Go.RowKit
set_option linter.unusedVariables false
set_option linter.unusedSimpArgs false

abbrev hvF (hs : List Bool) : Nat → Bool := fun k => hs.getD k false
/-- The basis of a code and a selection of present units. -/
noncomputable def basL (x : Cd) (hs : List Bool) : List Nat := bas x.field.toNat x.data.toNat (gC x) (hvF hs) hs.length
def okB (x : Cd) (hs : List Bool) : Bool := vC x && decide ((hs.length : Int) = x.data + x.par.length)
theorem per_ok (x : Cd) (hs : List Bool) : perB x hs.length = okB x hs := by
  unfold perB okB wC
  by_cases h : vC x = true
  · have hb := vC_bounds h
    rw [if_pos h, h, Bool.true_and]
    exact decide_eq_decide.2 (by omega)
  · rw [if_neg h, Bool.eq_false_iff.2 h, Bool.false_and]
    exact decide_eq_false (by omega)
structure BasOk (w : World) (x : Cd) (m n : Nat) (hs : List Bool) (e : Ending) (w' : World) : Prop where
  ex : ∃ gA gc uA uc rA rc pA pc pv Q, e = .returned (.tuple #[baV (m : Int) ((n + x.par.length : Nat) : Int) (n : Int) (.slice gA ((n + x.par.length) * n) gc) (.slice uA (basL x hs).length uc) (.slice rA (basL x hs).length rc) (.slice pA (pv.length) pc), .int .i64 0]) ∧ Rdc m n (gC x) (basL x hs) pv Q ∧ BaM w' x m n (basL x hs) pv Q gA uA rA pA ∧ (n + x.par.length) * n ≤ gc ∧ w'.ownsRow w.heap.size 3 1 (.slice uA (basL x hs).length uc) (basL x hs).length (pvC (basL x hs))
  low : Below w.heap.size w w'
abbrev zeroB : Value := baV 0 0 0 (.slice none 0 0) (.slice none 0 0) (.slice none 0 0) (.slice none 0 0)
theorem isz7 : (Tryd.prog.info? 74).map (·.size) = some 7 := by kernel_rfl
theorem ba_one (F R C : Int) {g u r p : Value} (h1 : g.oneCell' = true) (h2 : u.oneCell' = true) (h3 : r.oneCell' = true) (h4 : p.oneCell' = true) : ∀ v ∈ baC F R C g u r p, v.oneCell' = true := by
  intro v hv
  simp only [List.mem_cons, List.not_mem_nil, or_false] at hv
  rcases hv with rfl | rfl | rfl | rfl | rfl | rfl | rfl
  · rfl
  · rfl
  · rfl
  · exact h1
  · exact h2
  · exact h3
  · exact h4
theorem wpList_ldB {ops : Array Oper} {rest : List Oper} {o : Oper} {a : Act} {w : World} {Q : Exit → Act → World → Prop} (hw : Region.wanted o (yielded ops a.tmps) = true) (x : Operand) (ho : o.op = .load 74 x) {p : Nat} {F R C : Int} {g u r v : Value} (hx : a.eval x = .pointer (some ⟨p, 0, none⟩))
    (hp : Blk w p 74 (baC F R C g u r v)) (h : wpList Tryd.prog ops Q rest (a.put o.dst (baV F R C g u r v)) w) : wpList Tryd.prog ops Q (o :: rest) a w :=
  wpList_get_g hw _ x ho p (baC F R C g u r v) _ _ hx hp Tryd.underlying74 rfl isz7 h
theorem wpList_stB {ops : Array Oper} {rest : List Oper} {o : Oper} {a : Act} {w : World} {Q : Exit → Act → World → Prop} (hgd : o.guard = none) (x y : Operand) (ho : o.op = .store 74 x y) {p : Nat} {F R C : Int} {g u r v : Value} {old : List Value} (h1 : g.oneCell' = true) (h2 : u.oneCell' = true) (h3 : r.oneCell' = true) (h4 : v.oneCell' = true) (hx : a.eval x = .pointer (some ⟨p, 0, none⟩)) (hy : a.eval y = baV F R C g u r v)
    (hp : Blk w p 74 old) (hl : old.length = 7) (h : ∀ w', Hid (Turned p w w') → Hid (Blk w' p 74 (baC F R C g u r v)) → wpList Tryd.prog ops Q rest (a.put o.dst undef) w') : wpList Tryd.prog ops Q (o :: rest) a w :=
  wpList_put hgd _ x y ho p (baC F R C g u r v) old 74 hx hy hp isz7 hl (ba_one F R C h1 h2 h3 h4) (fun w' h1 h2 => h w' h1 h2)

def BasPost (w : World) (x : Cd) (hs : List Bool) (e : Ending) (w' : World) : Bool → Prop
  | true => BasOk w x x.field.toNat x.data.toNat hs e w'
  | false => e = .returned (.tuple #[zeroB, .int .i64 1]) ∧ Below w.heap.size w w'
/-- The state between two units. -/
structure BI (x : Cd) (m n : Nat) (hs : List Bool) (pb k : Nat) (gA : Option Addr) (gc : Nat) (W4 wr : World) : Prop where
  ex : ∃ pv Q vU vR vP gs, Rdc m n (gC x) (bas m n (gC x) (hvF hs) k) pv Q ∧ BaO wr pb x n (bas m n (gC x) (hvF hs) k) pv Q gA vU vR vP gs ∧ Blk wr pb 74 (baC (m : Int) ((n + x.par.length : Nat) : Int) (n : Int) (.slice gA ((n + x.par.length) * n) gc) vU vR vP)
  low : Below pb W4 wr

theorem Sl.both {w w' : World} {B B' size n : Nat} {A : Option Addr} {xs : List Value} (h : Sl w B A size n xs) (k : Sl w' B' A size n xs) : Sl w' B A size n xs := by
  refine ⟨h.1, fun h0 => ?_⟩
  obtain ⟨b, o, hA, hb, _⟩ := h.2 h0
  obtain ⟨b', o', hA', _, hc⟩ := k.2 h0
  rw [hA] at hA'
  injection hA' with hA'
  injection hA' with e1 e2
  subst e1 e2
  exact ⟨b, o, hA, hb, hc⟩
theorem basOk_of {w w5 w9 : World} {x : Cd} {m n : Nat} {hs : List Bool} {pb b1 : Nat} {A3 uA rA pA : Option Addr} {c3 uc rc pc : Nat} {pv : List Nat} {Q : Mx} {gs : Nat → Nat} {old : List Value} (hR : Rdc m n (gC x) (basL x hs) pv Q)
    (hO : BaO w5 pb x n (basL x hs) pv Q A3 (.slice uA (basL x hs).length uc) (.slice rA (basL x hs).length rc) (.slice pA pv.length pc) gs) (hgen : w5.ownsRow b1 3 1 (.slice A3 ((n + x.par.length) * n) c3) ((n + x.par.length) * n) ((genK x x.par.length).map iv)) (hc3 : (n + x.par.length) * n ≤ c3)
    (hlow : Below w.heap.size w w5) (hpb : w.heap.size + 1 < pb) (hsz : pb ≤ w5.heap.size) (hbox : Blk w5 (w.heap.size + 1) 74 old) (ht : Turned (w.heap.size + 1) w5 w9) :
    BasOk w x m n hs (.returned (.tuple #[baV (m : Int) ((n + x.par.length : Nat) : Int) (n : Int) (.slice A3 ((n + x.par.length) * n) c3) (.slice uA (basL x hs).length uc) (.slice rA (basL x hs).length rc) (.slice pA pv.length pc), .int .i64 0])) w9 := by
  have hO9 : BaO w9 pb x n (basL x hs) pv Q A3 (.slice uA (basL x hs).length uc) (.slice rA (basL x hs).length rc) (.slice pA pv.length pc) gs :=
    ⟨Sl.both hO.gen (Sl.of_own (own_turned hgen hbox (by decide) ht)), own_turned hO.uni hbox (by decide) ht, own_turned hO.row hbox (by decide) ht, own_turned hO.piv hbox (by decide) ht, hO.ap, fun i hi => ⟨ht.blk (hO.dat i hi).1 (by have := (hO.dat i hi).2.1; omega), (hO.dat i hi).2⟩⟩
  obtain ⟨uA', uc', rA', rc', pA', pc', e1, e2, e3, hM⟩ := hO9.toM (m := m) (by rw [ht.size]; exact hsz) hR.len
  injection e1 with a1 _ a2
  injection e2 with a3 _ a4
  injection e3 with a5 _ a6
  subst a1 a2 a3 a4 a5 a6
  exact ⟨⟨A3, c3, uA, uc, rA, rc, pA, pc, pv, Q, rfl, hR, hM, hc3, own_base hO9.uni (by omega)⟩, ht.below hlow (by omega)⟩
theorem gen_vc {x : Cd} {m n : Nat} (h : VC x m n) (A : Option Addr) (c : Nat) (w : World) (hT : Tabs w) (hx : CIn w x A) (hg : genR x = (mkM m (n + x.par.length) n (gC x), 0)) :
    Calls Tryd.prog 14 #[x.v A c] w fun e w' => ∃ A3 c3, e = .returned (.tuple #[mtV (m : Int) ((n + x.par.length : Nat) : Int) (n : Int) (.slice A3 ((n + x.par.length) * n) c3), .int .i64 0]) ∧ w'.ownsRow w.heap.size 3 1 (.slice A3 ((n + x.par.length) * n) c3) ((n + x.par.length) * n) ((genK x x.par.length).map iv) ∧ (n + x.par.length) * n ≤ c3 ∧ Below w.heap.size w w' := by
  have := generator_any x A c w hT hx
  rw [hg] at this
  refine this.mono ?_
  rintro e w' ⟨s, rfl, ho, hb⟩
  have ho2 : w'.ownsRow w.heap.size 3 1 s ((n + x.par.length) * n) ((genK x x.par.length).map iv) := by
    have e1 : (mkM m (n + x.par.length) n (gC x)).l = genK x x.par.length := by unfold genK mkM; rw [h.dn]
    rw [e1, genK_len, h.dn] at ho
    exact ho
  obtain ⟨A3, c3, rfl, hn, _⟩ := own_form ho2
  exact ⟨A3, c3, rfl, ho2, hn, hb⟩

set_option maxHeartbeats 1600000 in
set_option maxRecDepth 100000 in
theorem basisOf_any (x : Cd) (A : Option Addr) (c : Nat) (w : World) (hT : Tabs w) (hx : CIn w x A) (hs : List Bool) (D : Option Addr) (cd : Nat) (hl : hs.length ≤ 100000) (hD : Sl w w.heap.size D 1 hs.length (hs.map bl)) :
    Calls Tryd.prog 48 #[x.v A c, .slice D hs.length cd] w fun e w' => BasPost w x hs e w' (okB x hs) := by
  obtain ⟨W, hW⟩ : ∃ W, W = w.alloc (.cells (x.cs A c).toArray 24) := ⟨_, rfl⟩
  have hbw : Below w.heap.size w W := by rw [hW]; exact below_new w _
  have hWs : W.heap.size = w.heap.size + 1 := by rw [hW]; simp
  have HBC0 := show BC W w.heap.size x A c by rw [hW]; exact BC.new c hx
  obtain ⟨W2, hW2⟩ : ∃ W2, W2 = W.alloc (.cells (baC 0 0 0 (.slice none 0 0) (.slice none 0 0) (.slice none 0 0) (.slice none 0 0)).toArray 74) := ⟨_, rfl⟩
  have hbw2 : Below w.heap.size w W2 := by rw [hW2]; exact la7 hbw
  have HB := hideIt hbw2
  have HBC := hideIt (show BC W2 w.heap.size x A c by rw [hW2]; exact HBC0.keep (below_new W _))
  have HPR := hideIt (show Blk W2 (w.heap.size + 1) 74 (baC 0 0 0 (.slice none 0 0) (.slice none 0 0) (.slice none 0 0) (.slice none 0 0)) by rw [hW2, ← hWs]; exact Blk.new W 74 (baC 0 0 0 (.slice none 0 0) (.slice none 0 0) (.slice none 0 0) (.slice none 0 0)))
  have HV := hideIt (perb_any x A c W2 (hT.keep hbw2) HBC.out.cin D hs.length cd)
  rw [per_ok] at HV
  have hnot := not_b
  have HT := hideIt (hT.keep hbw2)
  have HSD := hideIt ((hD.below hbw2).wide hbw2.size)
  have HWE := hideIt (show W2 = (w.alloc (.cells (x.cs A c).toArray 24)).alloc (.cells (baC 0 0 0 (.slice none 0 0) (.slice none 0 0) (.slice none 0 0) (.slice none 0 0)).toArray 74) by rw [hW2, hW])
  have HPL := hideIt (show w.heap.size ≤ w.heap.size + 1 by omega)
  clear hbw hbw2 hT hx hW hW2 HBC0 hWs hD
  cases q1 : okB x hs with
  | true =>
    rw [q1] at HV
    obtain ⟨m, n, hvc, hlen⟩ : ∃ m n, VC x m n ∧ hs.length = n + x.par.length := by
      unfold okB at q1
      rw [Bool.and_eq_true] at q1
      obtain ⟨m, n, h⟩ := vC_spec q1.1
      have := of_decide_eq_true q1.2
      exact ⟨m, n, h, by have := h.d; omega⟩
    show Calls _ _ _ _ fun e w' => BasOk w x x.field.toNat x.data.toNat hs e w'
    rw [hvc.fn, hvc.dn]
    have HVC := hideIt hvc
    have HLEN := hideIt hlen
    have hgr : genR x = (mkM m (n + x.par.length) n (gC x), 0) := by
      have hv : vC x = true := by unfold okB at q1; rw [Bool.and_eq_true] at q1; exact q1.1
      unfold genR genM
      rw [if_pos hv, hvc.fn, hvc.dn]
    have HGE := hideIt (fun W3 (h : Below W2.heap.size W2 W3) => gen_vc hvc A c W3 (HT.out.keep h) (HBC.out.cin.keep h) hgr)
    have hwid := hvc.wid
    have hpos := hvc.pos
    clear q1 hvc hgr hlen
    go_enter Tryd.func48, Tryd.ntmps48
    go_wp2_with fail
    go_step3
    go_wp2_with (first
      | ((with_reducible refine at_load ?_); refine wpList_ldC (by kernel_rfl) (.tmp 2) rfl (p := w.heap.size) (c := c) rfl HBC1.out.box ?_)
      | (go_at_call 69; rw [← HWE.out]; refine HV.out.mono ?_; rintro e w1 ⟨rfl, hb1⟩; have HB1 := hideIt hb1; have HBC1 := hideIt (HBC.out.keep hb1); clear hb1 HV)
      | (go_at_call 14; refine (HGE.out _ HB1.out).mono ?_; rintro e w3 ⟨A3, c3, rfl, ho3, hn3, hb3⟩; have HO3 := hideIt ho3; have HB3 := hideIt hb3; have HN3 := hideIt hn3; clear hb3 ho3 HGE hn3))
    obtain ⟨W4, hW4⟩ : ∃ W, W = w3.alloc (.cells (mtC (m : Int) ((n : Int) + (x.par.length : Int)) (n : Int) (.slice A3 ((n + x.par.length) * n) c3)).toArray 31) := ⟨_, rfl⟩
    have hW4' := hW4
    obtain ⟨pb, hpb⟩ : ∃ p, p = w3.heap.size + 1 := ⟨_, rfl⟩
    have hpw : pb = W4.heap.size := by rw [hW4, hpb]; simp
    obtain ⟨w4, hw4⟩ : ∃ W, W = W4.alloc (.cells (baC (m : Int) ((n : Int) + (x.par.length : Int)) (n : Int) (.slice A3 ((n + x.par.length) * n) c3) (.slice none 0 0) (.slice none 0 0) (.slice none 0 0)).toArray 74) := ⟨_, rfl⟩
    have hlw : Below W2.heap.size W2 W4 := by rw [hW4]; exact la7 (HB1.out.trans (HB3.out.mono HB1.out.size))
    have HLW := hideIt hlw
    have HZP := hideIt (show w3.heap.size ≤ pb ∧ W2.heap.size ≤ pb ∧ W4.heap.size = pb by refine ⟨by omega, ?_, hpw.symm⟩; rw [hpw]; exact hlw.size)
    have HSG := hideIt (show Sl W4 w3.heap.size A3 1 ((n + x.par.length) * n) ((genK x x.par.length).map iv) by rw [hW4]; exact (Sl.of_own HO3.out).below (below_new w3 _))
    have HBI := hideIt (show BI x m n hs pb 0 A3 c3 W4 w4 from ⟨⟨[], fun _ _ => 0, .slice none 0 0, .slice none 0 0, .slice none 0 0, fun _ => 0, rdc_nil m n _ _ (fun _ _ => Nat.two_pow_pos m), ⟨by rw [hw4]; exact (HSG.out.below ((below_new W4 _).mono (by rw [HZP.out.2.2]; exact HZP.out.1))).wide HZP.out.1, World.ownsRow_nil _ _ _ _, World.ownsRow_nil _ _ _ _, World.ownsRow_nil _ _ _ _, fun k h _ => (by cases h), fun i hi => absurd hi (Nat.not_lt_zero i)⟩, by rw [hw4, hpw]; exact Blk.new W4 74 _⟩, by rw [hw4, hpw]; exact below_new W4 _⟩)
    rw [← hpb, ← hW4, ← hw4]
    have HTB := hideIt (show 0 < pb by have := HT.out.lo; have := HZP.out; omega)
    have HOG := hideIt (show W4.ownsRow w1.heap.size 3 1 (.slice A3 ((n + x.par.length) * n) c3) ((n + x.par.length) * n) ((genK x x.par.length).map iv) by rw [hW4']; exact World.ownsRow.alloc HO3.out _)
    have HBL := hideIt (show basL x hs = bas m n (gC x) (hvF hs) hs.length by unfold basL; rw [HVC.out.fn, HVC.out.dn])
    have HW2S := hideIt (show w.heap.size + 1 < W2.heap.size from HPR.out.lt)
    clear hW4 hpb hpw hw4 hlw HSG HO3 HB3 hW4'
    go_step3
    go_wp2_with fail
    go_loopg [27] hs.length (fun gk s27 wr => ∃ k : Nat, k + gk = hs.length ∧ s27 = .int .i64 (k : Int) ∧ Aside (BI x m n hs pb k A3 c3 W4 wr))
    case atStart => exact ⟨0, by omega, rfl, HBI.out⟩
    case round =>
      obtain ⟨k, hk, rfl, HI⟩ := hrel
      obtain ⟨w5, rfl⟩ : ∃ x, x = wr := ⟨wr, rfl⟩
      obtain ⟨ko, rfl⟩ : ∃ x, x = gk := ⟨gk, rfl⟩
      obtain ⟨⟨pv, Q, vU, vR, vP, gs, hR, hO, hX⟩, hlo⟩ := HI.out
      have hsz : pb ≤ w5.heap.size := Nat.le_of_lt hX.lt
      have HLW5 := hideIt (HLW.out.trans (hlo.mono HZP.out.2.1))
      have HLO := hideIt hlo
      have HR := hideIt hR
      have HO := hideIt hO
      have HX := hideIt hX
      have HSZ := hideIt hsz
      obtain ⟨B, hB⟩ : ∃ B, B = bas m n (gC x) (hvF hs) k := ⟨_, rfl⟩
      have HBB := hideIt hB
      rw [← hB] at HR HO
      have HGV := hideIt (gC_v HVC.out)
      have HBN := hideIt (show B.length ≤ n by rw [hB]; exact bas_le HVC.out.fm HGV.out k)
      obtain ⟨uA, uc, rA, rc, pA, pc, e1, e2, e3, hM⟩ := HO.out.toM (m := m) HSZ.out HR.out.len
      subst e1 e2 e3
      have HM := hideIt hM
      clear hR hO hX hlo hsz hM hB HI HBI
      by_cases hlt : k < hs.length
      · obtain ⟨b, o, v, hA, hb, hv, hc⟩ := (HSD.out.below HLW5.out).at_ hlt
        rw [List.getElem?_map, List.getElem?_eq_getElem hlt] at hv
        injection hv with hv
        subst hv hA
        have hki : (k : Int) < (hs.length : Int) := by omega
        have hinc := inc_c 3 k (by omega)
        have HHV := hideIt (show hvF hs k = hs[k] by simp [hvF, List.getD_eq_getElem?_getD, hlt])
        have hkw : k < n + x.par.length := by rw [← HLEN.out]; exact hlt
        have HKW := hideIt hkw
        generalize hs[k] = bk at *
        change w5.cell? ⟨b, o + k, none⟩ = some (.bool bk) at hc
        clear hb hkw
        cases bk with
        | false =>
          go_wp2_with fail
          go_roundg (ko - 1)
          case measure => omega
          case rel => exact ⟨k + 1, by omega, by go_num, ⟨⟨pv, Q, _, _, _, gs, by rw [bas_abs (by rw [HHV.out]; decide), ← HBB.out]; exact HR.out, by rw [bas_abs (by rw [HHV.out]; decide), ← HBB.out]; exact HO.out, HX.out⟩, HLO.out⟩⟩
        | true =>
          have HF := hideIt (isFull_any pb m (n + x.par.length) n B.length _ _ _ uA uc w5 HX.out)
          have HBX := hideIt (fun (W : World) (h : Below w5.heap.size w5 W) => HX.out.kept h HX.out.lt)
          have HPR5 := hideIt (fun (W : World) (h : Below w5.heap.size w5 W) => HPR.out.kept (HLW5.out.trans (h.mono HLW5.out.size)) HPR.out.lt)
          by_cases hfull : B.length = n
          · rw [decide_eq_true hfull] at HF
            have HST := hideIt (show basL x hs = B by
              rw [HBL.out, show hs.length = k + (hs.length - k) by omega, HBB.out]
              exact bas_stop HVC.out.fm HGV.out (by rw [← HBB.out]; exact hfull) _)
            clear hfull
            go_wp2_with (first
              | (go_at_call 53; refine HF.out.mono ?_; rintro e w6 ⟨rfl, hb6⟩; have HB6 := hideIt hb6; clear hb6 HF)
              | ((with_reducible refine at_load ?_); refine wpList_ldB (by kernel_rfl) (.tmp 8) rfl (p := pb) rfl (HBX.out _ HB6.out) ?_)
              | ((with_reducible refine at_store ?_); refine wpList_stB rfl (.tmp 4) (.tmp 53) rfl (p := w.heap.size + 1) rfl rfl rfl rfl rfl rfl (HPR5.out _ HB6.out) rfl ?_; intro w8 HT8 HB8))
            try rw [Exit.noGoto_ret]
            refine bodyPost_ret (results_two rfl _ _ (w.heap.size + 1) _ _ _ rfl HB8.out Tryd.underlying74 rfl isz7) rfl ?_
            have h6 := HO.out.keep HSZ.out HB6.out
            have hR6 := HR.out
            rw [← HST.out] at h6 hR6 ⊢
            exact basOk_of hR6 h6 (own_kept HOG.out ((by rw [HZP.out.2.2]; exact HLO.out : Below W4.heap.size W4 w5).trans (HB6.out.mono (by have := HSZ.out; have := HZP.out; omega)))) HN3.out (HB.out.trans ((HLW5.out.trans (HB6.out.mono HLW5.out.size)).mono HB.out.size)) (by have := HW2S.out; have := HZP.out; omega) (Nat.le_trans HSZ.out HB6.out.size) (HPR5.out _ HB6.out) HT8.out
          · rw [decide_eq_false hfull] at HF
            have HRD := hideIt (fun (W : World) (h : Below w5.heap.size w5 W) => reduced_any HVC.out HR.out HBN.out k HKW.out pb HN3.out W (HT.out.keep (HLW5.out.trans (h.mono HLW5.out.size))) (HBX.out _ h) (HM.out.keep h))
            have HLT := hideIt (show B.length < n by have := HBN.out; omega)
            have HRV := hideIt (rd_v (Q := Q) (pv := pv) HVC.out.fm (pad_v (n := n) (HGV.out k)) B.length)
            have HIS := hideIt (rd_is HVC.out.fm HR.out HGV.out (u := k))
            have HADD := hideIt (fun c hc h0 => rdc_add HVC.out.fm HR.out HGV.out (u := k) (c := c) HLT.out hc h0)
            clear hfull
            generalize rd m Q pv (pad n (gC x k)) B.length = r at *
            have HBC5 := hideIt (fun (W : World) (h : Below w5.heap.size w5 W) => (HBC.out.keep (HLW5.out.trans (h.mono HLW5.out.size))).c2)
            go_wp2_with (first
              | (go_at_call 53; refine HF.out.mono ?_; rintro e w6 ⟨rfl, hb6⟩; have HB6 := hideIt hb6; clear hb6 HF)
              | (go_at_call 70; refine (HRD.out _ HB6.out).mono ?_; rintro e w7 ⟨g, rfl, hg7, hk7, hb7⟩; have HB7 := hideIt (HB6.out.trans (hb7.mono HB6.out.size)); have HG7 := hideIt (And.intro (Nat.le_trans HB6.out.size hg7) hk7); clear hg7 hk7 hb7 HRD))
            go_loopg [12] n (fun gk s12 wr => ∃ j : Nat, j + gk = n ∧ j < n ∧ s12 = .int .i64 (j : Int) ∧ wr = w7 ∧ Aside (∀ i, i < j → r i = 0))
            case atStart => exact ⟨0, by omega, by omega, rfl, rfl, fun i hi => absurd hi (Nat.not_lt_zero i)⟩
            case round =>
              obtain ⟨j, hj, hjn, rfl, rfl, HZ⟩ := hrel
              obtain ⟨w7, rfl⟩ : ∃ x, x = wr := ⟨wr, rfl⟩
              have hcg := HG7.out.2.cell j
              rw [iv_at (by omega)] at hcg
              have hji : (j : Int) < ((n + n : Nat) : Int) := by omega
              have hinj := inc_c 3 j (by omega)
              have c2 := HBC5.out _ HB7.out
              by_cases h0 : r j = 0
              · have hq : binOp .eql 3 (.int .i64 ((j : Int) + 1)) (.int .i64 x.data) = pure (.bool (decide (j + 1 = n))) := by
                  have := i_eql 3 .i64 ((j : Int) + 1) x.data
                  rw [show decide ((j : Int) + 1 = x.data) = decide (j + 1 = n) from decide_eq_decide.2 (by have := HVC.out.d; omega)] at this
                  exact this
                rw [h0] at hcg
                have HZ2 := hideIt (show ∀ i, i < j + 1 → r i = 0 from fun i hi => by
                  by_cases e : i = j
                  · rw [e]; exact h0
                  · exact HZ.out i (by omega))
                clear h0
                by_cases hend : j + 1 = n
                · rw [decide_eq_true hend] at hq
                  have HD := hideIt (show bas m n (gC x) (hvF hs) (k + 1) = B by
                    rw [HBB.out]
                    refine bas_dep ?_
                    rw [← HBB.out]
                    exact HIS.out.1 fun i hi => HZ2.out i (by omega))
                  clear hend
                  go_wp2_with fail
                  go_roundg (ko - 1)
                  case measure => omega
                  case rel => exact ⟨k + 1, by omega, by go_num, ⟨⟨pv, Q, _, _, _, gs, by rw [HD.out]; exact HR.out, by rw [HD.out]; exact HO.out.keep HSZ.out HB7.out, HBX.out _ HB7.out⟩, HLO.out.trans (HB7.out.mono HSZ.out)⟩⟩
                · rw [decide_eq_false hend] at hq
                  have HJ := hideIt (show j + 1 < n by omega)
                  clear hend
                  go_wp2_with fail
                  go_roundg (gk - 1)
                  case measure => omega
                  case rel => exact ⟨j + 1, by omega, HJ.out, by go_num, rfl, HZ2.out⟩
              · have hq : binOp .eql 3 (.int .i64 (r j : Int)) (.int .i64 0) = pure (.bool false) := by
                  have := i_eql 3 .i64 (r j : Int) 0
                  rw [decide_eq_false (show ¬ ((r j : Nat) : Int) = 0 by omega)] at this
                  exact this
                have HND := hideIt (show ¬ Dep m n B.length (sel (gC x) B) (gC x k) from fun hd => h0 (HIS.out.2 hd j hjn))
                have HH0 := hideIt h0
                have HO7 := hideIt (HO.out.keep HSZ.out HB7.out)
                have HEX := hideIt (extend_any pb HVC.out B pv Q A3 c3 _ _ _ gs pb k j g r HRV.out HR.out.len HLT.out hjn h0 w7 (HT.out.keep (HLW5.out.trans (HB7.out.mono HLW5.out.size))) HO7.out (HBX.out _ HB7.out) (Nat.le_refl _) HTB.out HG7.out.2 (Nat.le_trans HSZ.out HG7.out.1)
                  (fun e => by have := (HO.out.uni.lt _ e).2; have := HG7.out.1; omega) (fun e => by have := (HO.out.piv.lt _ e).2; have := HG7.out.1; omega) (fun i hi e => by have := (HO.out.dat i hi).1.lt; have := HG7.out.1; omega))
                clear h0 hinj c2
                generalize hrj : r j = rj at hcg hq
                clear hrj
                go_wp2_with (first
                  | (go_at_call 71; refine HEX.out.mono ?_; rintro e w8 ⟨rfl, vU, vR, vP, ho8, hx8, hb8⟩; have H8 := hideIt (And.intro ho8 (And.intro hx8 hb8)); clear ho8 hx8 hb8 HEX))
                go_roundg (ko - 1)
                case measure => omega
                case rel =>
                  have e : bas m n (gC x) (hvF hs) (k + 1) = B ++ [k] := by
                    rw [HBB.out]
                    refine bas_new HHV.out ?_
                    rw [← HBB.out]
                    exact HND.out
                  refine ⟨k + 1, by omega, by go_num, ⟨⟨pv ++ [j], addQ Q B.length (newR m n r B.length j), vU, vR, vP, upd gs B.length g, ?_, ?_, H8.out.2.1⟩, (HLO.out.trans (HB7.out.mono HSZ.out)).trans H8.out.2.2⟩⟩
                  · rw [e]; exact HADD.out j hjn HH0.out
                  · rw [e]; exact H8.out.1
      · have hki : ¬ (k : Int) < (hs.length : Int) := by omega
        have HST := hideIt (show basL x hs = B by rw [HBL.out, show hs.length = k by omega, HBB.out])
        have HPR5 := hideIt (HPR.out.kept HLW5.out HPR.out.lt)
        go_wp2_with (first
          | ((with_reducible refine at_load ?_); refine wpList_ldB (by kernel_rfl) (.tmp 8) rfl (p := pb) rfl HX.out ?_)
          | ((with_reducible refine at_store ?_); refine wpList_stB rfl (.tmp 4) (.tmp 53) rfl (p := w.heap.size + 1) rfl rfl rfl rfl rfl rfl HPR5.out rfl ?_; intro w8 HT8 HB8))
        try rw [Exit.noGoto_ret]
        refine bodyPost_ret (results_two rfl _ _ (w.heap.size + 1) _ _ _ rfl HB8.out Tryd.underlying74 rfl isz7) rfl ?_
        have h6 := HO.out
        have hR6 := HR.out
        rw [← HST.out] at h6 hR6 ⊢
        exact basOk_of hR6 h6 (own_kept HOG.out (by rw [HZP.out.2.2]; exact HLO.out)) HN3.out (HB.out.trans (HLW5.out.mono HB.out.size)) (by have := HW2S.out; have := HZP.out; omega) HSZ.out HPR5.out HT8.out
  | false =>
    rw [q1] at HV
    show Calls _ _ _ _ fun e w' => e = .returned (.tuple #[zeroB, .int .i64 1]) ∧ Below w.heap.size w w'
    clear q1
    go_enter Tryd.func48, Tryd.ntmps48
    go_wp2_with fail
    go_step3
    go_wp2_with (first
      | (go_at_call 69; rw [← HWE.out]; refine HV.out.mono ?_; rintro e w1 ⟨rfl, hb1⟩; have HB1 := hideIt hb1; have HPR1 := hideIt (HPR.out.kept hb1 HPR.out.lt); clear hb1 HV)
      | ((with_reducible refine at_store ?_); refine wpList_stB rfl (.tmp 4) (.tmp 17) rfl (p := w.heap.size + 1) (F := 0) (R := 0) (C := 0) (g := .slice none 0 0) (u := .slice none 0 0) (r := .slice none 0 0) (v := .slice none 0 0) rfl rfl rfl rfl rfl rfl HPR1.out rfl ?_; intro w8 HT8 HB8))
    try rw [Exit.noGoto_ret]
    refine bodyPost_ret (results_two rfl _ _ (w.heap.size + 1) _ _ _ rfl HB8.out Tryd.underlying74 rfl isz7) rfl ?_
    exact ⟨rfl, HT8.out.below (HB.out.trans (HB1.out.mono HB.out.size)) HPL.out⟩
end Go.Proofs.YtpjgmekpnlpjaaaDoor
