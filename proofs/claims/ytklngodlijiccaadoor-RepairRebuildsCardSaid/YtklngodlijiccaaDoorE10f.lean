/-
  What stage 10 stands on, cut out of older texts. (EraQ, EraR, ExpC, EreA, LwE, EreM.)
-/
import Derived.BigQuiet
import Derived.Test.YtklngodlijiccaaDoorE10a
import Derived.Test.YtklngodlijiccaaDoorE10b
import Derived.Test.YtklngodlijiccaaDoorE10c
import Derived.Test.YtklngodlijiccaaDoorE10d
import Derived.Test.YtklngodlijiccaaDoorE10e
namespace Go.Proofs.YtklngodlijiccaaDoor
set_option linter.unusedVariables false
set_option linter.unusedSimpArgs false
set_option linter.unusedSectionVars false

section
open Go.RowKit
set_option linter.unusedVariables false
set_option linter.unusedSimpArgs false
abbrev hvF (hs : List Bool) : Nat → Bool := fun k => hs.getD k false
/-- The basis of a code and a selection of present units. -/
noncomputable def basL (x : Cd) (hs : List Bool) : List Nat := bas x.field.toNat x.data.toNat (gC x) (hvF hs) hs.length
def okB (x : Cd) (hs : List Bool) : Bool := vC x && decide ((hs.length : Int) = x.data + x.par.length)
theorem per_ok (x : Cd) (hs : List Bool) : perB x hs.length = okB x hs := by
  unfold perB okB wC
  by_cases h : vC x = true
  · have hb := vC_bounds h
    rw [if_pos h, h, Bool.true_and]
    exact decide_eq_decide.2 (by omega)
  · rw [if_neg h, Bool.eq_false_iff.2 h, Bool.false_and]
    exact decide_eq_false (by omega)
structure BasOk (w : World) (x : Cd) (m n : Nat) (hs : List Bool) (e : Ending) (w' : World) : Prop where
  ex : ∃ gA gc uA uc rA rc pA pc pv Q, e = .returned (.tuple #[baV (m : Int) ((n + x.par.length : Nat) : Int) (n : Int) (.slice gA ((n + x.par.length) * n) gc) (.slice uA (basL x hs).length uc) (.slice rA (basL x hs).length rc) (.slice pA (pv.length) pc), .int .i64 0]) ∧ Rdc m n (gC x) (basL x hs) pv Q ∧ BaM w' x m n (basL x hs) pv Q gA uA rA pA ∧ (n + x.par.length) * n ≤ gc ∧ w'.ownsRow w.heap.size 3 1 (.slice uA (basL x hs).length uc) (basL x hs).length (pvC (basL x hs))
  low : Below w.heap.size w w'
abbrev zeroB : Value := baV 0 0 0 (.slice none 0 0) (.slice none 0 0) (.slice none 0 0) (.slice none 0 0)
theorem isz7 : (Tryd.prog.info? 100).map (·.size) = some 7 := by kernel_rfl
theorem ba_one (F R C : Int) {g u r p : Value} (h1 : g.oneCell' = true) (h2 : u.oneCell' = true) (h3 : r.oneCell' = true) (h4 : p.oneCell' = true) : ∀ v ∈ baC F R C g u r p, v.oneCell' = true := by
  intro v hv
  simp only [List.mem_cons, List.not_mem_nil, or_false] at hv
  rcases hv with rfl | rfl | rfl | rfl | rfl | rfl | rfl
  · rfl
  · rfl
  · rfl
  · exact h1
  · exact h2
  · exact h3
  · exact h4
theorem wpList_ldB {ops : Array Oper} {rest : List Oper} {o : Oper} {a : Act} {w : World} {Q : Exit → Act → World → Prop} (hw : Region.wanted o (yielded ops a.tmps) = true) (x : Operand) (ho : o.op = .load 100 x) {p : Nat} {F R C : Int} {g u r v : Value} (hx : a.eval x = .pointer (some ⟨p, 0, none⟩))
    (hp : Blk w p 100 (baC F R C g u r v)) (h : wpList Tryd.prog ops Q rest (a.put o.dst (baV F R C g u r v)) w) : wpList Tryd.prog ops Q (o :: rest) a w :=
  wpList_get_g hw _ x ho p (baC F R C g u r v) _ _ hx hp Tryd.underlying100 rfl isz7 h
theorem wpList_stB {ops : Array Oper} {rest : List Oper} {o : Oper} {a : Act} {w : World} {Q : Exit → Act → World → Prop} (hgd : o.guard = none) (x y : Operand) (ho : o.op = .store 100 x y) {p : Nat} {F R C : Int} {g u r v : Value} {old : List Value} (h1 : g.oneCell' = true) (h2 : u.oneCell' = true) (h3 : r.oneCell' = true) (h4 : v.oneCell' = true) (hx : a.eval x = .pointer (some ⟨p, 0, none⟩)) (hy : a.eval y = baV F R C g u r v)
    (hp : Blk w p 100 old) (hl : old.length = 7) (h : ∀ w', Hid (Turned p w w') → Hid (Blk w' p 100 (baC F R C g u r v)) → wpList Tryd.prog ops Q rest (a.put o.dst undef) w') : wpList Tryd.prog ops Q (o :: rest) a w :=
  wpList_put hgd _ x y ho p (baC F R C g u r v) old 100 hx hy hp isz7 hl (ba_one F R C h1 h2 h3 h4) (fun w' h1 h2 => h w' h1 h2)
def BasPost (w : World) (x : Cd) (hs : List Bool) (e : Ending) (w' : World) : Bool → Prop
  | true => BasOk w x x.field.toNat x.data.toNat hs e w'
  | false => e = .returned (.tuple #[zeroB, .int .i64 1]) ∧ Below w.heap.size w w'
/-- The state between two units. -/
structure BI (x : Cd) (m n : Nat) (hs : List Bool) (pb k : Nat) (gA : Option Addr) (gc : Nat) (W4 wr : World) : Prop where
  ex : ∃ pv Q vU vR vP gs, Rdc m n (gC x) (bas m n (gC x) (hvF hs) k) pv Q ∧ BaO wr pb x n (bas m n (gC x) (hvF hs) k) pv Q gA vU vR vP gs ∧ Blk wr pb 100 (baC (m : Int) ((n + x.par.length : Nat) : Int) (n : Int) (.slice gA ((n + x.par.length) * n) gc) vU vR vP)
  low : Below pb W4 wr
theorem Sl.both {w w' : World} {B B' size n : Nat} {A : Option Addr} {xs : List Value} (h : Sl w B A size n xs) (k : Sl w' B' A size n xs) : Sl w' B A size n xs := by
  refine ⟨h.1, fun h0 => ?_⟩
  obtain ⟨b, o, hA, hb, _⟩ := h.2 h0
  obtain ⟨b', o', hA', _, hc⟩ := k.2 h0
  rw [hA] at hA'
  injection hA' with hA'
  injection hA' with e1 e2
  subst e1 e2
  exact ⟨b, o, hA, hb, hc⟩
theorem basOk_of {w w5 w9 : World} {x : Cd} {m n : Nat} {hs : List Bool} {pb b1 : Nat} {A3 uA rA pA : Option Addr} {c3 uc rc pc : Nat} {pv : List Nat} {Q : Mx} {gs : Nat → Nat} {old : List Value} (hR : Rdc m n (gC x) (basL x hs) pv Q)
    (hO : BaO w5 pb x n (basL x hs) pv Q A3 (.slice uA (basL x hs).length uc) (.slice rA (basL x hs).length rc) (.slice pA pv.length pc) gs) (hgen : w5.ownsRow b1 3 1 (.slice A3 ((n + x.par.length) * n) c3) ((n + x.par.length) * n) ((genK x x.par.length).map iv)) (hc3 : (n + x.par.length) * n ≤ c3)
    (hlow : Below w.heap.size w w5) (hpb : w.heap.size + 1 < pb) (hsz : pb ≤ w5.heap.size) (hbox : Blk w5 (w.heap.size + 1) 100 old) (ht : Turned (w.heap.size + 1) w5 w9) :
    BasOk w x m n hs (.returned (.tuple #[baV (m : Int) ((n + x.par.length : Nat) : Int) (n : Int) (.slice A3 ((n + x.par.length) * n) c3) (.slice uA (basL x hs).length uc) (.slice rA (basL x hs).length rc) (.slice pA pv.length pc), .int .i64 0])) w9 := by
  have hO9 : BaO w9 pb x n (basL x hs) pv Q A3 (.slice uA (basL x hs).length uc) (.slice rA (basL x hs).length rc) (.slice pA pv.length pc) gs :=
    ⟨Sl.both hO.gen (Sl.of_own (own_turned hgen hbox (by decide) ht)), own_turned hO.uni hbox (by decide) ht, own_turned hO.row hbox (by decide) ht, own_turned hO.piv hbox (by decide) ht, hO.ap, fun i hi => ⟨ht.blk (hO.dat i hi).1 (by have := (hO.dat i hi).2.1; omega), (hO.dat i hi).2⟩⟩
  obtain ⟨uA', uc', rA', rc', pA', pc', e1, e2, e3, hM⟩ := hO9.toM (m := m) (by rw [ht.size]; exact hsz) hR.len
  injection e1 with a1 _ a2
  injection e2 with a3 _ a4
  injection e3 with a5 _ a6
  subst a1 a2 a3 a4 a5 a6
  exact ⟨⟨A3, c3, uA, uc, rA, rc, pA, pc, pv, Q, rfl, hR, hM, hc3, own_base hO9.uni (by omega)⟩, ht.below hlow (by omega)⟩
theorem gen_vc {x : Cd} {m n : Nat} (h : VC x m n) (A : Option Addr) (c : Nat) (w : World) (hT : Tabs w) (hx : CIn w x A) (hg : genR x = (mkM m (n + x.par.length) n (gC x), 0)) :
    Calls Tryd.prog 88 #[x.v A c] w fun e w' => ∃ A3 c3, e = .returned (.tuple #[mtV (m : Int) ((n + x.par.length : Nat) : Int) (n : Int) (.slice A3 ((n + x.par.length) * n) c3), .int .i64 0]) ∧ w'.ownsRow w.heap.size 3 1 (.slice A3 ((n + x.par.length) * n) c3) ((n + x.par.length) * n) ((genK x x.par.length).map iv) ∧ (n + x.par.length) * n ≤ c3 ∧ Below w.heap.size w w' := by
  have := generator_any x A c w hT hx
  rw [hg] at this
  refine this.mono ?_
  rintro e w' ⟨s, rfl, ho, hb⟩
  have ho2 : w'.ownsRow w.heap.size 3 1 s ((n + x.par.length) * n) ((genK x x.par.length).map iv) := by
    have e1 : (mkM m (n + x.par.length) n (gC x)).l = genK x x.par.length := by unfold genK mkM; rw [h.dn]
    rw [e1, genK_len, h.dn] at ho
    exact ho
  obtain ⟨A3, c3, rfl, hn, _⟩ := own_form ho2
  exact ⟨A3, c3, rfl, ho2, hn, hb⟩
set_option maxHeartbeats 1600000 in
set_option maxRecDepth 100000 in
theorem basisOf_any (x : Cd) (A : Option Addr) (c : Nat) (w : World) (hT : Tabs w) (hx : CIn w x A) (hs : List Bool) (D : Option Addr) (cd : Nat) (hl : hs.length ≤ 100000) (hD : Sl w w.heap.size D 1 hs.length (hs.map bl)) :
    Calls Tryd.prog 75 #[x.v A c, .slice D hs.length cd] w fun e w' => BasPost w x hs e w' (okB x hs) := by
  obtain ⟨W, hW⟩ : ∃ W, W = w.alloc (.cells (x.cs A c).toArray 24) := ⟨_, rfl⟩
  have hbw : Below w.heap.size w W := by rw [hW]; exact below_new w _
  have hWs : W.heap.size = w.heap.size + 1 := by rw [hW]; simp
  have HBC0 := show BC W w.heap.size x A c by rw [hW]; exact BC.new c hx
  obtain ⟨W2, hW2⟩ : ∃ W2, W2 = W.alloc (.cells (baC 0 0 0 (.slice none 0 0) (.slice none 0 0) (.slice none 0 0) (.slice none 0 0)).toArray 100) := ⟨_, rfl⟩
  have hbw2 : Below w.heap.size w W2 := by rw [hW2]; exact la7 hbw
  have HB := hideIt hbw2
  have HBC := hideIt (show BC W2 w.heap.size x A c by rw [hW2]; exact HBC0.keep (below_new W _))
  have HPR := hideIt (show Blk W2 (w.heap.size + 1) 100 (baC 0 0 0 (.slice none 0 0) (.slice none 0 0) (.slice none 0 0) (.slice none 0 0)) by rw [hW2, ← hWs]; exact Blk.new W 100 (baC 0 0 0 (.slice none 0 0) (.slice none 0 0) (.slice none 0 0) (.slice none 0 0)))
  have HV := hideIt (perb_any x A c W2 (hT.keep hbw2) HBC.out.cin D hs.length cd)
  rw [per_ok] at HV
  have hnot := not_b
  have HT := hideIt (hT.keep hbw2)
  have HSD := hideIt ((hD.below hbw2).wide hbw2.size)
  have HWE := hideIt (show W2 = (w.alloc (.cells (x.cs A c).toArray 24)).alloc (.cells (baC 0 0 0 (.slice none 0 0) (.slice none 0 0) (.slice none 0 0) (.slice none 0 0)).toArray 100) by rw [hW2, hW])
  have HPL := hideIt (show w.heap.size ≤ w.heap.size + 1 by omega)
  clear hbw hbw2 hT hx hW hW2 HBC0 hWs hD
  cases q1 : okB x hs with
  | true =>
    rw [q1] at HV
    obtain ⟨m, n, hvc, hlen⟩ : ∃ m n, VC x m n ∧ hs.length = n + x.par.length := by
      unfold okB at q1
      rw [Bool.and_eq_true] at q1
      obtain ⟨m, n, h⟩ := vC_spec q1.1
      have := of_decide_eq_true q1.2
      exact ⟨m, n, h, by have := h.d; omega⟩
    show Calls _ _ _ _ fun e w' => BasOk w x x.field.toNat x.data.toNat hs e w'
    rw [hvc.fn, hvc.dn]
    have HVC := hideIt hvc
    have HLEN := hideIt hlen
    have hgr : genR x = (mkM m (n + x.par.length) n (gC x), 0) := by
      have hv : vC x = true := by unfold okB at q1; rw [Bool.and_eq_true] at q1; exact q1.1
      unfold genR genM
      rw [if_pos hv, hvc.fn, hvc.dn]
    have HGE := hideIt (fun W3 (h : Below W2.heap.size W2 W3) => gen_vc hvc A c W3 (HT.out.keep h) (HBC.out.cin.keep h) hgr)
    have hwid := hvc.wid
    have hpos := hvc.pos
    clear q1 hvc hgr hlen
    go_enter Tryd.func75, Tryd.ntmps75
    go_wp2_with fail
    go_step3
    go_wp2_with (first
      | ((with_reducible refine at_load ?_); refine wpList_ldC (by kernel_rfl) (.tmp 2) rfl (p := w.heap.size) (c := c) rfl HBC1.out.box ?_)
      | (go_at_call 87; rw [← HWE.out]; refine HV.out.mono ?_; rintro e w1 ⟨rfl, hb1⟩; have HB1 := hideIt hb1; have HBC1 := hideIt (HBC.out.keep hb1); clear hb1 HV)
      | (go_at_call 88; refine (HGE.out _ HB1.out).mono ?_; rintro e w3 ⟨A3, c3, rfl, ho3, hn3, hb3⟩; have HO3 := hideIt ho3; have HB3 := hideIt hb3; have HN3 := hideIt hn3; clear hb3 ho3 HGE hn3))
    obtain ⟨W4, hW4⟩ : ∃ W, W = w3.alloc (.cells (mtC (m : Int) ((n : Int) + (x.par.length : Int)) (n : Int) (.slice A3 ((n + x.par.length) * n) c3)).toArray 98) := ⟨_, rfl⟩
    have hW4' := hW4
    obtain ⟨pb, hpb⟩ : ∃ p, p = w3.heap.size + 1 := ⟨_, rfl⟩
    have hpw : pb = W4.heap.size := by rw [hW4, hpb]; simp
    obtain ⟨w4, hw4⟩ : ∃ W, W = W4.alloc (.cells (baC (m : Int) ((n : Int) + (x.par.length : Int)) (n : Int) (.slice A3 ((n + x.par.length) * n) c3) (.slice none 0 0) (.slice none 0 0) (.slice none 0 0)).toArray 100) := ⟨_, rfl⟩
    have hlw : Below W2.heap.size W2 W4 := by rw [hW4]; exact la7 (HB1.out.trans (HB3.out.mono HB1.out.size))
    have HLW := hideIt hlw
    have HZP := hideIt (show w3.heap.size ≤ pb ∧ W2.heap.size ≤ pb ∧ W4.heap.size = pb by refine ⟨by omega, ?_, hpw.symm⟩; rw [hpw]; exact hlw.size)
    have HSG := hideIt (show Sl W4 w3.heap.size A3 1 ((n + x.par.length) * n) ((genK x x.par.length).map iv) by rw [hW4]; exact (Sl.of_own HO3.out).below (below_new w3 _))
    have HBI := hideIt (show BI x m n hs pb 0 A3 c3 W4 w4 from ⟨⟨[], fun _ _ => 0, .slice none 0 0, .slice none 0 0, .slice none 0 0, fun _ => 0, rdc_nil m n _ _ (fun _ _ => Nat.two_pow_pos m), ⟨by rw [hw4]; exact (HSG.out.below ((below_new W4 _).mono (by rw [HZP.out.2.2]; exact HZP.out.1))).wide HZP.out.1, World.ownsRow_nil _ _ _ _, World.ownsRow_nil _ _ _ _, World.ownsRow_nil _ _ _ _, fun k h _ => (by cases h), fun i hi => absurd hi (Nat.not_lt_zero i)⟩, by rw [hw4, hpw]; exact Blk.new W4 100 _⟩, by rw [hw4, hpw]; exact below_new W4 _⟩)
    rw [← hpb, ← hW4, ← hw4]
    have HTB := hideIt (show 0 < pb by have := HT.out.lo; have := HZP.out; omega)
    have HOG := hideIt (show W4.ownsRow w1.heap.size 3 1 (.slice A3 ((n + x.par.length) * n) c3) ((n + x.par.length) * n) ((genK x x.par.length).map iv) by rw [hW4']; exact World.ownsRow.alloc HO3.out _)
    have HBL := hideIt (show basL x hs = bas m n (gC x) (hvF hs) hs.length by unfold basL; rw [HVC.out.fn, HVC.out.dn])
    have HW2S := hideIt (show w.heap.size + 1 < W2.heap.size from HPR.out.lt)
    clear hW4 hpb hpw hw4 hlw HSG HO3 HB3 hW4'
    go_step3
    go_wp2_with fail
    go_loopg [27] hs.length (fun gk s27 wr => ∃ k : Nat, k + gk = hs.length ∧ s27 = .int .i64 (k : Int) ∧ Aside (BI x m n hs pb k A3 c3 W4 wr))
    case atStart => exact ⟨0, by omega, rfl, HBI.out⟩
    case round =>
      obtain ⟨k, hk, rfl, HI⟩ := hrel
      obtain ⟨w5, rfl⟩ : ∃ x, x = wr := ⟨wr, rfl⟩
      obtain ⟨ko, rfl⟩ : ∃ x, x = gk := ⟨gk, rfl⟩
      obtain ⟨⟨pv, Q, vU, vR, vP, gs, hR, hO, hX⟩, hlo⟩ := HI.out
      have hsz : pb ≤ w5.heap.size := Nat.le_of_lt hX.lt
      have HLW5 := hideIt (HLW.out.trans (hlo.mono HZP.out.2.1))
      have HLO := hideIt hlo
      have HR := hideIt hR
      have HO := hideIt hO
      have HX := hideIt hX
      have HSZ := hideIt hsz
      obtain ⟨B, hB⟩ : ∃ B, B = bas m n (gC x) (hvF hs) k := ⟨_, rfl⟩
      have HBB := hideIt hB
      rw [← hB] at HR HO
      have HGV := hideIt (gC_v HVC.out)
      have HBN := hideIt (show B.length ≤ n by rw [hB]; exact bas_le HVC.out.fm HGV.out k)
      obtain ⟨uA, uc, rA, rc, pA, pc, e1, e2, e3, hM⟩ := HO.out.toM (m := m) HSZ.out HR.out.len
      subst e1 e2 e3
      have HM := hideIt hM
      clear hR hO hX hlo hsz hM hB HI HBI
      by_cases hlt : k < hs.length
      · obtain ⟨b, o, v, hA, hb, hv, hc⟩ := (HSD.out.below HLW5.out).at_ hlt
        rw [List.getElem?_map, List.getElem?_eq_getElem hlt] at hv
        injection hv with hv
        subst hv hA
        have hki : (k : Int) < (hs.length : Int) := by omega
        have hinc := inc_c 3 k (by omega)
        have HHV := hideIt (show hvF hs k = hs[k] by simp [hvF, List.getD_eq_getElem?_getD, hlt])
        have hkw : k < n + x.par.length := by rw [← HLEN.out]; exact hlt
        have HKW := hideIt hkw
        generalize hs[k] = bk at *
        change w5.cell? ⟨b, o + k, none⟩ = some (.bool bk) at hc
        clear hb hkw
        cases bk with
        | false =>
          go_wp2_with fail
          go_roundg (ko - 1)
          case measure => omega
          case rel => exact ⟨k + 1, by omega, by go_num, ⟨⟨pv, Q, _, _, _, gs, by rw [bas_abs (by rw [HHV.out]; decide), ← HBB.out]; exact HR.out, by rw [bas_abs (by rw [HHV.out]; decide), ← HBB.out]; exact HO.out, HX.out⟩, HLO.out⟩⟩
        | true =>
          have HF := hideIt (isFull_any pb m (n + x.par.length) n B.length _ _ _ uA uc w5 HX.out)
          have HBX := hideIt (fun (W : World) (h : Below w5.heap.size w5 W) => HX.out.kept h HX.out.lt)
          have HPR5 := hideIt (fun (W : World) (h : Below w5.heap.size w5 W) => HPR.out.kept (HLW5.out.trans (h.mono HLW5.out.size)) HPR.out.lt)
          by_cases hfull : B.length = n
          · rw [decide_eq_true hfull] at HF
            have HST := hideIt (show basL x hs = B by
              rw [HBL.out, show hs.length = k + (hs.length - k) by omega, HBB.out]
              exact bas_stop HVC.out.fm HGV.out (by rw [← HBB.out]; exact hfull) _)
            clear hfull
            go_wp2_with (first
              | (go_at_call 89; refine HF.out.mono ?_; rintro e w6 ⟨rfl, hb6⟩; have HB6 := hideIt hb6; clear hb6 HF)
              | ((with_reducible refine at_load ?_); refine wpList_ldB (by kernel_rfl) (.tmp 8) rfl (p := pb) rfl (HBX.out _ HB6.out) ?_)
              | ((with_reducible refine at_store ?_); refine wpList_stB rfl (.tmp 4) (.tmp 53) rfl (p := w.heap.size + 1) rfl rfl rfl rfl rfl rfl (HPR5.out _ HB6.out) rfl ?_; intro w8 HT8 HB8))
            try rw [Exit.noGoto_ret]
            refine bodyPost_ret (results_two rfl _ _ (w.heap.size + 1) _ _ _ rfl HB8.out Tryd.underlying100 rfl isz7) rfl ?_
            have h6 := HO.out.keep HSZ.out HB6.out
            have hR6 := HR.out
            rw [← HST.out] at h6 hR6 ⊢
            exact basOk_of hR6 h6 (own_kept HOG.out ((by rw [HZP.out.2.2]; exact HLO.out : Below W4.heap.size W4 w5).trans (HB6.out.mono (by have := HSZ.out; have := HZP.out; omega)))) HN3.out (HB.out.trans ((HLW5.out.trans (HB6.out.mono HLW5.out.size)).mono HB.out.size)) (by have := HW2S.out; have := HZP.out; omega) (Nat.le_trans HSZ.out HB6.out.size) (HPR5.out _ HB6.out) HT8.out
          · rw [decide_eq_false hfull] at HF
            have HRD := hideIt (fun (W : World) (h : Below w5.heap.size w5 W) => reduced_any HVC.out HR.out HBN.out k HKW.out pb HN3.out W (HT.out.keep (HLW5.out.trans (h.mono HLW5.out.size))) (HBX.out _ h) (HM.out.keep h))
            have HLT := hideIt (show B.length < n by have := HBN.out; omega)
            have HRV := hideIt (rd_v (Q := Q) (pv := pv) HVC.out.fm (pad_v (n := n) (HGV.out k)) B.length)
            have HIS := hideIt (rd_is HVC.out.fm HR.out HGV.out (u := k))
            have HADD := hideIt (fun c hc h0 => rdc_add HVC.out.fm HR.out HGV.out (u := k) (c := c) HLT.out hc h0)
            clear hfull
            generalize rd m Q pv (pad n (gC x k)) B.length = r at *
            have HBC5 := hideIt (fun (W : World) (h : Below w5.heap.size w5 W) => (HBC.out.keep (HLW5.out.trans (h.mono HLW5.out.size))).c2)
            go_wp2_with (first
              | (go_at_call 89; refine HF.out.mono ?_; rintro e w6 ⟨rfl, hb6⟩; have HB6 := hideIt hb6; clear hb6 HF)
              | (go_at_call 90; refine (HRD.out _ HB6.out).mono ?_; rintro e w7 ⟨g, rfl, hg7, hk7, hb7⟩; have HB7 := hideIt (HB6.out.trans (hb7.mono HB6.out.size)); have HG7 := hideIt (And.intro (Nat.le_trans HB6.out.size hg7) hk7); clear hg7 hk7 hb7 HRD))
            go_loopg [12] n (fun gk s12 wr => ∃ j : Nat, j + gk = n ∧ j < n ∧ s12 = .int .i64 (j : Int) ∧ wr = w7 ∧ Aside (∀ i, i < j → r i = 0))
            case atStart => exact ⟨0, by omega, by omega, rfl, rfl, fun i hi => absurd hi (Nat.not_lt_zero i)⟩
            case round =>
              obtain ⟨j, hj, hjn, rfl, rfl, HZ⟩ := hrel
              obtain ⟨w7, rfl⟩ : ∃ x, x = wr := ⟨wr, rfl⟩
              have hcg := HG7.out.2.cell j
              rw [iv_at (by omega)] at hcg
              have hji : (j : Int) < ((n + n : Nat) : Int) := by omega
              have hinj := inc_c 3 j (by omega)
              have c2 := HBC5.out _ HB7.out
              by_cases h0 : r j = 0
              · have hq : binOp .eql 3 (.int .i64 ((j : Int) + 1)) (.int .i64 x.data) = pure (.bool (decide (j + 1 = n))) := by
                  have := i_eql 3 .i64 ((j : Int) + 1) x.data
                  rw [show decide ((j : Int) + 1 = x.data) = decide (j + 1 = n) from decide_eq_decide.2 (by have := HVC.out.d; omega)] at this
                  exact this
                rw [h0] at hcg
                have HZ2 := hideIt (show ∀ i, i < j + 1 → r i = 0 from fun i hi => by
                  by_cases e : i = j
                  · rw [e]; exact h0
                  · exact HZ.out i (by omega))
                clear h0
                by_cases hend : j + 1 = n
                · rw [decide_eq_true hend] at hq
                  have HD := hideIt (show bas m n (gC x) (hvF hs) (k + 1) = B by
                    rw [HBB.out]
                    refine bas_dep ?_
                    rw [← HBB.out]
                    exact HIS.out.1 fun i hi => HZ2.out i (by omega))
                  clear hend
                  go_wp2_with fail
                  go_roundg (ko - 1)
                  case measure => omega
                  case rel => exact ⟨k + 1, by omega, by go_num, ⟨⟨pv, Q, _, _, _, gs, by rw [HD.out]; exact HR.out, by rw [HD.out]; exact HO.out.keep HSZ.out HB7.out, HBX.out _ HB7.out⟩, HLO.out.trans (HB7.out.mono HSZ.out)⟩⟩
                · rw [decide_eq_false hend] at hq
                  have HJ := hideIt (show j + 1 < n by omega)
                  clear hend
                  go_wp2_with fail
                  go_roundg (gk - 1)
                  case measure => omega
                  case rel => exact ⟨j + 1, by omega, HJ.out, by go_num, rfl, HZ2.out⟩
              · have hq : binOp .eql 3 (.int .i64 (r j : Int)) (.int .i64 0) = pure (.bool false) := by
                  have := i_eql 3 .i64 (r j : Int) 0
                  rw [decide_eq_false (show ¬ ((r j : Nat) : Int) = 0 by omega)] at this
                  exact this
                have HND := hideIt (show ¬ Dep m n B.length (sel (gC x) B) (gC x k) from fun hd => h0 (HIS.out.2 hd j hjn))
                have HH0 := hideIt h0
                have HO7 := hideIt (HO.out.keep HSZ.out HB7.out)
                have HEX := hideIt (extend_any pb HVC.out B pv Q A3 c3 _ _ _ gs pb k j g r HRV.out HR.out.len HLT.out hjn h0 w7 (HT.out.keep (HLW5.out.trans (HB7.out.mono HLW5.out.size))) HO7.out (HBX.out _ HB7.out) (Nat.le_refl _) HTB.out HG7.out.2 (Nat.le_trans HSZ.out HG7.out.1)
                  (fun e => by have := (HO.out.uni.lt _ e).2; have := HG7.out.1; omega) (fun e => by have := (HO.out.piv.lt _ e).2; have := HG7.out.1; omega) (fun i hi e => by have := (HO.out.dat i hi).1.lt; have := HG7.out.1; omega))
                clear h0 hinj c2
                generalize hrj : r j = rj at hcg hq
                clear hrj
                go_wp2_with (first
                  | (go_at_call 91; refine HEX.out.mono ?_; rintro e w8 ⟨rfl, vU, vR, vP, ho8, hx8, hb8⟩; have H8 := hideIt (And.intro ho8 (And.intro hx8 hb8)); clear ho8 hx8 hb8 HEX))
                go_roundg (ko - 1)
                case measure => omega
                case rel =>
                  have e : bas m n (gC x) (hvF hs) (k + 1) = B ++ [k] := by
                    rw [HBB.out]
                    refine bas_new HHV.out ?_
                    rw [← HBB.out]
                    exact HND.out
                  refine ⟨k + 1, by omega, by go_num, ⟨⟨pv ++ [j], addQ Q B.length (newR m n r B.length j), vU, vR, vP, upd gs B.length g, ?_, ?_, H8.out.2.1⟩, (HLO.out.trans (HB7.out.mono HSZ.out)).trans H8.out.2.2⟩⟩
                  · rw [e]; exact HADD.out j hjn HH0.out
                  · rw [e]; exact H8.out.1
      · have hki : ¬ (k : Int) < (hs.length : Int) := by omega
        have HST := hideIt (show basL x hs = B by rw [HBL.out, show hs.length = k by omega, HBB.out])
        have HPR5 := hideIt (HPR.out.kept HLW5.out HPR.out.lt)
        go_wp2_with (first
          | ((with_reducible refine at_load ?_); refine wpList_ldB (by kernel_rfl) (.tmp 8) rfl (p := pb) rfl HX.out ?_)
          | ((with_reducible refine at_store ?_); refine wpList_stB rfl (.tmp 4) (.tmp 53) rfl (p := w.heap.size + 1) rfl rfl rfl rfl rfl rfl HPR5.out rfl ?_; intro w8 HT8 HB8))
        try rw [Exit.noGoto_ret]
        refine bodyPost_ret (results_two rfl _ _ (w.heap.size + 1) _ _ _ rfl HB8.out Tryd.underlying100 rfl isz7) rfl ?_
        have h6 := HO.out
        have hR6 := HR.out
        rw [← HST.out] at h6 hR6 ⊢
        exact basOk_of hR6 h6 (own_kept HOG.out (by rw [HZP.out.2.2]; exact HLO.out)) HN3.out (HB.out.trans (HLW5.out.mono HB.out.size)) (by have := HW2S.out; have := HZP.out; omega) HSZ.out HPR5.out HT8.out
  | false =>
    rw [q1] at HV
    show Calls _ _ _ _ fun e w' => e = .returned (.tuple #[zeroB, .int .i64 1]) ∧ Below w.heap.size w w'
    clear q1
    go_enter Tryd.func75, Tryd.ntmps75
    go_wp2_with fail
    go_step3
    go_wp2_with (first
      | (go_at_call 87; rw [← HWE.out]; refine HV.out.mono ?_; rintro e w1 ⟨rfl, hb1⟩; have HB1 := hideIt hb1; have HPR1 := hideIt (HPR.out.kept hb1 HPR.out.lt); clear hb1 HV)
      | ((with_reducible refine at_store ?_); refine wpList_stB rfl (.tmp 4) (.tmp 17) rfl (p := w.heap.size + 1) (F := 0) (R := 0) (C := 0) (g := .slice none 0 0) (u := .slice none 0 0) (r := .slice none 0 0) (v := .slice none 0 0) rfl rfl rfl rfl rfl rfl HPR1.out rfl ?_; intro w8 HT8 HB8))
    try rw [Exit.noGoto_ret]
    refine bodyPost_ret (results_two rfl _ _ (w.heap.size + 1) _ _ _ rfl HB8.out Tryd.underlying100 rfl isz7) rfl ?_
    exact ⟨rfl, HT8.out.below (HB.out.trans (HB1.out.mono HB.out.size)) HPL.out⟩
end

section
open Go.RowKit
set_option linter.unusedVariables false
set_option linter.unusedSimpArgs false
open Classical in
/-- The coefficients with which p rows add up to a row. -/
noncomputable def cof (m n p : Nat) (V : Mx) (r : Nat → Nat) : Nat → Nat := if h : Dep m n p V r then fun k => if k < p then h.choose k else 0 else fun _ => 0
theorem cof_is {m n p : Nat} {V : Mx} {r : Nat → Nat} (hi : Ind m n p V) {c : Nat → Nat} (hc : Vv m c) (h : ∀ j, j < n → r j = cb m p V c j) : ∀ k, k < p → cof m n p V r k = c k := fun k hk => by
  have hd : Dep m n p V r := ⟨c, hc, h⟩
  unfold cof
  rw [dif_pos hd, if_pos hk]
  exact hi.uniq hd.choose_spec.1 hc (fun j hj => by rw [← hd.choose_spec.2 j hj, h j hj]) k hk
theorem cof_spec {m n p : Nat} {V : Mx} {r : Nat → Nat} (hd : Dep m n p V r) : Vv m (cof m n p V r) ∧ (∀ j, j < n → r j = cb m p V (cof m n p V r) j) ∧ ∀ k, p ≤ k → cof m n p V r k = 0 := by
  unfold cof
  rw [dif_pos hd]
  refine ⟨fun k => ?_, fun j hj => ?_, fun k hk => if_neg (by omega)⟩
  · show (if k < p then hd.choose k else 0) < 2 ^ m
    split
    · exact hd.choose_spec.1 k
    · exact Nat.two_pow_pos m
  · rw [hd.choose_spec.2 j hj]
    exact cb_congr (fun k hk => by rw [if_pos hk]) fun _ _ => rfl
/-- The terms whose coefficient is not 0, among the first k. -/
def tms (B : List Nat) (c : Nat → Nat) : Nat → List (Nat × Nat)
  | 0 => []
  | k + 1 => if c k = 0 then tms B c k else tms B c k ++ [(B.getD k 0, c k)]
theorem tms_congr {B : List Nat} {c d : Nat → Nat} : ∀ {k : Nat}, (∀ i, i < k → c i = d i) → tms B c k = tms B d k
  | 0, _ => rfl
  | k + 1, h => by
    show ite _ _ _ = ite _ _ _
    rw [h k (Nat.lt_succ_self k), tms_congr fun i hi => h i (Nat.lt_succ_of_lt hi)]
theorem tms_more {B : List Nat} {c : Nat → Nat} {p : Nat} : ∀ d : Nat, (∀ i, p ≤ i → i < p + d → c i = 0) → tms B c (p + d) = tms B c p
  | 0, _ => rfl
  | d + 1, h => by
    show (if c (p + d) = 0 then tms B c (p + d) else tms B c (p + d) ++ [(B.getD (p + d) 0, c (p + d))]) = _
    rw [if_pos (h (p + d) (by omega) (by omega))]
    exact tms_more d fun i h1 h2 => h i h1 (by omega)
theorem tms_len (B : List Nat) (c : Nat → Nat) : ∀ k, (tms B c k).length ≤ k
  | 0 => Nat.le_refl _
  | k + 1 => by
    show (if c k = 0 then tms B c k else tms B c k ++ [(B.getD k 0, c k)]).length ≤ _
    split
    · have := tms_len B c k; omega
    · rw [List.length_append]; have := tms_len B c k; simp; omega
theorem tms_mem {B : List Nat} {c : Nat → Nat} : ∀ {k : Nat} {t : Nat × Nat}, t ∈ tms B c k → ∃ i, i < k ∧ t = (B.getD i 0, c i) ∧ c i ≠ 0
  | 0, t, h => by cases h
  | k + 1, t, h => by
    by_cases h0 : c k = 0
    · rw [show tms B c (k + 1) = tms B c k from if_pos h0] at h
      obtain ⟨i, h1, h2⟩ := tms_mem h
      exact ⟨i, by omega, h2⟩
    · rw [show tms B c (k + 1) = tms B c k ++ [(B.getD k 0, c k)] from if_neg h0] at h
      rcases List.mem_append.1 h with h | h
      · obtain ⟨i, h1, h2⟩ := tms_mem h
        exact ⟨i, by omega, h2⟩
      · rw [List.mem_singleton] at h
        exact ⟨k, Nat.lt_succ_self k, h, h0⟩
abbrev fC (x : Cd) : Nat := x.field.toNat
abbrev nC (x : Cd) : Nat := x.data.toNat
/-- Is a unit's row a combination of the basis? -/
def recov (x : Cd) (hs : List Bool) (u : Nat) : Prop := Dep (fC x) (nC x) (basL x hs).length (sel (gC x) (basL x hs)) (gC x u)
noncomputable def cofU (x : Cd) (hs : List Bool) (u : Nat) : Nat → Nat := cof (fC x) (nC x) (basL x hs).length (sel (gC x) (basL x hs)) (gC x u)
open Classical in
noncomputable def trmR (x : Cd) (hs : List Bool) (u : Nat) : List (Nat × Nat) × Int := if recov x hs u then (tms (basL x hs) (cofU x hs u) (basL x hs).length, 0) else ([], 11)
def idxB (hs : List Bool) (u : Int) : Bool := decide (0 ≤ u ∧ u < hs.length)
noncomputable def combR (x : Cd) (hs : List Bool) (u : Int) : List (Nat × Nat) × Int := if okB x hs = true ∧ idxB hs u = true then trmR x hs u.toNat else ([], 1)
def sumR (m : Int) (ts : List (Nat × Nat)) (us : List (List UInt8)) : List UInt8 := cbS m (ts.map fun t => (t.2 : Int)) (ts.map fun t => us.getD t.1 [])
def presK (us : List (List UInt8)) (hs : List Bool) : Nat → List (List UInt8)
  | 0 => []
  | k + 1 => if hs.getD k false = true then presK us hs k ++ [us.getD k []] else presK us hs k
def readB (x : Cd) (us : List (List UInt8)) (hs : List Bool) : Bool := perB x us.length && alk (fC x) (presK us hs us.length)
noncomputable def recR (x : Cd) (us : List (List UInt8)) (hs : List Bool) (u : Int) : List UInt8 × Int :=
  if okB x hs = true ∧ idxB hs u = true ∧ readB x us hs = true then (if (trmR x hs u.toNat).2 = 0 then (sumR x.field (trmR x hs u.toNat).1 us, 0) else ([], (trmR x hs u.toNat).2)) else ([], 1)
noncomputable def decR (x : Cd) (us : List (List UInt8)) (hs : List Bool) : List (List UInt8) × Int :=
  if okB x hs = true ∧ readB x us hs = true then (if (basL x hs).length = nC x then ((List.range us.length).map (fun u => sumR x.field (trmR x hs u).1 us), 0) else ([], 11)) else ([], 1)
end

section
open Go.RowKit
set_option linter.unusedVariables false
set_option linter.unusedSimpArgs false
theorem EM.setc {w : World} {B g R n : Nat} {D : RD} {M : Mx} (h : EM w B g R n D M) {i j : Nat} (y : Nat) (hi : i < R) (hj : j < n) :
    EM (w.setCell ⟨D.b i, D.o i + j, none⟩ (.int .i64 (y : Int))) B g R n D (upd2 M i j y) := by
  have hs : Sel (fun k q => k = D.b i ∧ D.o i ≤ q ∧ q < D.o i + n) w (w.setCell ⟨D.b i, D.o i + j, none⟩ (.int .i64 (y : Int))) :=
    (Sel.refl (fun k q => k = D.b i ∧ D.o i ≤ q ∧ q < D.o i + n) w).setCell (S := fun k q => k = D.b i ∧ D.o i ≤ q ∧ q < D.o i + n) ⟨rfl, by omega, by omega⟩ _
  have hr := h.row i hi
  refine (h.added hi (f := fun c => if c = j then y else M i c) ⟨hr.adr, fun h0 => Nat.lt_of_lt_of_le (hr.lt h0) hs.size, fun c hc => ?_⟩ hs).congr fun r c hr hc => ?_
  · show _ = some (Value.int .i64 ((if c = j then y else M i c : Nat) : Int))
    by_cases e : c = j
    · subst e
      rw [if_pos rfl]
      exact World.cell?_setCell_same' _ _ _ (by rw [hr.cell c hc]; rfl)
    · rw [if_neg e]
      exact (World.cell?_setCell_other _ _ _ _ (by intro hh; injection hh with _ hh; omega)).trans (hr.cell c hc)
  · show (if r = i then (if c = j then y else M i c) else M r c) = if r = i ∧ c = j then y else M r c
    by_cases e : r = i
    · subst e
      rw [if_pos rfl]
      by_cases e2 : c = j
      · rw [if_pos e2, if_pos ⟨rfl, e2⟩]
      · rw [if_neg e2, if_neg (fun q => e2 q.2)]
    · rw [if_neg e, if_neg (fun q => e q.1)]
/-- What lies below is as it was when a matrix' cell or header is set. -/
theorem EM.low1 {w w0 : World} {B g R n : Nat} {D : RD} {M : Mx} (h : EM w B g R n D M) {i o : Nat} (hi : i < R) (h0 : 0 < n) (hb : Below B w0 w) (u : Value) : Below B w0 (w.setCell ⟨D.b i, o, none⟩ u) :=
  hb.setCell (p := ⟨D.b i, o, none⟩) (h.low h0 i hi).1 u
/-- Two slices of the header swapped, one after the other. -/
theorem EM.swap2 {w : World} {B g R n : Nat} {D : RD} {M : Mx} (h : EM w B g R n D M) {i k : Nat} (hi : i < R) (hk : k < R) (w1 : World) (hw1 : Below w.heap.size (w.setCell ⟨g, k, none⟩ (.slice (D.ad i) n (D.c i))) w1) :
    EM (w1.setCell ⟨g, i, none⟩ (.slice (D.ad k) n (D.c k))) B g R n (D.swap i k) (swp M i k) := by
  have s1 : Sel (fun b _ => b = g) w (w.setCell ⟨g, k, none⟩ (.slice (D.ad i) n (D.c i))) := (Sel.refl (fun b _ => b = g) w).setCell (S := fun b _ => b = g) rfl _
  have s2 : Sel (fun b _ => b = g) w w1 := s1.later hw1
  have s3 : Sel (fun b _ => b = g) w (w1.setCell ⟨g, i, none⟩ (.slice (D.ad k) n (D.c k))) := s2.setCell (S := fun b _ => b = g) rfl _
  have hc1 : ∀ x, x < R → w1.cell? ⟨g, x, none⟩ = some (if x = k then Value.slice (D.ad i) n (D.c i) else Value.slice (D.ad x) n (D.c x)) := fun x hx => by
    rw [hw1.cell (p := ⟨g, x, none⟩) h.glt]
    by_cases e : x = k
    · subst e
      rw [if_pos rfl]
      exact World.cell?_setCell_same' _ _ _ (by rw [h.hdr x hx]; rfl)
    · rw [if_neg e]
      exact (World.cell?_setCell_other _ _ _ _ (by intro hh; injection hh with _ hh; omega)).trans (h.hdr x hx)
  refine h.swapped hi hk s3 fun x hx => ?_
  show _ = some (Value.slice (D.ad (if x = i then k else if x = k then i else x)) n (D.c (if x = i then k else if x = k then i else x)))
  by_cases e : x = i
  · subst e
    rw [if_pos rfl]
    exact World.cell?_setCell_same' _ _ _ (by rw [hc1 x hx]; rfl)
  · rw [if_neg e, World.cell?_setCell_other _ _ _ _ (by intro hh; injection hh with _ hh; omega), hc1 x hx]
    by_cases e2 : x = k
    · rw [if_pos e2, if_pos e2]
    · rw [if_neg e2, if_neg e2]
/-- An own row that is not empty: its block. -/
theorem own_blk2 {w : World} {B n : Nat} {e : TypeId} {v : Value} {xs : List Value} (h : w.ownsRow B e 1 v n xs) (h0 : 0 < n) : ∃ g cap cs, v = .slice (some ⟨g, 0, none⟩) n cap ∧ n ≤ cap ∧ cap ≤ maxLen ∧ B ≤ g ∧ Blk w g e cs ∧ cs.take n = xs := by
  have hl := h.1
  rw [Nat.mul_one] at hl
  rcases h.2 with ⟨_, h2⟩ | ⟨k, cap, cur, hv, hb, hg, h1, h2, h3, h4⟩
  · subst h2; simp at hl; omega
  · refine ⟨k, cap, cur.toList, hv, h1, h2, hb, hg, ?_⟩
    rw [Nat.mul_one] at h4
    exact h4
theorem take_at {xs cs : List Value} {n j : Nat} {u : Value} (h : cs.take n = xs) (hj : xs[j]? = some u) : cs[j]? = some u := by
  subst h
  rw [List.getElem?_take] at hj
  split at hj
  · exact hj
  · cases hj
/-- Own rows under an own header. -/
theorem EM.of_rows {w : World} {B R n : Nat} {hd : Value} {vs : Nat → Value} {M : Mx} (hR : 0 < R) (hn : 0 < n) (hown : w.ownsRow B 36 1 hd R ((List.range R).map vs))
    (hrn : RN R (fun _ => 3) w B vs (fun _ => n) (fun i => (nl n (M i)).map iv)) : ∃ g cap D, hd = .slice (some ⟨g, 0, none⟩) R cap ∧ EM w B g R n D M := by
  obtain ⟨g, cap, cs, hv, hc1, hc2, hg, hb, ht⟩ := own_blk2 hown hR
  have hx : ∃ gs cs2 : Nat → Nat, ∀ i, i < R → vs i = .slice (some ⟨gs i, 0, none⟩) n (cs2 i) ∧ n ≤ cs2 i ∧ cs2 i ≤ maxLen ∧ B ≤ gs i ∧ ∃ l, Blk w (gs i) 3 l ∧ l.take n = (nl n (M i)).map iv := by
    have h1 : ∀ i : Nat, ∃ p : Nat × Nat, i < R → vs i = .slice (some ⟨p.1, 0, none⟩) n p.2 ∧ n ≤ p.2 ∧ p.2 ≤ maxLen ∧ B ≤ p.1 ∧ ∃ l, Blk w p.1 3 l ∧ l.take n = (nl n (M i)).map iv := fun i => by
      by_cases hi : i < R
      · obtain ⟨g, cap, l, h1, h2, h3, h4, h5, h6⟩ := own_blk2 (hrn.own i hi) hn
        exact ⟨(g, cap), fun _ => ⟨h1, h2, h3, h4, l, h5, h6⟩⟩
      · exact ⟨(0, 0), fun h => absurd h hi⟩
    exact ⟨fun i => (h1 i).choose.1, fun i => (h1 i).choose.2, fun i hi => (h1 i).choose_spec hi⟩
  obtain ⟨gs, cs2, hrow⟩ := hx
  refine ⟨g, cap, ⟨fun i => some ⟨gs i, 0, none⟩, gs, fun _ => 0, cs2⟩, hv, hb.lt, hg, fun i hi => ?_, fun i hi => hb.free i, fun i hi => ⟨(hrow i hi).2.1, (hrow i hi).2.2.1⟩, fun i hi => ?_, fun _ i hi => ⟨(hrow i hi).2.2.2.1, fun e => ?_⟩, fun i hi j hj => ?_, fun i k hi hk hne j l hj hl e => ?_⟩
  · rw [hb.cell, take_at ht (u := vs i) (by rw [List.getElem?_map, List.getElem?_range hi]; rfl), (hrow i hi).1]
  · obtain ⟨l, hl, htk⟩ := (hrow i hi).2.2.2.2
    exact ⟨fun _ => rfl, fun _ => hl.lt, fun j hj => by rw [Nat.zero_add, hl.cell, take_at htk (iv_at hj)]⟩
  · obtain ⟨l, hl, htk⟩ := (hrow i hi).2.2.2.2
    have e : gs i = g := e
    rw [e] at hl
    unfold Blk at hl hb
    rw [hl] at hb
    injection hb with hb
    injection hb with _ hb _
    exact absurd hb (by decide)
  · obtain ⟨l, hl, htk⟩ := (hrow i hi).2.2.2.2
    exact hl.free _
  · refine hrn.apart i k hi hk hne (gs i) (by rw [(hrow i hi).1]; rfl) ?_
    rw [(hrow k hk).1, show gs i = gs k from e.1]
    rfl
/-- A row while another one is added. -/
def mixK (P Q : Mx) (x k : Nat) : Mx := fun r q => if r = x ∧ q < k then Q r q else P r q
theorem mixK_zero (P Q : Mx) (x r q : Nat) : mixK P Q x 0 r q = P r q := by unfold mixK; rw [if_neg (by omega)]
theorem mixK_at (P Q : Mx) (x k r : Nat) : mixK P Q x k r k = P r k := by unfold mixK; rw [if_neg (by omega)]
theorem mixK_next (P Q : Mx) (x k y : Nat) (hy : y = Q x k) : upd2 (mixK P Q x k) x k y = mixK P Q x (k + 1) := by
  funext r q
  unfold upd2 mixK
  subst hy
  by_cases e : r = x ∧ q = k
  · rw [if_pos e, if_pos (by omega), e.1, e.2]
  · rw [if_neg e]
    by_cases e2 : r = x ∧ q < k
    · rw [if_pos e2, if_pos (by omega)]
    · rw [if_neg e2, if_neg (by omega)]
theorem half_same {m : Nat} {N : Mx} {top c x : Nat} {r q : Nat} (hr : r ≠ x) : half m N top c x r q = half m N top c (x + 1) r q := by
  unfold half
  by_cases e : r = top
  · rw [if_pos e, if_pos e]
  · rw [if_neg e, if_neg e]
    by_cases e2 : r < x
    · rw [if_pos e2, if_pos (by omega)]
    · rw [if_neg e2, if_neg (by omega)]
theorem mixK_all (m : Nat) (N : Mx) (top c x C r q : Nat) (hq : q < C) : mixK (half m N top c x) (half m N top c (x + 1)) x C r q = half m N top c (x + 1) r q := by
  unfold mixK
  by_cases e : r = x
  · rw [if_pos ⟨e, hq⟩]
  · rw [if_neg (fun h => e h.1), half_same e]
theorem half_skip0 (m : Nat) (N : Mx) (top c x : Nat) (h : N x c = 0) : half m N top c x = half m N top c (x + 1) := by
  funext r q
  by_cases e : r = x
  · subst e
    unfold half
    by_cases e1 : r = top
    · rw [if_pos e1, if_pos e1]
    · rw [if_neg e1, if_neg e1, if_neg (by omega), if_pos (by omega), h, mul_zeroR, Nat.xor_zero]
  · exact half_same e
theorem half_top (m : Nat) (N : Mx) (top c x k : Nat) : half m N top c x top k = mul m (N top k) (inv m (N top c)) := by
  unfold half; rw [if_pos rfl]
theorem half_new {m : Nat} (hm : Fm m) {N : Mx} (hN : Vm m N) {top c x : Nat} (h : x ≠ top) (k : Nat) : half m N top c x x k ^^^ mul m (N x c) (half m N top c x top k) = half m N top c (x + 1) x k := by
  rw [half_top]
  unfold half
  rw [if_neg h, if_neg (by omega), if_neg h, if_pos (by omega), mul_comm hm (hN x c) (mul_lt hm _ (hN top k))]
/-- A row while it is scaled. -/
def sclK (m iv : Nat) (N : Mx) (top j : Nat) : Mx := fun r q => if r = top ∧ q < j then mul m iv (N top q) else N r q
theorem sclK_zero (m iv : Nat) (N : Mx) (top r q : Nat) : sclK m iv N top 0 r q = N r q := by unfold sclK; rw [if_neg (by omega)]
theorem sclK_at (m iv : Nat) (N : Mx) (top j : Nat) : sclK m iv N top j top j = N top j := by unfold sclK; rw [if_neg (by omega)]
theorem sclK_next (m iv : Nat) (N : Mx) (top j y : Nat) (hy : y = mul m iv (N top j)) : upd2 (sclK m iv N top j) top j y = sclK m iv N top (j + 1) := by
  funext r q
  unfold upd2 sclK
  subst hy
  by_cases e : r = top ∧ q = j
  · rw [if_pos e, if_pos (by omega), e.2]
  · rw [if_neg e]
    by_cases e2 : r = top ∧ q < j
    · rw [if_pos e2, if_pos (by omega)]
    · rw [if_neg e2, if_neg (by omega)]
theorem sclK_all {m : Nat} (hm : Fm m) {N : Mx} (hN : Vm m N) (top c n r q : Nat) (hq : q < n) : sclK m (inv m (N top c)) N top n r q = half m N top c 0 r q := by
  unfold sclK half
  by_cases e : r = top
  · rw [if_pos ⟨e, hq⟩, if_pos e, mul_comm hm (inv_lt hm _) (hN top q)]
  · rw [if_neg (fun h => e h.1), if_neg e, if_neg (by omega)]
theorem RN.snoc {N : Nat} {es : Nat → TypeId} {w w' : World} {B : Nat} {vs : Nat → Value} {ks : Nat → Nat} {ls : Nat → List Value} (h : RN N es w B vs ks ls) (hb : Below w.heap.size w w') {v : Value} {k : Nat} {l : List Value} (ho : w'.ownsRow w.heap.size (es N) 1 v k l) (hB : B ≤ w.heap.size) :
    RN (N + 1) es w' B (upd vs N v) (upd ks N k) (upd ls N l) := by
  have nw : ∀ i, i < N → Apart (vs i) v := fun i hi k hk hk' => by
    have h1 := ((h.own i hi).lt k hk).2
    have h2 := (ho.lt k hk').1
    omega
  refine ⟨fun i hi => ?_, fun i j hi hj hne => ?_⟩
  · unfold upd
    by_cases e : i = N
    · subst e
      rw [if_pos rfl, if_pos rfl, if_pos rfl]; exact own_base ho hB
    · rw [if_neg e, if_neg e, if_neg e]; exact own_kept (h.own i (by omega)) hb
  · unfold upd
    by_cases e : i = N
    · rw [if_pos e, if_neg (by omega)]; exact (nw j (by omega)).symm
    · rw [if_neg e]
      by_cases e2 : j = N
      · rw [if_pos e2]; exact nw i (by omega)
      · rw [if_neg e2]; exact h.apart i j (by omega) (by omega) hne
theorem RN.snil {N : Nat} {es : Nat → TypeId} {w : World} {B : Nat} {vs : Nat → Value} {ks : Nat → Nat} {ls : Nat → List Value} (h : RN N es w B vs ks ls) : RN (N + 1) es w B (upd vs N (.slice Option.none 0 0)) (upd ks N 0) (upd ls N []) := by
  have nw : ∀ i, Apart (vs i) (.slice Option.none 0 0) := fun i k _ hk => by cases hk
  refine ⟨fun i hi => ?_, fun i j hi hj hne => ?_⟩
  · unfold upd
    by_cases e : i = N
    · rw [if_pos e, if_pos e, if_pos e]; exact World.ownsRow_nil _ _ _ _
    · rw [if_neg e, if_neg e, if_neg e]; exact h.own i (by omega)
  · unfold upd
    by_cases e : i = N
    · rw [if_pos e, if_neg (by omega)]; exact (nw j).symm
    · rw [if_neg e]
      by_cases e2 : j = N
      · rw [if_pos e2]; exact nw i
      · rw [if_neg e2]; exact h.apart i j (by omega) (by omega) hne
theorem RN.cong {N : Nat} {es : Nat → TypeId} {w : World} {B : Nat} {vs vs' : Nat → Value} {ks ks' : Nat → Nat} {ls ls' : Nat → List Value} (h : RN N es w B vs ks ls) (hv : ∀ i, i < N → vs i = vs' i) (hk : ∀ i, i < N → ks i = ks' i) (hl : ∀ i, i < N → ls i = ls' i) : RN N es w B vs' ks' ls' :=
  ⟨fun i hi => by rw [← hv i hi, ← hk i hi, ← hl i hi]; exact h.own i hi, fun i j hi hj hne => by rw [← hv i hi, ← hv j hj]; exact h.apart i j hi hj hne⟩
/-- A row of another type grows: the rows are as they were. -/
theorem RN.other {N : Nat} {e e' : TypeId} {w w' : World} {B B' k n : Nat} {v : Value} {xs : List Value} {vs : Nat → Value} {ks : Nat → Nat} {ls : Nat → List Value} (h : RN N (fun _ => e) w B vs ks ls) (ho : w.ownsRow B' e' k v n xs) (ht : e ≠ e') (hg : w.grownBy w' v.ownBlock) : RN N (fun _ => e) w' B vs ks ls :=
  ⟨fun i hi => (h.own i hi).kept hg (own_apart2 (h.own i hi) ho ht).kept, h.apart⟩
theorem upd_at {α : Type} (f : Nat → α) (i : Nat) (x : α) : upd f i x i = x := by simp [upd]
theorem upd_ne {α : Type} (f : Nat → α) {i j : Nat} (x : α) (h : j ≠ i) : upd f i x j = f j := by simp [upd, h]
theorem map_upd (vs : Nat → Value) (j : Nat) (v : Value) : (List.range j).map (upd vs j v) = (List.range j).map vs :=
  List.map_congr_left fun i hi => by rw [upd_ne]; have := List.mem_range.1 hi; omega
abbrev syC (m : Int) (v : Value) : List Value := [.int .i64 m, v]
/-- The system while it is built. -/
structure XB (m B ps : Nat) (w0 W : World) (j N : Nat) (hd : Value) (vs : Nat → Value) (ks : Nat → Nat) (ls : Nat → List Value) : Prop where
  box : Blk W ps 114 (syC (m : Int) hd)
  hdr : W.ownsRow B 36 1 hd j ((List.range j).map vs)
  rn : RN N (fun _ => 3) W B vs ks ls
  low : Below w0.heap.size w0 W
  sz : B ≤ W.heap.size
  psl : ps < B
  lb : w0.heap.size ≤ ps
section
variable {m B ps : Nat} {w0 W W' : World} {j N : Nat} {hd : Value} {vs : Nat → Value} {ks : Nat → Nat} {ls : Nat → List Value}
theorem XB.keep (h : XB m B ps w0 W j N hd vs ks ls) (hb : Below W.heap.size W W') : XB m B ps w0 W' j N hd vs ks ls :=
  ⟨h.box.kept hb h.box.lt, own_kept h.hdr hb, h.rn.below hb, h.low.trans (hb.mono h.low.size), Nat.le_trans h.sz hb.size, h.psl, h.lb⟩
/-- A new row, empty yet. -/
theorem XB.eq0 (h : XB m B ps w0 W j j hd vs ks ls) : XB m B ps w0 W j (j + 1) hd (upd vs j (.slice none 0 0)) (upd ks j 0) (upd ls j []) :=
  ⟨h.box, by rw [map_upd]; exact h.hdr, h.rn.snil, h.low, h.sz, h.psl, h.lb⟩
/-- The last row grows. -/
theorem XB.app {v : Value} {k : Nat} {l : List Value} (h : XB m B ps w0 W j (j + 1) hd (upd vs j v) (upd ks j k) (upd ls j l)) {o : Obj} {v' : Value} {k' : Nat} {l' : List Value}
    (ho : W'.ownsRow B 3 1 v' k' l') (hg : (W.alloc o).grownBy W' v.ownBlock) (hat : v'.ownBlock = v.ownBlock ∨ v'.ownBlock = some (W.alloc o).heap.size) : XB m B ps w0 W' j (j + 1) hd (upd vs j v') (upd ks j k') (upd ls j l') := by
  have h2 := h.keep (below_new W o)
  have ho2 := h2.rn.own j (Nat.lt_succ_self j)
  rw [upd_at, upd_at, upd_at] at ho2
  have hr := h2.rn.step j (Nat.lt_succ_self j) (v' := v') (by rw [upd_at]; exact hg) ho (by rw [upd_at]; exact hat)
  refine ⟨h2.box.grown hg (own_ne ho2 h2.box (by decide)), ?_, hr.cong (fun i _ => ?_) (fun i _ => ?_) (fun i _ => ?_), below_grown h2.low ho2 (by have := h.psl; have := h.lb; omega) h2.low.size hg, Nat.le_trans h2.sz hg.size, h.psl, h.lb⟩
  · have h3 := h2.hdr.kept hg (own_apart2 h2.hdr ho2 (by decide)).kept
    rw [map_upd] at h3 ⊢
    exact h3
  · by_cases e : i = j
    · subst e; rw [upd_at, upd_at]
    · rw [upd_ne _ _ e, upd_ne _ _ e, upd_ne _ _ e]
  · by_cases e : i = j
    · subst e; rw [upd_at, upd_at]
    · rw [upd_ne _ _ e, upd_ne _ _ e, upd_ne _ _ e]
  · by_cases e : i = j
    · subst e; rw [upd_at, upd_at]
    · rw [upd_ne _ _ e, upd_ne _ _ e, upd_ne _ _ e]
/-- The header grows and is stored in the box. -/
theorem XB.happ (h : XB m B ps w0 W j (j + 1) hd vs ks ls) {o : Obj} {hd' : Value}
    (ho : W'.ownsRow B 36 1 hd' (j + 1) ((List.range (j + 1)).map vs)) (hg : (W.alloc o).grownBy W' hd.ownBlock) : XB m B ps w0 (W'.setCell ⟨ps, 1, none⟩ hd') (j + 1) (j + 1) hd' vs ks ls := by
  have h2 := h.keep (below_new W o)
  have hbx := h2.box.grown hg (own_ne h2.hdr h2.box (by decide))
  have hrn := h2.rn.other h2.hdr (by decide) hg
  have hlo := below_grown h2.low h2.hdr (by have := h.psl; have := h.lb; omega) h2.low.size hg
  refine ⟨hbx.store 1 hd', own_set ho hbx (by decide) _ _, ⟨fun i hi => own_set (hrn.own i hi) hbx (by decide) _ _, hrn.apart⟩, hlo.setCell (p := ⟨ps, 1, none⟩) h.lb _, ?_, h.psl, h.lb⟩
  · have : (W'.setCell ⟨ps, 1, none⟩ hd').heap.size = W'.heap.size := by simp [World.setCell]
    rw [this]; exact Nat.le_trans h2.sz hg.size
end
theorem rtimes8_any (m a b : Nat) (hm : Fm m) (ha : a < 2 ^ m) (hb : b < 2 ^ m) (w : World) :
    Calls Tryd.prog 98 #[.int .i64 (m : Int), .int .i64 (a : Int), .int .i64 (b : Int)] w fun e w' => e = .returned (.int .i64 ((mul m a b : Nat) : Int)) ∧ w = w' := by
  have HM := hideIt (rmul_any (m : Int) (a : Int) (b : Int) w)
  rw [mlR_is hm ha hb] at HM
  clear hm ha hb
  generalize mul m a b = y at *
  go_enter Tryd.func98, Tryd.ntmps98
  go_wp2_with (first
    | (go_at_call 105; refine HM.out.mono ?_; rintro e w' ⟨rfl, rfl⟩))
  go_ret
  exact ⟨rfl, rfl⟩
theorem rinverse8_any (m a : Nat) (hm : Fm m) (ha : a < 2 ^ m) (h0 : a ≠ 0) (w : World) :
    Calls Tryd.prog 97 #[.int .i64 (m : Int), .int .i64 (a : Int)] w fun e w' => e = .returned (.int .i64 ((inv m a : Nat) : Int)) ∧ w = w' := by
  have HM := hideIt (rinv_any (m : Int) (a : Int) w)
  rw [invR_is hm ha h0] at HM
  clear hm ha h0
  generalize inv m a = y at *
  go_enter Tryd.func97, Tryd.ntmps97
  go_wp2_with (first
    | (go_at_call 78; refine HM.out.mono ?_; rintro e w' ⟨rfl, rfl⟩))
  go_ret
  exact ⟨rfl, rfl⟩
end

section
open Go.RowKit
set_option linter.unusedVariables false
set_option linter.unusedSimpArgs false
theorem vd8 : vd 8 0 = true := by decide
theorem vd16 : vd 16 0 = true := by decide
/-- A code of the size that the laws look at. -/
structure Sm (x : Cd) : Prop where
  data : x.data ≤ 12
  par : x.par.length ≤ 8
  row : ∀ l ∈ x.par, l.length ≤ 12
theorem add_sm (T : TypeId) (a : Int) (b : Nat) (h : 1 ≤ a ∧ a ≤ 12) (hb : b ≤ 8) : binOp .add T (.int .i64 a) (.int .i64 (b : Int)) = pure (.int .i64 (a + b)) := by
  rw [binOp_add]
  simp only [Op.intArith]
  rw [IntWalk.i64_in _ (by omega)]
set_option maxHeartbeats 4000000 in
set_option maxRecDepth 100000 in
theorem rvalid8_any (x : Cd) (A : Option Addr) (c : Nat) (w : World) (hx : CIn w x A) (hsm : Sm x) :
    Calls Tryd.prog 26 #[x.v A c] w fun e w' => e = .returned (.bool (vC x)) ∧ Below w.heap.size w w' := by
  obtain ⟨W, hW⟩ : ∃ W, W = w.alloc (.cells (x.cs A c).toArray 24) := ⟨_, rfl⟩
  have hbw : Below w.heap.size w W := by rw [hW]; exact below_new w _
  have HB := hideIt hbw
  have HBC := hideIt (show BC W w.heap.size x A c by rw [hW]; exact BC.new c hx)
  have c1 := HBC.out.c1
  have c2 := HBC.out.c2
  have c3 := HBC.out.c3
  have hnot := not_b
  rw [hW] at c1 c2 c3
  obtain ⟨r, hr⟩ : ∃ r, r = vC x := ⟨_, rfl⟩
  rw [← hr]
  unfold vC at hr
  have HR := hideIt hr
  have HSM := hideIt hsm
  have hp8 := hsm.par
  have hd12 := hsm.data
  have HWE := hideIt hW
  clear hbw hx hW hsm hr
  have h8 := i_neq 3 .i64 x.field 8
  have h16 := i_neq 3 .i64 x.field 16
  by_cases q1 : vd x.field 0 = true
  · have hf : (decide (x.field ≠ 8) = true ∧ decide (x.field ≠ 16) = false) ∨ decide (x.field ≠ 8) = false := by
      obtain ⟨k, y, hk, hy, hm, _⟩ := vd_spec q1
      rcases hm with rfl | rfl
      · exact .inr (decide_eq_false (by omega))
      · exact .inl ⟨decide_eq_true (by omega), decide_eq_false (by omega)⟩
    rw [q1, Bool.true_and] at HR
    have HM := hideIt (fun a W => rvalid_any x.field a W)
    clear q1
    generalize decide (x.field ≠ 8) = b8 at *
    generalize decide (x.field ≠ 16) = b16 at *
    by_cases q2 : 1 ≤ x.data
    · have hadd := add_sm 3 x.data x.par.length ⟨q2, hd12⟩ hp8
      have hd1 : ¬ x.data < 1 := by omega
      have hd2 : ¬ x.data + (x.par.length : Int) > 32 := by omega
      have HR2 : Hid (r = x.par.all (rowOk x.field x.data)) := hideIt (by rw [HR.out, decide_eq_true q2, decide_eq_true (by omega), Bool.true_and, Bool.true_and])
      have HD := hideIt q2
      clear HR
      rcases hf with ⟨rfl, rfl⟩ | rfl
      all_goals
      ·
          go_enter Tryd.func26, Tryd.ntmps26
          go_wp2_with fail
          rw [← HWE.out] at c1 c2 c3 ⊢
          clear c1 c2 c3 hadd hd1 hd2 h8 h16
          go_loopg [3] x.par.length (fun g s3 wr => ∃ j : Nat, j + g = x.par.length ∧ s3 = .int .i64 (j : Int) ∧ Aside (Below W.heap.size W wr) ∧ Aside ((x.par.take j).all (rowOk x.field x.data) = true))
          case atStart => exact ⟨0, by omega, rfl, Below.refl _ _, by simp [Aside]⟩
          case round =>
            obtain ⟨j, hj, rfl, HBW, HI⟩ := hrel
            obtain ⟨w2, rfl⟩ : ∃ x, x = wr := ⟨wr, rfl⟩
            obtain ⟨ko, rfl⟩ : ∃ x, x = gk := ⟨gk, rfl⟩
            have HBC2 := hideIt (HBC.out.keep HBW.out)
            have c1 := HBC2.out.c1
            have c2 := HBC2.out.c2
            have c3 := HBC2.out.c3
            by_cases hlt : j < x.par.length
            · obtain ⟨b, o, A', c', hA, hb, hcell, hsl⟩ := HBC2.out.cin.pm.row hlt
              have hrl := HSM.out.row _ (List.getElem_mem hlt)
              have HTK := hideIt (take_snoc x.par j hlt)
              have HF := hideIt (fun h => all_at (p := rowOk x.field x.data) hlt h)
              subst hA
              have hinc := inc_c 3 j (by omega)
              have hji : (j : Int) < (x.par.length : Int) := by omega
              have hq := i_neq 3 .i64 (x.par[j].length : Int) x.data
              generalize x.par[j] = l at *
              have HSL := hideIt hsl
              have HBB := hideIt hb
              have HRL := hideIt hrl
              clear hsl hb hrl
              by_cases q3 : (l.length : Int) = x.data
              · rw [decide_eq_false (fun h => h q3)] at hq
                have HQ3 := hideIt q3
                clear q3
                go_wp2_with fail
                go_quiet (fail)
                go_wp2_with fail
                have HBC3 := hideIt (HBC2.out.keep (below_drewN (Below.refl _ w2) 1))
                clear hq c1 c2 c3
                have HCL := hideIt hcell
                clear hcell
                go_loopg [4, 5] l.length (fun g s4 s5 wr => ∃ (k : Nat) (bb : Bool), k + g = l.length ∧ s4 = .bool bb ∧ s5 = .int .i64 (k : Int) ∧ Aside (Below w2.heap.size w2 wr) ∧ Aside (bb = (l.take k).any (fun a => decide (a ≠ 0))) ∧ Aside ((l.take k).all (vd x.field) = true))
                case atStart => exact ⟨0, false, by omega, rfl, rfl, below_drewN (Below.refl _ _) _, by simp [Aside], by simp [Aside]⟩
                case round =>
                  obtain ⟨k, bb, hk, rfl, rfl, HBW3, HI2, HI3⟩ := hrel
                  obtain ⟨w3, rfl⟩ : ∃ x, x = wr := ⟨wr, rfl⟩
                  have HBC4 := hideIt (HBC2.out.keep HBW3.out)
                  have c1 := HBC4.out.c1
                  have c2 := HBC4.out.c2
                  have c3 := HBC4.out.c3
                  have hcell := (HBW3.out.cell (p := ⟨b, o + j, none⟩) HBB.out).trans HCL.out
                  by_cases hkl : k < l.length
                  · obtain ⟨b2, o2, hA2, hb2, hc4⟩ := HSL.out.num hkl
                    have hcell2 := (HBW3.out.cell (p := ⟨b2, o2 + k, none⟩) hb2).trans hc4
                    subst hA2
                    have hki : (k : Int) < x.data := by have := HQ3.out; omega
                    have hki2 : (k : Int) < (l.length : Int) := by omega
                    have HT2 := hideIt (take_snoc l k hkl)
                    have HF2 := hideIt (fun h => all_at (p := vd x.field) hkl h)
                    have hink := inc_c 3 k (by have := HRL.out; omega)
                    have hn0 := i_neq 3 .i64 l[k] 0
                    generalize l[k] = a at *
                    clear hb2 hc4
                    have HMa := hideIt (HM.out a)
                    cases hv : vd x.field a with
                    | true =>
                      rw [hv] at HMa
                      have HV := hideIt hv
                      clear hv
                      generalize hna : decide (a ≠ 0) = na at *
                      have HNA := hideIt hna
                      clear hna
                      go_wp2_with fail
                      go_quiet ((go_at_call 52; refine (HMa.out _).mono ?_; rintro e w' ⟨rfl, hw⟩; exact ⟨rfl, _, hw.symm⟩))
                      cases bb with
                      | true =>
                        go_wp2_with fail
                        go_roundg (gk - 1)
                        case measure => omega
                        case rel => exact ⟨k + 1, true, by omega, rfl, by go_num, below_drewN HBW3.out _, by show true = (l.take (k + 1)).any _; rw [HT2.out, List.any_append, ← HI2.out]; rfl, by show (l.take (k + 1)).all _ = true; rw [HT2.out, List.all_append, HI3.out]; simp [HV.out]⟩
                      | false =>
                        go_wp2_with fail
                        go_roundg (gk - 1)
                        case measure => omega
                        case rel => exact ⟨k + 1, na, by omega, rfl, by go_num, below_drewN HBW3.out _, by show na = (l.take (k + 1)).any _; rw [HT2.out, List.any_append, ← HI2.out, ← HNA.out]; simp, by show (l.take (k + 1)).all _ = true; rw [HT2.out, List.all_append, HI3.out]; simp [HV.out]⟩
                    | false =>
                      rw [hv] at HMa
                      have HE : Hid (r = false) := hideIt (by rw [HR2.out, HF.out (by unfold rowOk; rw [HF2.out hv, Bool.and_false, Bool.false_and])])
                      clear hv
                      go_wp2_with fail
                      go_quiet ((go_at_call 52; refine (HMa.out _).mono ?_; rintro e w' ⟨rfl, hw⟩; exact ⟨rfl, _, hw.symm⟩))
                      go_wp2_with fail
                      go_ret
                      exact ⟨by rw [HE.out]; rfl, HB.out.trans ((HBW.out.trans ((below_drewN HBW3.out _).mono HBW.out.size)).mono HB.out.size)⟩
                  · have hki : ¬ (k : Int) < x.data := by have := HQ3.out; omega
                    have HE1 : Hid (bb = l.any (fun a => decide (a ≠ 0))) := by
                      have := HI2.out
                      rw [List.take_of_length_le (by omega)] at this
                      exact this
                    have HE2 : Hid (l.all (vd x.field) = true) := by
                      have := HI3.out
                      rw [List.take_of_length_le (by omega)] at this
                      exact this
                    have HE3 : Hid (rowOk x.field x.data l = bb) := hideIt (by unfold rowOk; rw [decide_eq_true HQ3.out, HE2.out, ← HE1.out, Bool.true_and, Bool.true_and])
                    cases bb with
                    | true =>
                      go_wp2_with fail
                      go_roundg (ko - 1)
                      case measure => omega
                      case rel => exact ⟨j + 1, by omega, by go_num, HBW.out.trans (HBW3.out.mono HBW.out.size), by show (x.par.take (j + 1)).all _ = true; rw [HTK.out, List.all_append, HI.out]; simp [HE3.out]⟩
                    | false =>
                      have HE : Hid (r = false) := hideIt (by rw [HR2.out, HF.out HE3.out])
                      go_wp2_with fail
                      go_ret
                      exact ⟨by rw [HE.out]; rfl, HB.out.trans ((HBW.out.trans (HBW3.out.mono HBW.out.size)).mono HB.out.size)⟩
              · rw [decide_eq_true q3] at hq
                have HE : Hid (r = false) := hideIt (by rw [HR2.out, HF.out (by unfold rowOk; rw [decide_eq_false q3, Bool.false_and, Bool.false_and])])
                clear q3
                go_wp2_with fail
                go_quiet (fail)
                go_wp2_with fail
                go_ret
                exact ⟨by rw [HE.out]; rfl, HB.out.trans ((below_drewN HBW.out _).mono HB.out.size)⟩
            · have hji : ¬ (j : Int) < (x.par.length : Int) := by omega
              have HE : Hid (r = true) := by
                have := HI.out
                rw [List.take_of_length_le (by omega)] at this
                rw [HR2.out]; exact this
              go_wp2_with fail
              go_ret
              exact ⟨by rw [HE.out]; rfl, HB.out.trans (HBW.out.mono HB.out.size)⟩
    · have hd1 : x.data < 1 := by omega
      have HR2 : Hid (r = false) := hideIt (by rw [HR.out, decide_eq_false q2, Bool.false_and, Bool.false_and])
      clear HR q2
      rcases hf with ⟨rfl, rfl⟩ | rfl
      all_goals
        go_enter Tryd.func26, Tryd.ntmps26
        go_wp2_with fail
        go_ret
        rw [← HWE.out]
        exact ⟨by rw [HR2.out]; rfl, HB.out⟩
  · rw [Bool.not_eq_true] at q1
    have HR2 : Hid (r = false) := hideIt (by rw [HR.out, q1, Bool.false_and, Bool.false_and, Bool.false_and])
    have e8 : decide (x.field ≠ 8) = true := decide_eq_true fun h => by rw [h, vd8] at q1; cases q1
    have e16 : decide (x.field ≠ 16) = true := decide_eq_true fun h => by rw [h, vd16] at q1; cases q1
    rw [e8] at h8
    rw [e16] at h16
    clear q1 e8 e16 HR
    go_enter Tryd.func26, Tryd.ntmps26
    go_wp2_with fail
    go_ret
    rw [← HWE.out]
    exact ⟨by rw [HR2.out]; rfl, HB.out⟩
set_option maxHeartbeats 1000000 in
theorem rwidth_any (x : Cd) (A : Option Addr) (c : Nat) (w : World) (hx : CIn w x A) (hsm : Sm x) :
    Calls Tryd.prog 27 #[x.v A c] w fun e w' => e = .returned (.int .i64 (wC x)) ∧ Below w.heap.size w w' := by
  obtain ⟨W, hW⟩ : ∃ W, W = w.alloc (.cells (x.cs A c).toArray 24) := ⟨_, rfl⟩
  have hbw : Below w.heap.size w W := by rw [hW]; exact below_new w _
  have HB := hideIt hbw
  have HBC := hideIt (show BC W w.heap.size x A c by rw [hW]; exact BC.new c hx)
  have HV := hideIt (rvalid8_any x A c W HBC.out.cin hsm)
  have hnot := not_b
  have HWE := hideIt hW
  clear hbw hx hW hsm
  unfold wC
  cases q : vC x with
  | true =>
    rw [q] at HV
    have hadd := add_ii 3 x.data x.par.length (vC_bounds q)
    rw [if_pos rfl]
    clear q
    go_enter Tryd.func27, Tryd.ntmps27
    go_wp2_with (first
      | (go_at_call 26; rw [← HWE.out]; refine HV.out.mono ?_; rintro e w1 ⟨rfl, hb1⟩; have HBC1 := hideIt (HBC.out.keep hb1); have HB1 := hideIt hb1; clear hb1; have c2 := HBC1.out.c2; have c3 := HBC1.out.c3))
    go_ret
    exact ⟨rfl, HB.out.trans (HB1.out.mono HB.out.size)⟩
  | false =>
    rw [q] at HV
    rw [if_neg (by decide)]
    clear q
    go_enter Tryd.func27, Tryd.ntmps27
    go_wp2_with (first
      | (go_at_call 26; rw [← HWE.out]; refine HV.out.mono ?_; rintro e w1 ⟨rfl, hb1⟩; have HB1 := hideIt hb1; clear hb1))
    go_ret
    exact ⟨rfl, HB.out.trans (HB1.out.mono HB.out.size)⟩
/-- A list of the call's own, handed back. -/
def IntV (w : World) (l : List Int) (e : Ending) (w' : World) : Prop := ∃ v, e = .returned v ∧ w'.ownsRow w.heap.size 3 1 v l.length (l.map iv) ∧ Below w.heap.size w w'
theorem sub_nat (T : TypeId) (a b : Nat) (h : b ≤ a) (ha : a ≤ 200000) : binOp .sub T (.int .i64 (a : Int)) (.int .i64 (b : Int)) = pure (.int .i64 ((a - b : Nat) : Int)) := nsub T a b h (by omega)
set_option maxHeartbeats 1600000 in
set_option maxRecDepth 100000 in
theorem rrow_any {x : Cd} {m n : Nat} (hvc : VC x m n) (A : Option Addr) (c : Nat) (w : World) (hx : CIn w x A) (u : Nat) (hu : u < n + x.par.length) :
    Calls Tryd.prog 70 #[x.v A c, .int .i64 (u : Int)] w (IntV w (nl n (gC x u))) := by
  obtain ⟨W, hW⟩ : ∃ W, W = w.alloc (.cells (x.cs A c).toArray 24) := ⟨_, rfl⟩
  have hbw : Below w.heap.size w W := by rw [hW]; exact below_new w _
  have HB := hideIt hbw
  have HBC := hideIt (show BC W w.heap.size x A c by rw [hW]; exact BC.new c hx)
  have HWE := hideIt hW
  have HVC := hideIt hvc
  have hwid := hvc.wid
  have HD := hideIt hvc.d
  clear hbw hx hW hvc
  go_enter Tryd.func70, Tryd.ntmps70
  go_wp2_with fail
  rw [← HWE.out]
  go_loopg [5, 6] n (fun gk s5 s6 wr => ∃ j : Nat, j + gk = n ∧ s6 = .int .i64 (j : Int) ∧ Aside (Below W.heap.size W wr) ∧ Aside (wr.ownsRow W.heap.size 3 1 s5 j ((nl j (gC x u)).map iv)))
  case atStart => exact ⟨0, by omega, rfl, Below.refl _ _, World.ownsRow_nil _ _ _ _⟩
  case round =>
    obtain ⟨j, hj, rfl, HLW, HO⟩ := hrel
    obtain ⟨w5, rfl⟩ : ∃ x, x = wr := ⟨wr, rfl⟩
    obtain ⟨A5, c5, e5, _, _⟩ := own_form HO.out
    subst e5
    have HBC5 := hideIt (HBC.out.keep HLW.out)
    have c2 := HBC5.out.c2
    have c3 := HBC5.out.c3
    rw [HD.out] at c2
    by_cases hlt : j < n
    · have hji : (j : Int) < (n : Int) := by omega
      have hinc := inc_c 3 j (by omega)
      have HNX := hideIt (show (nl (j + 1) (gC x u)).map iv = (nl j (gC x u)).map iv ++ [iv (gC x u j : Int)] by unfold nl; rw [List.range_succ, List.map_append, List.map_append]; rfl)
      by_cases hun : u < n
      · have hge : ¬ (u : Int) ≥ (n : Int) := by omega
        have hg : gC x u j = if u = j then 1 else 0 := by unfold gC; rw [HVC.out.dn, if_pos hun]
        have heq := i_eql 3 .i64 (u : Int) (j : Int)
        by_cases he : u = j
        · rw [decide_eq_true (by omega)] at heq
          rw [if_pos he] at hg
          have HNY := hideIt (show (nl (j + 1) (gC x u)).map iv = ((nl j (gC x u)) ++ [1]).map iv by rw [HNX.out, hg, List.map_append]; rfl)
          clear he hg hun
          go_wp2_with (first
            | ((with_reducible refine at_append ?_); refine wpList_apI (n := j) rfl (.tmp 32) (.tmp 34) rfl rfl HO.out rfl (by omega) HLW.out.size ?_; intro v6 w6 HO6 HG6 HA6 HB6))
          go_roundg (gk - 1)
          case measure => omega
          case rel => exact ⟨j + 1, by omega, by go_num, HLW.out.trans HB6.out, by rw [HNY.out]; exact HO6.out⟩
        · rw [decide_eq_false (by omega)] at heq
          rw [if_neg he] at hg
          have HNY := hideIt (show (nl (j + 1) (gC x u)).map iv = ((nl j (gC x u)) ++ [0]).map iv by rw [HNX.out, hg, List.map_append]; rfl)
          clear he hg hun
          go_wp2_with (first
            | ((with_reducible refine at_append ?_); refine wpList_apI (n := j) rfl (.tmp 32) (.tmp 34) rfl rfl HO.out rfl (by omega) HLW.out.size ?_; intro v6 w6 HO6 HG6 HA6 HB6))
          go_roundg (gk - 1)
          case measure => omega
          case rel => exact ⟨j + 1, by omega, by go_num, HLW.out.trans HB6.out, by rw [HNY.out]; exact HO6.out⟩
      · have hge : (u : Int) ≥ (n : Int) := by omega
        have hk : u - n < x.par.length := by omega
        have hgp := gC_par HVC.out hk hlt
        rw [show n + (u - n) = u by omega] at hgp
        have hsub := sub_nat 3 u n (by omega) (by omega)
        have heq := i_eql 3 .i64 (u : Int) (j : Int)
        rw [decide_eq_false (by omega)] at heq
        obtain ⟨b, o, A', c', hA, hb, hcell, hsl⟩ := HBC5.out.cin.pm.row hk
        have hrl := (HVC.out.row _ (List.getElem_mem hk)).1
        obtain ⟨b2, o2, hA2, hb2, hc2⟩ := hsl.num (k := j) (by omega)
        have hjl : (j : Int) < ((x.par[u - n]).length : Int) := by omega
        subst hA hA2
        have hkl : ((u - n : Nat) : Int) < (x.par.length : Int) := by omega
        rw [← hgp] at hc2
        have HNY := hideIt (show (nl (j + 1) (gC x u)).map iv = ((nl j (gC x u)) ++ [(gC x u j : Int)]).map iv by rw [HNX.out, List.map_append]; rfl)
        clear hgp hb hb2 hsl hrl hun
        generalize (gC x u j : Int) = gz at *
        generalize x.par[u - n] = l at *
        generalize u - n = un at *
        go_wp2_with (first
          | ((with_reducible refine at_append ?_); refine wpList_apI (n := j) rfl (.tmp 32) (.tmp 34) rfl rfl HO.out rfl (by omega) HLW.out.size ?_; intro v6 w6 HO6 HG6 HA6 HB6))
        go_roundg (gk - 1)
        case measure => omega
        case rel => exact ⟨j + 1, by omega, by go_num, HLW.out.trans HB6.out, by rw [HNY.out]; exact HO6.out⟩
    · have hji : ¬ (j : Int) < (n : Int) := by omega
      obtain rfl : j = n := by omega
      go_wp2_with fail
      go_ret
      exact ⟨_, rfl, by rw [nl_len]; exact own_base HO.out HB.out.size, HB.out.trans (HLW.out.mono HB.out.size)⟩
end

section
open Go.RowKit
set_option linter.unusedVariables false
set_option linter.unusedSimpArgs false
theorem VC.ok {x : Cd} {hs : List Bool} (h : okB x hs = true) : ∃ m n, VC x m n ∧ hs.length = n + x.par.length := by
  unfold okB at h
  rw [Bool.and_eq_true] at h
  obtain ⟨m, n, hv⟩ := vC_spec h.1
  have := of_decide_eq_true h.2
  exact ⟨m, n, hv, by have := hv.d; omega⟩
theorem basL_vc {x : Cd} {m n : Nat} (h : VC x m n) (hs : List Bool) : basL x hs = bas m n (gC x) (hvF hs) hs.length := by unfold basL; rw [h.fn, h.dn]
theorem recov_vc {x : Cd} {m n : Nat} (h : VC x m n) (hs : List Bool) (u : Nat) : recov x hs u ↔ Dep m n (basL x hs).length (sel (gC x) (basL x hs)) (gC x u) := by
  show Dep x.field.toNat x.data.toNat _ _ _ ↔ _
  rw [h.fn, h.dn]
theorem cofU_vc {x : Cd} {m n : Nat} (h : VC x m n) (hs : List Bool) (u : Nat) : cofU x hs u = cof m n (basL x hs).length (sel (gC x) (basL x hs)) (gC x u) := by
  show cof x.field.toNat x.data.toNat _ _ _ = _
  rw [h.fn, h.dn]
set_option maxHeartbeats 1600000 in
set_option maxRecDepth 100000 in
theorem terms_any {x : Cd} {m n : Nat} (hvc : VC x m n) (hs : List Bool) {pv : List Nat} {Q : Mx} (hR : Rdc m n (gC x) (basL x hs) pv Q) (u : Nat) (hu : u < n + x.par.length) (pb : Nat) {gA uA rA pA : Option Addr} {gc uc rc pc : Nat} (hgc : (n + x.par.length) * n ≤ gc) (w : World) (hT : Tabs w)
    (hb : Blk w pb 100 (baC (m : Int) ((n + x.par.length : Nat) : Int) (n : Int) (.slice gA ((n + x.par.length) * n) gc) (.slice uA (basL x hs).length uc) (.slice rA (basL x hs).length rc) (.slice pA pv.length pc))) (hM : BaM w x m n (basL x hs) pv Q gA uA rA pA) :
    Calls Tryd.prog 77 #[.pointer (some ⟨pb, 0, none⟩), .int .i64 (u : Int)] w (TermRes w (trmR x hs u)) := by
  have hGV := gC_v hvc
  have hBn : (basL x hs).length ≤ n := by rw [basL_vc hvc]; exact bas_le hvc.fm hGV _
  have hind : Ind m n (basL x hs).length (sel (gC x) (basL x hs)) := by rw [basL_vc hvc]; exact bas_ind hvc.fm hGV _
  have HIS := hideIt (rd_is hvc.fm hR hGV (u := u))
  have hrv := rd_v (Q := Q) (pv := pv) hvc.fm (pad_v (n := n) (hGV u)) (basL x hs).length
  have hcof := fun hz => rd_cof hvc.fm hR hGV (u := u) hz
  have hhi := fun k h1 h2 => rd_hi (Q := Q) (pv := pv) hR (gC x u) (basL x hs).length (Nat.le_refl _) k h1 h2
  have HRD := hideIt (reduced_any hvc hR hBn u hu pb hgc w hT hb hM)
  have HTR := hideIt (fun (hd : Dep m n (basL x hs).length (sel (gC x) (basL x hs)) (gC x u)) => show trmR x hs u = (tms (basL x hs) (fun k => rd m Q pv (pad n (gC x u)) (basL x hs).length (n + k)) n, 0) by
    unfold trmR
    rw [if_pos ((recov_vc hvc hs u).2 hd), cofU_vc hvc]
    congr 1
    have e1 := tms_more (B := basL x hs) (c := fun k => rd m Q pv (pad n (gC x u)) (basL x hs).length (n + k)) (p := (basL x hs).length) (n - (basL x hs).length) (fun i h1 h2 => hhi i h1 (by omega))
    rw [show (basL x hs).length + (n - (basL x hs).length) = n by omega] at e1
    rw [e1]
    exact tms_congr fun i hi => cof_is hind (fun k => hrv _) (hcof ((rd_is hvc.fm hR hGV (u := u)).2 hd)) i hi)
  have HTN := hideIt (fun (hd : ¬ Dep m n (basL x hs).length (sel (gC x) (basL x hs)) (gC x u)) => show trmR x hs u = ([], 11) by
    unfold trmR
    rw [if_neg fun h => hd ((recov_vc hvc hs u).1 h)])
  have HHI := hideIt hhi
  have c2 : w.cell? ⟨pb, 2, none⟩ = some (.int .i64 (n : Int)) := hb.cell 2
  have HB := hideIt hb
  have HM := hideIt hM
  have HBN := hideIt hBn
  have hpos := hvc.pos
  have hwid := hvc.wid
  clear hrv hcof hhi hind hGV hb hM hT hR hvc hBn
  generalize rd m Q pv (pad n (gC x u)) (basL x hs).length = r at *
  generalize basL x hs = B at *
  go_enter Tryd.func77, Tryd.ntmps77
  go_wp2_with (first
    | (go_at_call 90; refine HRD.out.mono ?_; rintro e w7 ⟨g, rfl, hg7, hk7, hb7⟩; have HB7 := hideIt hb7; have HG7 := hideIt (And.intro hg7 hk7); have c2 : w7.cell? ⟨pb, 2, none⟩ = some (.int .i64 (n : Int)) := (HB.out.kept hb7 HB.out.lt).cell 2; clear hg7 hk7 hb7 HRD))
  go_loopg [23] n (fun gk s23 wr => ∃ j : Nat, j + gk = n ∧ s23 = .int .i64 (j : Int) ∧ wr = w7 ∧ Aside (∀ i, i < j → r i = 0))
  case atStart => exact ⟨0, by omega, rfl, rfl, fun i hi => absurd hi (Nat.not_lt_zero i)⟩
  case round =>
    obtain ⟨j, hj, rfl, rfl, HZ⟩ := hrel
    obtain ⟨w7, rfl⟩ : ∃ x, x = wr := ⟨wr, rfl⟩
    by_cases hlt : j < n
    · have hcg := HG7.out.2.cell j
      rw [iv_at (by omega)] at hcg
      have hji : (j : Int) < (n : Int) := by omega
      have hinc := inc_c 3 j (by omega)
      by_cases h0 : r j = 0
      · rw [h0] at hcg
        have HZ2 := hideIt (show ∀ i, i < j + 1 → r i = 0 from fun i hi => by
          by_cases e : i = j
          · rw [e]; exact h0
          · exact HZ.out i (by omega))
        clear h0
        go_wp2_with fail
        go_roundg (gk - 1)
        case measure => omega
        case rel => exact ⟨j + 1, by omega, by go_num, rfl, HZ2.out⟩
      · have hq : binOp .neq 3 (.int .i64 (r j : Int)) (.int .i64 0) = pure (.bool true) := neqT (a := r j) (b := 0) 3 h0
        have HE := hideIt (HTN.out fun hd => h0 (HIS.out.2 hd j hlt))
        clear h0
        generalize r j = rj at hcg hq
        go_wp2_with fail
        go_ret2
        rw [HE.out]
        exact TermRes.nil HB7.out 11
    · have hji : ¬ (j : Int) < (n : Int) := by omega
      have HE := hideIt (HTR.out (HIS.out.1 fun i hi => HZ.out i (by omega)))
      have c2 : w7.cell? ⟨pb, 2, none⟩ = some (.int .i64 (n : Int)) := (HB.out.kept HB7.out HB.out.lt).cell 2
      have hnn : (n : Int) ≤ ((n + n : Nat) : Int) := by omega
      clear HZ hlt hj
      go_wp2_with fail
      clear c2
      go_loopg [9, 38] n (fun gk s9 s38 wr => ∃ i : Nat, i + gk = n ∧ s38 = .int .i64 (i : Int) ∧ Aside (Below w7.heap.size w7 wr) ∧ Aside (wr.ownsRow w7.heap.size 54 2 s9 (tms B (fun k => r (n + k)) i).length (tcs (tms B (fun k => r (n + k)) i))))
      case atStart => exact ⟨0, by omega, rfl, Below.refl _ _, World.ownsRow_nil _ _ _ _⟩
      case round =>
        obtain ⟨i, hi, rfl, HLW, HO⟩ := hrel
        obtain ⟨w8, rfl⟩ : ∃ x, x = wr := ⟨wr, rfl⟩
        obtain ⟨A9, c9, e9, _, _⟩ := own_form HO.out
        subst e9
        by_cases hlt : i < n
        · have hcg := (HG7.out.2.kept HLW.out HG7.out.2.lt).cell (n + i)
          rw [iv_at (by omega)] at hcg
          have hii : (i : Int) < (n : Int) := by omega
          have hinc := inc_c 3 i (by omega)
          by_cases h0 : r (n + i) = 0
          · have HN := hideIt (show tms B (fun k => r (n + k)) (i + 1) = tms B (fun k => r (n + k)) i from if_pos h0)
            rw [h0] at hcg
            clear h0
            go_wp2_with fail
            go_roundg (gk - 1)
            case measure => omega
            case rel => exact ⟨i + 1, by omega, by go_num, HLW.out, by rw [HN.out]; exact HO.out⟩
          · have hq : binOp .neq 3 (.int .i64 (r (n + i) : Int)) (.int .i64 0) = pure (.bool true) := neqT (a := r (n + i)) (b := 0) 3 h0
            have hip : i < B.length := Nat.lt_of_not_le fun hle => h0 (HHI.out i hle hlt)
            have HN := hideIt (show tms B (fun k => r (n + k)) (i + 1) = tms B (fun k => r (n + k)) i ++ [(B.getD i 0, r (n + i))] from if_neg h0)
            have HTL := hideIt (tms_len B (fun k => r (n + k)) i)
            obtain ⟨b, o, v, hA, hb2, hv, hc⟩ := (HM.out.uni.below (HB7.out.trans (HLW.out.mono HB7.out.size))).at_ hip
            rw [iv_at hip] at hv
            injection hv with hv
            subst hv hA
            have hpi : (i : Int) < (B.length : Int) := by omega
            have c4 : w8.cell? ⟨pb, 4, none⟩ = some (.slice (some ⟨b, o, none⟩) B.length uc) := (HB.out.kept (HB7.out.trans (HLW.out.mono HB7.out.size)) HB.out.lt).cell 4
            clear h0 hb2
            generalize r (n + i) = ri at *
            generalize B.getD i 0 = bi at *
            generalize tms B (fun k => r (n + k)) i = L at *
            go_wp2_with (first
              | ((with_reducible refine at_append ?_); refine wpList_apT (t := (bi, ri)) (n := L.length) rfl (.tmp 45) (.tmp 55) rfl rfl HO.out rfl (by have := HTL.out; have := HBN.out; omega) HLW.out.size ?_; intro v9 w9 HO9 HG9 HA9 HB9))
            go_roundg (gk - 1)
            case measure => omega
            case rel => exact ⟨i + 1, by omega, by go_num, HLW.out.trans HB9.out, by rw [HN.out, List.length_append]; exact HO9.out⟩
        · obtain rfl : i = n := by omega
          have hii : ¬ (i : Int) < (i : Int) := by omega
          go_wp2_with fail
          go_ret2
          rw [HE.out]
          exact ⟨_, rfl, by exact own_base HO.out HB7.out.size, HB7.out.trans (HLW.out.mono HB7.out.size)⟩
noncomputable def basR (x : Cd) (hs : List Bool) : List Int × Int := if okB x hs = true then ((basL x hs).map fun b : Nat => (b : Int), 0) else ([], 1)
theorem pvC_map (B : List Nat) : pvC B = (B.map fun b : Nat => (b : Int)).map iv := by
  refine List.ext_getElem? fun j => ?_
  by_cases hj : j < B.length
  · rw [iv_at hj]
    simp [List.getD_eq_getElem?_getD, hj]
  · rw [List.getElem?_eq_none (by rw [List.length_map, nl_len]; omega), List.getElem?_eq_none (by simp; omega)]
/-- A basis that basisOf returned, put into a box. -/
structure BB (W : World) (p : Nat) (x : Cd) (m n : Nat) (hs : List Bool) (pv : List Nat) (Q : Mx) (gA uA rA pA : Option Addr) (gc uc rc pc : Nat) : Prop where
  rd : Rdc m n (gC x) (basL x hs) pv Q
  mem : BaM W x m n (basL x hs) pv Q gA uA rA pA
  cap : (n + x.par.length) * n ≤ gc
  box : Blk W p 100 (baC (m : Int) ((n + x.par.length : Nat) : Int) (n : Int) (.slice gA ((n + x.par.length) * n) gc) (.slice uA (basL x hs).length uc) (.slice rA (basL x hs).length rc) (.slice pA pv.length pc))
theorem BB.keep {W W' : World} {p : Nat} {x : Cd} {m n : Nat} {hs : List Bool} {pv : List Nat} {Q : Mx} {gA uA rA pA : Option Addr} {gc uc rc pc : Nat} (h : BB W p x m n hs pv Q gA uA rA pA gc uc rc pc) (hb : Below W.heap.size W W') : BB W' p x m n hs pv Q gA uA rA pA gc uc rc pc :=
  ⟨h.rd, h.mem.keep hb, h.cap, h.box.kept hb h.box.lt⟩
theorem BB.new {W : World} {x : Cd} {m n : Nat} {hs : List Bool} {pv : List Nat} {Q : Mx} {gA uA rA pA : Option Addr} {gc uc rc pc : Nat} (h1 : Rdc m n (gC x) (basL x hs) pv Q) (h2 : BaM W x m n (basL x hs) pv Q gA uA rA pA) (h3 : (n + x.par.length) * n ≤ gc) :
    BB (W.alloc (.cells (baC (m : Int) ((n : Int) + (x.par.length : Int)) (n : Int) (.slice gA ((n + x.par.length) * n) gc) (.slice uA (basL x hs).length uc) (.slice rA (basL x hs).length rc) (.slice pA pv.length pc)).toArray 100)) W.heap.size x m n hs pv Q gA uA rA pA gc uc rc pc :=
  ⟨h1, h2.keep (below_new W _), h3, Blk.new W 100 _⟩
set_option maxHeartbeats 800000 in
set_option maxRecDepth 100000 in
theorem combination_any (x : Cd) (A : Option Addr) (c : Nat) (w : World) (hT : Tabs w) (hx : CIn w x A) (hs : List Bool) (D : Option Addr) (cd : Nat) (hl : hs.length ≤ 100000) (hD : Sl w w.heap.size D 1 hs.length (hs.map bl)) (u : Int) :
    Calls Tryd.prog 57 #[x.v A c, .slice D hs.length cd, .int .i64 u] w (TermRes w (combR x hs u)) := by
  obtain ⟨W, hW⟩ : ∃ W, W = w.alloc (.cells (x.cs A c).toArray 24) := ⟨_, rfl⟩
  have hbw : Below w.heap.size w W := by rw [hW]; exact below_new w _
  have HB := hideIt hbw
  have HBC := hideIt (show BC W w.heap.size x A c by rw [hW]; exact BC.new c hx)
  have HV := hideIt (basisOf_any x A c W (hT.keep hbw) HBC.out.cin hs D cd hl ((hD.below hbw).wide hbw.size))
  have HWE := hideIt hW
  have HT := hideIt (hT.keep hbw)
  have hnot := not_b
  have heq : binOp .neq 31 (.int .i64 0) (.int .i64 0) = pure (.bool false) := by rw [i_neq]; rfl
  have heq1 : binOp .neq 31 (.int .i64 1) (.int .i64 0) = pure (.bool true) := by rw [i_neq]; rfl
  have HI := hideIt (fun W => isIndex_any D hs.length cd u W)
  obtain ⟨r, hr⟩ : ∃ r, r = combR x hs u := ⟨_, rfl⟩
  rw [← hr]
  have HR := hideIt hr
  unfold combR idxB at HR
  clear hbw hT hx hW hD hr
  cases q1 : okB x hs with
  | true =>
    rw [q1] at HV
    obtain ⟨m, n, hvc, hlen⟩ := VC.ok q1
    change Hid (Calls _ _ _ W fun e w' => BasOk W x x.field.toNat x.data.toNat hs e w') at HV
    rw [hvc.fn, hvc.dn] at HV
    by_cases q2 : 0 ≤ u ∧ u < hs.length
    · rw [decide_eq_true q2] at HI
      have HR2 := hideIt (show r = trmR x hs u.toNat by rw [HR.out, if_pos ⟨q1, decide_eq_true q2⟩])
      have HVC := hideIt hvc
      obtain ⟨k, hk⟩ : ∃ k : Nat, u = (k : Int) := ⟨u.toNat, by omega⟩
      subst hk
      have HKL := hideIt (show k < n + x.par.length by omega)
      rw [Int.toNat_natCast] at HR2
      clear q1 q2 hvc hlen HR
      go_enter Tryd.func57, Tryd.ntmps57
      go_wp2_with (first
        | (go_at_call 75; rw [← HWE.out]; refine HV.out.mono ?_; rintro e w1 ⟨⟨gA, gc, uA, uc, rA, rc, pA, pc, pv, Q, rfl, hrd, hm, hcap, ho⟩, hb1⟩; have HB1 := hideIt hb1; have HBB := hideIt (BB.new (W := w1) (uc := uc) (rc := rc) (pc := pc) hrd hm hcap); have HB2 := hideIt (la7 (o := .cells (baC (m : Int) ((n : Int) + (x.par.length : Int)) (n : Int) (.slice gA ((n + x.par.length) * n) gc) (.slice uA (basL x hs).length uc) (.slice rA (basL x hs).length rc) (.slice pA pv.length pc)).toArray 100) hb1); clear hb1 hrd hm hcap ho HV)
        | (go_at_call 76; refine (HI.out _).mono ?_; rintro e w2 ⟨rfl, rfl⟩)
        | (go_at_call 77; refine (terms_any HVC.out hs HBB.out.rd k HKL.out _ HBB.out.cap _ (HT.out.keep HB2.out) HBB.out.box HBB.out.mem).mono ?_; rintro e w2 ⟨v2, rfl, ho2, hb2⟩; have HO2 := hideIt ho2; have HB3 := hideIt hb2; clear ho2 hb2))
      go_ret2
      rw [HR2.out]
      exact ⟨_, rfl, own_base HO2.out (Nat.le_trans HB.out.size HB2.out.size), HB.out.trans ((HB2.out.trans (HB3.out.mono HB2.out.size)).mono HB.out.size)⟩
    · rw [decide_eq_false q2] at HI
      have HR2 := hideIt (show r = ([], 1) by rw [HR.out, if_neg (fun h => q2 (of_decide_eq_true h.2))])
      clear q1 q2 hvc hlen HR
      go_enter Tryd.func57, Tryd.ntmps57
      go_wp2_with (first
        | (go_at_call 75; rw [← HWE.out]; refine HV.out.mono ?_; rintro e w1 ⟨⟨gA, gc, uA, uc, rA, rc, pA, pc, pv, Q, rfl, hrd, hm, hcap, ho⟩, hb1⟩; have HB1 := hideIt hb1; clear hb1 hrd hm hcap ho HV)
        | (go_at_call 76; refine (HI.out _).mono ?_; rintro e w2 ⟨rfl, rfl⟩))
      go_ret2
      rw [HR2.out]
      exact TermRes.nil (la7 (HB.out.trans (HB1.out.mono HB.out.size))) 1
  | false =>
    rw [q1] at HV
    have HR2 := hideIt (show r = ([], 1) by rw [HR.out, if_neg (fun h => by rw [q1] at h; exact absurd h.1 (by decide))])
    clear q1 HR
    go_enter Tryd.func57, Tryd.ntmps57
    go_wp2_with (first
      | (go_at_call 75; rw [← HWE.out]; refine HV.out.mono ?_; rintro e w1 ⟨rfl, hb1⟩; have HB1 := hideIt hb1; clear hb1 HV))
    go_ret2
    rw [HR2.out]
    exact TermRes.nil (la7 (HB.out.trans (HB1.out.mono HB.out.size))) 1
def smB (x : Cd) : Bool := decide (x.data ≤ 12) && decide (x.par.length ≤ 8) && x.par.all fun l => decide (l.length ≤ 12)
theorem smB_sm {x : Cd} (h : smB x = true) : Sm x := by
  unfold smB at h
  simp only [Bool.and_eq_true, decide_eq_true_eq, List.all_eq_true] at h
  exact ⟨h.1.1, h.1.2, h.2⟩
def fewB (us : List (List UInt8)) : Bool := decide (us.length ≤ 24) && us.all fun u => decide (u.length ≤ 64)
set_option maxHeartbeats 800000 in
set_option maxRecDepth 100000 in
theorem small_any (x : Cd) (A : Option Addr) (c : Nat) (w : World) (hx : CIn w x A) :
    Calls Tryd.prog 10 #[x.v A c] w fun e w' => e = .returned (.bool (smB x)) ∧ Below w.heap.size w w' := by
  obtain ⟨W, hW⟩ : ∃ W, W = w.alloc (.cells (x.cs A c).toArray 24) := ⟨_, rfl⟩
  have hbw : Below w.heap.size w W := by rw [hW]; exact below_new w _
  have HB := hideIt hbw
  have HBC := hideIt (show BC W w.heap.size x A c by rw [hW]; exact BC.new c hx)
  have c2 := HBC.out.c2
  have c3 := HBC.out.c3
  rw [hW] at c2 c3
  have HWE := hideIt hW
  obtain ⟨r, hr⟩ : ∃ r, r = smB x := ⟨_, rfl⟩
  rw [← hr]
  have HR := hideIt hr
  unfold smB at HR
  clear hbw hx hW hr
  by_cases q1 : x.data > 12
  · have HE := hideIt (show r = false by rw [HR.out, decide_eq_false (by omega), Bool.false_and, Bool.false_and])
    clear HR
    go_enter Tryd.func10, Tryd.ntmps10
    go_wp2_with fail
    go_ret
    rw [← HWE.out]
    exact ⟨by rw [HE.out]; rfl, HB.out⟩
  · by_cases q2 : (x.par.length : Int) > 8
    · have HE := hideIt (show r = false by rw [HR.out, decide_eq_false (show ¬ x.par.length ≤ 8 by omega), Bool.and_false, Bool.false_and])
      clear HR
      go_enter Tryd.func10, Tryd.ntmps10
      go_wp2_with fail
      go_ret
      rw [← HWE.out]
      exact ⟨by rw [HE.out]; rfl, HB.out⟩
    · have HE := hideIt (show r = x.par.all fun l => decide (l.length ≤ 12) by rw [HR.out, decide_eq_true (by omega), decide_eq_true (by omega), Bool.true_and, Bool.true_and])
      have hp8 : x.par.length ≤ 8 := by omega
      clear HR
      go_enter Tryd.func10, Tryd.ntmps10
      go_wp2_with fail
      rw [← HWE.out] at c2 c3 ⊢
      go_loopg [3] x.par.length (fun gk s3 wr => ∃ j : Nat, j + gk = x.par.length ∧ s3 = .int .i64 (j : Int) ∧ wr = W ∧ Aside ((x.par.take j).all (fun l => decide (l.length ≤ 12)) = true))
      case atStart => exact ⟨0, by omega, rfl, rfl, by simp [Aside]⟩
      case round =>
        obtain ⟨j, hj, rfl, rfl, HI⟩ := hrel
        obtain ⟨W, rfl⟩ : ∃ x, x = wr := ⟨wr, rfl⟩
        by_cases hlt : j < x.par.length
        · obtain ⟨b, o, A', c', hA, hb, hcell, hsl⟩ := HBC.out.cin.pm.row hlt
          have HTK := hideIt (take_snoc x.par j hlt)
          have HF := hideIt (fun h => all_at (p := fun l : List Int => decide (l.length ≤ 12)) hlt h)
          subst hA
          have hinc := inc_c 3 j (by omega)
          have hji : (j : Int) < (x.par.length : Int) := by omega
          generalize x.par[j] = l at *
          clear hsl hb
          by_cases q3 : (l.length : Int) > 12
          · have HE2 := hideIt (show r = false by rw [HE.out, HF.out (decide_eq_false (by omega))])
            go_wp2_with fail
            go_ret
            exact ⟨by rw [HE2.out]; rfl, HB.out⟩
          · have HN := hideIt (show (x.par.take (j + 1)).all (fun l => decide (l.length ≤ 12)) = true by rw [HTK.out, List.all_append, HI.out]; simp; omega)
            go_wp2_with fail
            go_roundg (gk - 1)
            case measure => omega
            case rel => exact ⟨j + 1, by omega, by go_num, rfl, HN.out⟩
        · have hji : ¬ (j : Int) < (x.par.length : Int) := by omega
          have HE2 : Hid (r = true) := by
            have := HI.out
            rw [List.take_of_length_le (by omega)] at this
            rw [HE.out]; exact this
          go_wp2_with fail
          go_ret
          exact ⟨by rw [HE2.out]; rfl, HB.out⟩
set_option maxHeartbeats 800000 in
theorem few_any (us : List (List UInt8)) (hbig : us.length ≤ 9223372036854775807) (D : Option Addr) (cd : Nat) (w : World) (hs : Sl w w.heap.size D 1 us.length (us.map sv)) :
    Calls Tryd.prog 22 #[.slice D us.length cd] w fun e w' => e = .returned (.bool (fewB us)) ∧ w = w' := by
  have HS := hideIt hs
  obtain ⟨r, hr⟩ : ∃ r, r = fewB us := ⟨_, rfl⟩
  rw [← hr]
  have HR := hideIt hr
  unfold fewB at HR
  clear hs hr
  by_cases q1 : (us.length : Int) > 24
  · have HE := hideIt (show r = false by rw [HR.out, decide_eq_false (by omega), Bool.false_and])
    clear HR
    go_enter Tryd.func22, Tryd.ntmps22
    go_wp2_with fail
    go_ret
    exact ⟨by rw [HE.out]; rfl, rfl⟩
  · have HE := hideIt (show r = us.all fun l => decide (l.length ≤ 64) by rw [HR.out, decide_eq_true (by omega), Bool.true_and])
    have hu24 : us.length ≤ 24 := by omega
    clear HR
    go_enter Tryd.func22, Tryd.ntmps22
    go_wp2_with fail
    go_loopg [3] us.length (fun gk s3 wr => ∃ j : Nat, j + gk = us.length ∧ s3 = .int .i64 (j : Int) ∧ wr = w ∧ Aside ((us.take j).all (fun l => decide (l.length ≤ 64)) = true))
    case atStart => exact ⟨0, by omega, rfl, rfl, by simp [Aside]⟩
    case round =>
      obtain ⟨j, hj, rfl, rfl, HI⟩ := hrel
      obtain ⟨w, rfl⟩ : ∃ x, x = wr := ⟨wr, rfl⟩
      by_cases hlt : j < us.length
      · obtain ⟨b, o, hA, hb, hcs⟩ := HS.out.strs (by omega)
        have hcell := hcs j hlt
        have hsz := str_size us[j]
        have HTK := hideIt (take_snoc us j hlt)
        have HF := hideIt (fun h => all_at (p := fun l : List UInt8 => decide (l.length ≤ 64)) hlt h)
        subst hA
        have hinc := inc_c 3 j (by omega)
        have hji : (j : Int) < (us.length : Int) := by omega
        generalize us[j] = l at *
        generalize str l = sl at *
        clear hcs hb
        by_cases q3 : (l.length : Int) > 64
        · have HE2 := hideIt (show r = false by rw [HE.out, HF.out (decide_eq_false (by omega))])
          go_wp2_with fail
          go_ret
          exact ⟨by rw [HE2.out]; rfl, rfl⟩
        · have HN := hideIt (show (us.take (j + 1)).all (fun l => decide (l.length ≤ 64)) = true by rw [HTK.out, List.all_append, HI.out]; simp; omega)
          go_wp2_with fail
          go_roundg (gk - 1)
          case measure => omega
          case rel => exact ⟨j + 1, by omega, by go_num, rfl, HN.out⟩
      · have hji : ¬ (j : Int) < (us.length : Int) := by omega
        have HE2 : Hid (r = true) := by
          have := HI.out
          rw [List.take_of_length_le (by omega)] at this
          rw [HE.out]; exact this
        go_wp2_with fail
        go_ret
        exact ⟨by rw [HE2.out]; rfl, rfl⟩
end

section
open Go.RowKit
set_option linter.unusedVariables false
set_option linter.unusedSimpArgs false
set_option maxHeartbeats 400000 in
set_option maxRecDepth 100000 in
theorem sameInts_any (xs ys : List Int) (A A' : Option Addr) (c c' : Nat) (w : World) (hx : Sl w w.heap.size A 1 xs.length (xs.map iv)) (hy : Sl w w.heap.size A' 1 ys.length (ys.map iv)) (hlx : xs.length ≤ 100000) :
    Calls Tryd.prog 16 #[.slice A xs.length c, .slice A' ys.length c'] w fun e w' => e = .returned (.bool (decide (xs = ys))) ∧ ∃ n, w' = w.drewN n := by
  have HX := hideIt hx
  have HY := hideIt hy
  clear hx hy
  by_cases hl : xs.length = ys.length
  · have Hl := hideIt hl
    have ht : binOp .neq 3 (.int .i64 (xs.length : Int)) (.int .i64 (ys.length : Int)) = pure (.bool false) := by rw [i_neq, decide_eq_false (by omega)]
    clear hl
    go_enter Tryd.func16, Tryd.ntmps16
    go_wp2_with fail
    go_loopg [4, 5] xs.length (fun g s4 s5 wr => ∃ k : Nat, g + k = xs.length ∧ s4 = .bool false ∧ s5 = .int .i64 k ∧ Aside (xs.take k = ys.take k ∧ ∃ n, wr = w.drewN n))
    case atStart => exact ⟨0, by omega, rfl, rfl, by simp, 0, rfl⟩
    case round =>
      obtain ⟨k, hg, rfl, rfl, HA⟩ := hrel
      obtain ⟨n0, hn0⟩ := HA.out.2
      have HT := hideIt HA.out.1
      clear HA
      by_cases hk : k < xs.length
      · have hk' : k < ys.length := by have := Hl.out; omega
        obtain ⟨b, off, u, rfl, hb, hu, hc⟩ := HX.out.at_ hk
        obtain ⟨b', off', u', rfl, hb', hu', hc'⟩ := HY.out.at_ hk'
        rw [List.getElem?_map, List.getElem?_eq_getElem hk] at hu
        rw [List.getElem?_map, List.getElem?_eq_getElem hk'] at hu'
        injection hu with hu
        injection hu' with hu'
        subst hu hu'
        have hc1 : wr.cell? ⟨b, off + k, none⟩ = some (.int .i64 xs[k]) := by rw [hn0]; exact hc
        have hc2 : wr.cell? ⟨b', off' + k, none⟩ = some (.int .i64 ys[k]) := by rw [hn0]; exact hc'
        have HN := hideIt hn0
        have hki : (k : Int) < (xs.length : Int) := by omega
        have hki2 : (k : Int) < (ys.length : Int) := by omega
        have hinc := inc_c 3 k (by omega)
        have HTX := hideIt (take_snoc xs k hk)
        have HTY := hideIt (take_snoc ys k hk')
        by_cases he : xs[k] = ys[k]
        · have HE := hideIt he
          have hne : binOp .neq 3 (.int .i64 xs[k]) (.int .i64 ys[k]) = pure (.bool false) := by rw [i_neq, decide_eq_false (fun h => h he)]
          clear he hn0 hc hc' hb hb'
          go_wp2_with fail
          go_quiet (fail)
          go_wp2_with fail
          go_roundg (gk - 1)
          case measure => omega
          case rel => exact ⟨k + 1, by omega, rfl, by go_num, by rw [HTX.out, HTY.out, HT.out, HE.out], by rw [HN.out]; exact ⟨_, World.drewN_drewN _ _ _⟩⟩
        · have HE := hideIt he
          have hne : binOp .neq 3 (.int .i64 xs[k]) (.int .i64 ys[k]) = pure (.bool true) := by rw [i_neq, decide_eq_true he]
          clear he hn0 hc hc' hb hb'
          go_wp2_with fail
          go_quiet (fail)
          go_wp2_with fail
          go_ret
          exact ⟨ret_b (decide_eq_false fun h => HE.out (by subst h; rfl)).symm, by rw [HN.out]; exact ⟨_, World.drewN_drewN _ _ _⟩⟩
      · have hki : ¬ (k : Int) < (xs.length : Int) := by omega
        go_wp2_with fail
        go_ret
        have hkl : k = xs.length := by omega
        have := HT.out
        rw [hkl, List.take_length, Hl.out, List.take_length] at this
        exact ⟨ret_b (decide_eq_true this).symm, n0, rfl⟩
  · have ht : binOp .neq 3 (.int .i64 (xs.length : Int)) (.int .i64 (ys.length : Int)) = pure (.bool true) := by rw [i_neq, decide_eq_true (by omega)]
    have Hl := hideIt hl
    clear hl
    go_enter Tryd.func16, Tryd.ntmps16
    go_wp2_with fail
    go_ret
    exact ⟨ret_b (decide_eq_false fun h => Hl.out (by rw [h])).symm, 0, rfl⟩
theorem rrow_own {x : Cd} {m n : Nat} (hvc : VC x m n) (A : Option Addr) (c : Nat) (w : World) (hx : CIn w x A) (u : Nat) (hu : u < n + x.par.length) :
    Calls Tryd.prog 70 #[x.v A c, .int .i64 (u : Int)] w fun e w' => ∃ b cb, e = .returned (.slice (some ⟨b, 0, none⟩) n cb) ∧ w'.ownsRow w.heap.size 3 1 (.slice (some ⟨b, 0, none⟩) n cb) n ((nl n (gC x u)).map iv) ∧ Below w.heap.size w w' := by
  refine (rrow_any hvc A c w hx u hu).mono ?_
  rintro e w' ⟨v, rfl, ho, hb⟩
  rw [nl_len] at ho
  rcases ho.2 with ⟨_, h0⟩ | ⟨g, cap, cur, hv, _⟩
  · have := hvc.pos; omega
  · subst hv
    exact ⟨g, cap, rfl, ho, hb⟩
theorem alk_iff (m : Nat) (us : List (List UInt8)) : alk m us = true ↔ ∀ u ∈ us, u.length = ul us ∧ u.length % (m / 8) = 0 := by
  unfold alk
  rw [List.all_eq_true]
  exact ⟨fun h u hu => of_decide_eq_true (h u hu), fun h u hu => decide_eq_true (h u hu)⟩
set_option maxHeartbeats 600000 in
set_option maxRecDepth 100000 in
theorem renc_any (x : Cd) (A : Option Addr) (c : Nat) (w : World) (hx : CIn w x A) (hsm : Sm x) (us : List (List UInt8)) (hl : us.length ≤ 24) (hbig : ∀ u ∈ us, u.length ≤ 64) (D : Option Addr) (cd : Nat) (hs : Sl w w.heap.size D 1 us.length (us.map sv)) :
    Calls Tryd.prog 25 #[x.v A c, .slice D us.length cd] w (StrRes w (encR x us)) := by
  obtain ⟨W, hW⟩ : ∃ W, W = w.alloc (.cells (x.cs A c).toArray 24) := ⟨_, rfl⟩
  have hbw : Below w.heap.size w W := by rw [hW]; exact below_new w _
  have HB := hideIt hbw
  have HBC := hideIt (show BC W w.heap.size x A c by rw [hW]; exact BC.new c hx)
  have HV := hideIt (rvalid8_any x A c W HBC.out.cin hsm)
  have hq := i_neq 3 .i64 (us.length : Int) x.data
  have hnot := not_b
  have HSL := hideIt ((hs.below hbw).wide hbw.size)
  have HWE := hideIt hW
  have HBG := hideIt hbig
  clear hbw hx hs hW hbig
  cases q1 : vC x with
  | true =>
    rw [q1] at HV
    obtain ⟨m, n, hvc⟩ := vC_spec q1
    by_cases q2 : (us.length : Int) = x.data
    · rw [decide_eq_false fun h => h q2] at hq
      have h0 : 0 < us.length := by have := hvc.pos; have := hvc.d; omega
      have HVC := hideIt hvc
      have HFM := hideIt hvc.f
      have HRT := hideIt (fun h : ∀ u ∈ us, u.length = ul us ∧ u.length % (m / 8) = 0 => show encR x us = (us ++ x.par.map (fun r => cbS x.field r us), 0) by
        unfold encR
        rw [if_pos ⟨q1, q2, by rw [hvc.f, Int.toNat_natCast]; exact (alk_iff m us).2 h⟩])
      have HRF := hideIt (fun u (hu : u ∈ us) (h : ¬ (u.length = ul us ∧ u.length % (m / 8) = 0)) => show encR x us = ([], 1) by
        unfold encR
        rw [if_neg (fun h2 => h ((alk_iff m us).1 (by have := h2.2.2; rwa [hvc.f, Int.toNat_natCast] at this) u hu))])
      obtain ⟨b1, o1, hA1, hbb1, hcc1⟩ := HSL.out.2 (by rw [List.length_map]; exact h0)
      have HC1 := hideIt (fun (W2 : World) (h : Below W.heap.size W W2) j u (hu : (us.map sv)[j]? = some u) => show W2.cell? ((⟨b1, o1, none⟩ : Addr).add j) = some u by rw [addr_add, h.cell (p := ⟨b1, o1 + j, none⟩) hbb1]; exact hcc1 j u hu)
      have HU0 := hideIt (ul_zero us h0)
      have hp31 : x.par.length ≤ 31 := by have := hvc.wid; have := hvc.pos; omega
      subst hA1
      clear q1 q2 hvc hbb1 hcc1
      go_enter Tryd.func25, Tryd.ntmps25
      go_wp2_with (first
        | (go_at_call 26; rw [← HWE.out]; refine HV.out.mono ?_; rintro e w1 ⟨rfl, hb1⟩; have HB1 := hideIt hb1; have c2 := (HBC.out.keep hb1).c2; clear hb1 HV)
        | ((with_reducible refine at_append ?_); refine wpList_apG (base := w1.heap.size) (z := .string ⟨#[]⟩) (size := 1) (bytes := 16) (n := 0) (m := us.length) (news := us.map sv) Tryd.underlying44 (by kernel_rfl) rfl (by decide) (by decide) rfl (.tmp 23) (.tmp 24) rfl rfl (World.ownsRow_lit (base := w1.heap.size) (e := 9) (size := 1) w1 #[] 0 (Nat.le_refl _) (by decide) rfl) rfl (by simp) (fun j u hu => HC1.out _ (HB1.out.trans ((below_new w1 (.cells #[] 9)).mono HB1.out.size)) j u hu) (fun u hu => by obtain ⟨y, _, rfl⟩ := List.mem_map.1 hu; rfl) (by omega) (by simp) ?_; intro v5 w5 HO5 HG5 HA5 HB5; rw [Nat.zero_add] at HO5; have ho5 : w5.ownsRow w1.heap.size 9 1 v5 us.length (us.map sv) := HO5.out; have HP5 := hideIt ho5; have HL5 := hideIt ((below_new w1 (.cells #[] 9)).trans HB5.out); clear ho5 HO5 HA5))
      clear c2
      have HW5 := hideIt (HB1.out.trans (HL5.out.mono HB1.out.size))
      go_loopg [4, 5, 8] us.length (fun gk s4 s5 s8 wr => ∃ i : Nat, i + gk = us.length ∧ s4 = .slice none 0 0 ∧ s5 = .int .i64 0 ∧ s8 = .int .i64 (i : Int) ∧ Aside (Below w5.heap.size w5 wr) ∧ Aside (∀ u ∈ us.take i, u.length = ul us ∧ u.length % (m / 8) = 0))
      case atStart => exact ⟨0, by omega, rfl, rfl, rfl, Below.refl _ _, fun u hu => by simp at hu⟩
      case round =>
        obtain ⟨i, hi, rfl, rfl, rfl, HLW, HGO⟩ := hrel
        obtain ⟨w6, rfl⟩ : ∃ x, x = wr := ⟨wr, rfl⟩
        have HW6 := hideIt (HW5.out.trans (HLW.out.mono HW5.out.size))
        have HBC6 := hideIt (HBC.out.keep HW6.out)
        by_cases hlt : i < us.length
        · have ccu := HC1.out _ HW6.out i _ (show (us.map sv)[i]? = some (sv us[i]) by rw [List.getElem?_map, List.getElem?_eq_getElem hlt]; rfl)
          have ccz := HC1.out _ HW6.out 0 _ (show (us.map sv)[0]? = some (sv us[0]) by rw [List.getElem?_map, List.getElem?_eq_getElem h0]; rfl)
          rw [addr_add] at ccu ccz
          rw [Nat.add_zero] at ccz
          have c1 := HBC6.out.c1
          rw [HFM.out] at c1
          have HMEM := hideIt (List.getElem_mem hlt)
          have HTK := hideIt (take_snoc us i hlt)
          have hsz := str_size us[i]
          have hsz0 := str_size us[0]
          have HU1 := hideIt HU0.out
          have hinc := inc_c 3 i (by omega)
          have hii : (i : Int) < (us.length : Int) := by omega
          have h0i : (0 : Int) < (us.length : Int) := by omega
          have hb64 := HBG.out _ (List.getElem_mem hlt)
          have hne := i_neq 3 .i64 (us[i].length : Int) (us[0].length : Int)
          have hrem := nrem 3 us[i].length 2 (by decide)
          have hm16 := i_eql 3 .i64 (m : Int) 16
          have hodd := i_eql 3 .i64 ((us[i].length % 2 : Nat) : Int) 1
          change w6.cell? ⟨b1, o1 + i, none⟩ = some (.string (str us[i])) at ccu
          change w6.cell? ⟨b1, o1, none⟩ = some (.string (str us[0])) at ccz
          generalize us[i] = u at *
          generalize us[0] = z at *
          generalize str u = su at *
          generalize str z = sz at *
          by_cases hle : u.length = z.length
          · rw [decide_eq_false (show ¬ (u.length : Int) ≠ (z.length : Int) by omega)] at hne
            rcases HVC.out.fm with hm | hm
            · rw [decide_eq_false (by omega)] at hm16
              have HN := hideIt (show ∀ v ∈ us.take (i + 1), v.length = ul us ∧ v.length % (m / 8) = 0 by
                intro v hv
                rw [HTK.out] at hv
                rcases List.mem_append.1 hv with hv | hv
                · exact HGO.out v hv
                · rw [List.mem_singleton] at hv
                  subst hv
                  exact ⟨hle.trans HU1.out, by rw [hm]; omega⟩)
              clear hle hm hlt hrem hodd hb64
              go_wp2_with fail
              go_quiet (fail)
              go_wp2_with fail
              go_roundg (gk - 1)
              case measure => omega
              case rel => exact ⟨i + 1, by omega, rfl, rfl, by go_num, below_drewN HLW.out _, HN.out⟩
            · rw [decide_eq_true (by omega)] at hm16
              by_cases hpar : u.length % 2 = 1
              · have hrem1 : binOp .rem 3 (.int .i64 (u.length : Int)) (.int .i64 2) = pure (.int .i64 1) := by rw [show (2 : Int) = ((2 : Nat) : Int) from rfl, hrem, hpar]; rfl
                have he11 : binOp .eql 3 (.int .i64 1) (.int .i64 1) = pure (.bool true) := by rw [i_eql]; rfl
                have HE := hideIt (HRF.out u HMEM.out (fun h => by have := h.2; rw [hm] at this; omega))
                clear hle hm hlt hpar hb64 hrem hodd
                go_wp2_with fail
                go_quiet (fail)
                go_wp2_with fail
                go_ret2
                rw [HE.out]
                exact StrRes.nil (below_drewN (HB.out.trans (HW6.out.mono HB.out.size)) _) 1
              · have hrem1 : binOp .rem 3 (.int .i64 (u.length : Int)) (.int .i64 2) = pure (.int .i64 0) := by rw [show (2 : Int) = ((2 : Nat) : Int) from rfl, hrem, show u.length % 2 = 0 by omega]; rfl
                have he11 : binOp .eql 3 (.int .i64 0) (.int .i64 1) = pure (.bool false) := by rw [i_eql]; rfl
                have HN := hideIt (show ∀ v ∈ us.take (i + 1), v.length = ul us ∧ v.length % (m / 8) = 0 by
                  intro v hv
                  rw [HTK.out] at hv
                  rcases List.mem_append.1 hv with hv | hv
                  · exact HGO.out v hv
                  · rw [List.mem_singleton] at hv
                    subst hv
                    exact ⟨hle.trans HU1.out, by rw [hm]; omega⟩)
                clear hle hm hlt hpar hb64 hrem hodd
                go_wp2_with fail
                go_quiet (fail)
                go_wp2_with fail
                go_roundg (gk - 1)
                case measure => omega
                case rel => exact ⟨i + 1, by omega, rfl, rfl, by go_num, below_drewN HLW.out _, HN.out⟩
          · rw [decide_eq_true (show (u.length : Int) ≠ (z.length : Int) by omega)] at hne
            have HE := hideIt (HRF.out u HMEM.out (fun h => hle (h.1.trans HU1.out.symm)))
            clear hle hlt hrem hodd hm16 hb64
            go_wp2_with fail
            go_quiet (fail)
            go_wp2_with fail
            go_ret2
            rw [HE.out]
            exact StrRes.nil (below_drewN (HB.out.trans (HW6.out.mono HB.out.size)) _) 1
        · have hii : ¬ (i : Int) < (us.length : Int) := by omega
          have HR := hideIt (HRT.out (by have := HGO.out; rwa [List.take_of_length_le (by omega)] at this))
          have HP6 := hideIt (own_kept HP5.out HLW.out)
          clear HRT HRF HGO
          go_wp2_with fail
          go_loopg [7, 9, 10, 11] x.par.length (fun g s7 s9 s10 s11 wr => ∃ j : Nat, j + g = x.par.length ∧ s9 = .int .i64 (j : Int) ∧ Aside (Below w1.heap.size w1 wr) ∧ Aside (wr.ownsRow w1.heap.size 9 1 s7 (us.length + j) ((us ++ (x.par.take j).map (fun r => cbS x.field r us)).map sv)))
          case atStart => exact ⟨0, by omega, rfl, HL5.out.trans (HLW.out.mono HL5.out.size), by have := HP6.out; simpa [Aside] using this⟩
          case round =>
            obtain ⟨j, hj, rfl, HLJ, HO⟩ := hrel
            obtain ⟨A7, c7, rfl, _, _⟩ := own_form HO.out
            obtain ⟨w7, rfl⟩ : ∃ x, x = wr := ⟨wr, rfl⟩
            have HW7 := hideIt (HB1.out.trans (HLJ.out.mono HB1.out.size))
            have HBC7 := hideIt (HBC.out.keep HW7.out)
            have c37 := HBC7.out.c3
            by_cases hlt2 : j < x.par.length
            · obtain ⟨b, o, A', c', hA, hb, hcell, hsl⟩ := HBC7.out.cin.pm.row hlt2
              have hr100 : (x.par[j]).length ≤ 100000 := by have := (HVC.out.row _ (List.getElem_mem hlt2)).1; have := HVC.out.wid; omega
              have HTK := hideIt (take_snoc x.par j hlt2)
              have c1 := HBC7.out.c1
              subst hA
              have HCM := hideIt (fun W2 (h : Below w7.heap.size w7 W2) => rcombine_any x.field A' c' (x.par[j]) (some ⟨b1, o1, none⟩) cd us W2 hr100 (fun u hu => Nat.le_trans (HBG.out u hu) (by decide)) ((hsl.below h).wide h.size) ((HSL.out.below (HW7.out.trans (h.mono HW7.out.size))).wide (HW7.out.trans (h.mono HW7.out.size)).size))
              have hinc := inc_c 3 j (by omega)
              have hji : (j : Int) < (x.par.length : Int) := by omega
              have HKC := hideIt (fun W2 (h : Below w7.heap.size w7 W2) => show W2.cell? ⟨w.heap.size, 1, none⟩ = some (.int .i64 x.field) ∧ W2.cell? ⟨w.heap.size, 3, none⟩ = some (.slice (some ⟨b, o, none⟩) x.par.length c) ∧ W2.cell? ⟨b, o + j, none⟩ = some (.slice A' (x.par[j]).length c') from
                ⟨(h.cell (p := ⟨w.heap.size, 1, none⟩) HBC7.out.box.lt).trans c1, (h.cell (p := ⟨w.heap.size, 3, none⟩) HBC7.out.box.lt).trans c37, (h.cell (p := ⟨b, o + j, none⟩) hb).trans hcell⟩)
              generalize x.par[j] = l at *
              clear hsl hb hr100
              obtain ⟨cc1, cc3, ccl⟩ := HKC.out w7 (Below.refl _ _)
              clear c1 c37 hcell
              go_wp2_with fail
              refine loads_begin_n 14 [(12, fun W => W.cell? ⟨w.heap.size, 1, none⟩ = some (.int .i64 x.field)), (12, fun W => W.cell? ⟨w.heap.size, 3, none⟩ = some (.slice (some ⟨b, o, none⟩) x.par.length c)), (12, fun W => W.cell? ⟨b, o + j, none⟩ = some (.slice A' l.length c'))] rfl (by kernel_rfl) ?_
              refine wpAnyL_move (oi := ⟨some 64, _, _, _, _, _⟩) 0 ?_ rfl (by kernel_rfl) (by kernel_rfl) (by kernel_rfl) (by kernel_rfl) (fun _ _ _ h => h) (by kernel_rfl) ?_ ((Hooks.add cc1 (Hooks.add cc3 (Hooks.add ccl (Hooks.nil _ _))))) ?_
              rotate_left
              · intro W'; go_simp; first | done | with_reducible rfl
              try simp only [Act.put]
              try simp only [List.setIfInBounds_toArray]
              try simp only [List.set_cons_succ]
              try simp only [List.set_cons_zero]
              refine wpAnyL_take (oi := ⟨some 65, _, _, _, _, _⟩) 1 12 (.int .i64 x.field) _ rfl (by kernel_rfl) (by kernel_rfl) (by kernel_rfl) (by kernel_rfl) (by kernel_rfl) (by kernel_rfl) (.head _) (fun _ _ _ h => h) (by kernel_rfl) (fun W' hW' => by (try dsimp only at hW'); go_simp) (Hooks.add cc1 (Hooks.add cc3 (Hooks.add ccl (Hooks.nil _ _)))) ?_
              try simp only [Act.put]
              try simp only [List.setIfInBounds_toArray]
              try simp only [List.set_cons_succ]
              try simp only [List.set_cons_zero]
              refine wpAnyL_move (oi := ⟨some 66, _, _, _, _, _⟩) 2 ?_ rfl (by kernel_rfl) (by kernel_rfl) (by kernel_rfl) (by kernel_rfl) (fun _ _ _ h => h) (by kernel_rfl) ?_ ((Hooks.add cc1 (Hooks.add cc3 (Hooks.add ccl (Hooks.nil _ _))))) ?_
              rotate_left
              · intro W'; go_simp; first | done | with_reducible rfl
              try simp only [Act.put]
              try simp only [List.setIfInBounds_toArray]
              try simp only [List.set_cons_succ]
              try simp only [List.set_cons_zero]
              refine wpAnyL_take (oi := ⟨some 67, _, _, _, _, _⟩) 3 12 (.slice (some ⟨b, o, none⟩) x.par.length c) _ rfl (by kernel_rfl) (by kernel_rfl) (by kernel_rfl) (by kernel_rfl) (by kernel_rfl) (by kernel_rfl) (.tail _ (.head _)) (fun _ _ _ h => h) (by kernel_rfl) (fun W' hW' => by (try dsimp only at hW'); go_simp) (Hooks.add cc1 (Hooks.add cc3 (Hooks.add ccl (Hooks.nil _ _)))) ?_
              try simp only [Act.put]
              try simp only [List.setIfInBounds_toArray]
              try simp only [List.set_cons_succ]
              try simp only [List.set_cons_zero]
              refine wpAnyL_move (oi := ⟨some 68, _, _, _, _, _⟩) 4 ?_ rfl (by kernel_rfl) (by kernel_rfl) (by kernel_rfl) (by kernel_rfl) (fun _ _ _ h => h) (by kernel_rfl) ?_ ((Hooks.add cc1 (Hooks.add cc3 (Hooks.add ccl (Hooks.nil _ _))))) ?_
              rotate_left
              · intro W'; go_simp; first | done | with_reducible rfl
              try simp only [Act.put]
              try simp only [List.setIfInBounds_toArray]
              try simp only [List.set_cons_succ]
              try simp only [List.set_cons_zero]
              refine wpAnyL_move (oi := ⟨some 69, _, _, _, _, _⟩) 5 ?_ rfl (by kernel_rfl) (by kernel_rfl) (by kernel_rfl) (by kernel_rfl) (fun _ _ _ h => h) (by kernel_rfl) ?_ ((Hooks.add cc1 (Hooks.add cc3 (Hooks.add ccl (Hooks.nil _ _))))) ?_
              rotate_left
              · intro W'; go_simp; first | done | with_reducible rfl
              try simp only [Act.put]
              try simp only [List.setIfInBounds_toArray]
              try simp only [List.set_cons_succ]
              try simp only [List.set_cons_zero]
              refine wpAnyL_take (oi := ⟨some 70, _, _, _, _, _⟩) 6 12 (.slice A' l.length c') _ rfl (by kernel_rfl) (by kernel_rfl) (by kernel_rfl) (by kernel_rfl) (by kernel_rfl) (by kernel_rfl) (.tail _ (.tail _ (.head _))) (fun _ _ _ h => h) (by kernel_rfl) (fun W' hW' => by (try dsimp only at hW'); go_simp) (Hooks.add cc1 (Hooks.add cc3 (Hooks.add ccl (Hooks.nil _ _)))) ?_
              try simp only [Act.put]
              try simp only [List.setIfInBounds_toArray]
              try simp only [List.set_cons_succ]
              try simp only [List.set_cons_zero]
              refine wpAnyL_move (oi := ⟨some 71, _, _, _, _, _⟩) 7 ?_ rfl (by kernel_rfl) (by kernel_rfl) (by kernel_rfl) (by kernel_rfl) (fun _ _ _ h => h) (by kernel_rfl) ?_ ((Hooks.add cc1 (Hooks.add cc3 (Hooks.add ccl (Hooks.nil _ _))))) ?_
              rotate_left
              · intro W'; go_simp; first | done | with_reducible rfl
              try simp only [Act.put]
              try simp only [List.setIfInBounds_toArray]
              try simp only [List.set_cons_succ]
              try simp only [List.set_cons_zero]
              refine wpAnyL_one (o := ⟨some 72, _, _, _, _, _⟩) 8 (by kernel_rfl) rfl (fun K hK => ?_)
              go_wp2_with (first
                | (go_at_call 51; refine (HCM.out _ (Below.refl w7.heap.size w7).drew).mono ?_; rintro e w8 ⟨rfl, hb8⟩))
              have HB8 := hideIt (show Below w7.heap.size w7 w8 from (Below.refl w7.heap.size w7).drew.trans hb8)
              obtain ⟨dd1, dd3, ddl⟩ := HKC.out w8 HB8.out
              refine hK _ _ (Hooks.add dd1 (Hooks.add dd3 (Hooks.add ddl (Hooks.nil _ _)))) ?_
              clear hK K hb8
              have HO8 := hideIt (own_kept HO.out HB8.out)
              refine wpAnyL_move (oi := ⟨some 63, _, _, _, _, _⟩) 9 ?_ rfl (by kernel_rfl) (by kernel_rfl) (by kernel_rfl) (by kernel_rfl) (fun _ _ _ h => h) (by kernel_rfl) ?_ ((Hooks.add dd1 (Hooks.add dd3 (Hooks.add ddl (Hooks.nil _ _))))) ?_
              rotate_left
              · intro W'; go_simp; first | done | with_reducible rfl
              try simp only [Act.put]
              try simp only [List.setIfInBounds_toArray]
              try simp only [List.set_cons_succ]
              try simp only [List.set_cons_zero]
              refine wpAnyL_move (oi := ⟨some 73, _, _, _, _, _⟩) 10 ?_ rfl (by kernel_rfl) (by kernel_rfl) (by kernel_rfl) (by kernel_rfl) (fun _ _ _ h => h) (by kernel_rfl) ?_ ((Hooks.add dd1 (Hooks.add dd3 (Hooks.add ddl (Hooks.nil _ _))))) ?_
              rotate_left
              · intro W'; go_simp; first | done | with_reducible rfl
              try simp only [Act.put]
              try simp only [List.setIfInBounds_toArray]
              try simp only [List.set_cons_succ]
              try simp only [List.set_cons_zero]
              refine wpAnyL_move (oi := ⟨some 74, _, _, _, _, _⟩) 11 ?_ rfl (by kernel_rfl) (by kernel_rfl) (by kernel_rfl) (by kernel_rfl) (fun _ _ _ h => h) (by kernel_rfl) ?_ ((Hooks.add dd1 (Hooks.add dd3 (Hooks.add ddl (Hooks.nil _ _))))) ?_
              rotate_left
              · intro W'; go_simp; first | done | with_reducible rfl
              try simp only [Act.put]
              try simp only [List.setIfInBounds_toArray]
              try simp only [List.set_cons_succ]
              try simp only [List.set_cons_zero]
              refine loads_tail 12 (by kernel_rfl) (by kernel_rfl) (by kernel_rfl) (by kernel_rfl) ?_
              simp only [List.drop_succ_cons, List.drop_zero]
              clear cc1 cc3 ccl dd1 dd3 ddl HCM HKC
              go_wp2_with (first
                | ((with_reducible refine at_append ?_); refine wpList_apS (n := us.length + j) rfl (.tmp 75) (.tmp 77) rfl rfl HO8.out rfl (by omega) (Nat.le_trans HLJ.out.size HB8.out.size) ?_; intro v9 w9 HO9 HG9 HA9 HB9))
              go_roundg (gk - 1)
              case measure => omega
              case rel => exact ⟨j + 1, by omega, by go_num, HLJ.out.trans ((HB8.out.mono HLJ.out.size).trans HB9.out), by
                have e : us ++ (x.par.take (j + 1)).map (fun r => cbS x.field r us) = us ++ (x.par.take j).map (fun r => cbS x.field r us) ++ [cbS x.field l us] := by rw [HTK.out, List.map_append, ← List.append_assoc]; rfl
                show World.ownsRow _ _ _ _ _ _ ((us ++ (x.par.take (j + 1)).map (fun r => cbS x.field r us)).map sv)
                rw [e]; exact HO9.out⟩
            · have hji : ¬ (j : Int) < (x.par.length : Int) := by omega
              go_wp2_with fail
              go_ret2
              rw [HR.out]
              refine ⟨_, rfl, ?_, HB.out.trans (HW7.out.mono HB.out.size)⟩
              show w7.ownsRow w.heap.size _ 1 (.slice A7 (us.length + j) c7) _ _
              have := own_base HO.out (Nat.le_trans HB.out.size HB1.out.size)
              rw [List.take_of_length_le (by omega)] at this
              rw [List.length_append, List.length_map, show us.length + x.par.length = us.length + j by omega]
              exact this
    · rw [decide_eq_true q2] at hq
      have HR : Hid (encR x us = ([], 1)) := hideIt (by unfold encR; rw [if_neg (fun h => q2 h.2.1)])
      clear q1 q2 hvc
      go_enter Tryd.func25, Tryd.ntmps25
      go_wp2_with (first
        | (go_at_call 26; rw [← HWE.out]; refine HV.out.mono ?_; rintro e w1 ⟨rfl, hb1⟩; have HB1 := hideIt hb1; have c2 := (HBC.out.keep hb1).c2; clear hb1 HV))
      go_ret2
      rw [HR.out]
      exact StrRes.nil (HB.out.trans (HB1.out.mono HB.out.size)) 1
  | false =>
    rw [q1] at HV
    have HR : Hid (encR x us = ([], 1)) := hideIt (by unfold encR; rw [if_neg (fun h => by rw [q1] at h; exact absurd h.1 (by decide))])
    clear q1
    go_enter Tryd.func25, Tryd.ntmps25
    go_wp2_with (first
      | (go_at_call 26; rw [← HWE.out]; refine HV.out.mono ?_; rintro e w1 ⟨rfl, hb1⟩; have HB1 := hideIt hb1; clear hb1 HV))
    go_ret2
    rw [HR.out]
    exact StrRes.nil (HB.out.trans (HB1.out.mono HB.out.size)) 1
theorem xr_zz (n : Nat) : xr (List.replicate n 0) (List.replicate n 0) = List.replicate n 0 := by
  unfold xr
  rw [List.zipWith_replicate]
  simp
theorem alk_gd {m : Nat} {r : List Int} {a : List (List UInt8)} (hr : r.length = a.length) (h0 : 0 < r.length) (hv : ∀ c ∈ r, vd (m : Int) c = true) (hal : alk m a = true) : Gd (m : Int) r a := by
  unfold alk at hal
  rw [List.all_eq_true] at hal
  have h := fun u hu => of_decide_eq_true (hal u hu)
  refine ⟨h0, hr, hv, fun u hu => (h u hu).1, ?_⟩
  rw [Int.toNat_natCast]
  have h1 := h a[0] (List.getElem_mem (by omega))
  rw [← h1.1]
  exact h1.2
theorem cbS_is {m : Nat} {r : List Int} {a : List (List UInt8)} (h : Gd (m : Int) r a) : cbS (m : Int) r a = cmbF m (List.replicate (ul a) 0) ((r.map Int.toNat).zip a) := by
  unfold cbS
  rw [if_pos h, Int.toNat_natCast]
  unfold cmbK prs
  rw [List.take_of_length_le (by simp; omega)]
theorem cbS_len {m : Nat} (hm : Fm m) {r : List Int} {a : List (List UInt8)} (h : Gd (m : Int) r a) : (cbS (m : Int) r a).length = ul a := by
  unfold cbS
  rw [if_pos h, Int.toNat_natCast]
  have h5 := h.2.2.2.2
  rw [Int.toNat_natCast] at h5
  exact cmbK_len hm r a h.2.2.2.1 h5 _
theorem enc_short (x : Cd) {a : List (List UInt8)} (ha : ∀ u ∈ a, u.length ≤ 64) : ∀ u ∈ (encR x a).1, u.length ≤ 64 := by
  intro u hu
  unfold encR at hu
  split at hu
  · next h =>
    rcases List.mem_append.1 hu with hu | hu
    · exact ha u hu
    · obtain ⟨r, hr, rfl⟩ := List.mem_map.1 hu
      obtain ⟨m, n, hvc⟩ := vC_spec h.1
      have han : a.length = n := by have := h.2.1; rw [hvc.d] at this; omega
      obtain ⟨q1, q2, _⟩ := hvc.row r hr
      have hp := hvc.pos
      have hal : alk m a = true := by have := h.2.2; rw [hvc.fn] at this; exact this
      rw [hvc.f] at q2 ⊢
      rw [cbS_len hvc.fm (alk_gd (q1.trans han.symm) (by omega) q2 hal), ← ul_zero a (by omega)]
      exact ha _ (List.getElem_mem _)
  · cases hu
theorem sc_add {m : Nat} (hm : Fm m) (a b : Nat) (l : List UInt8) (h : whl m l) : sc m (a ^^^ b) l = xr (sc m a l) (sc m b l) := by
  rcases hm with rfl | rfl
  · rw [sc8_eq, sc8_eq, sc8_eq]
    clear h
    induction l with
    | nil => rfl
    | cons u l ih =>
      rw [List.map_cons, List.map_cons, List.map_cons, xr_cons, ih, mulR, ofNat_xor]
  · revert h
    refine pairs (P := fun l => sc 16 (a ^^^ b) l = xr (sc 16 a l) (sc 16 b l)) rfl ?_ l
    intro u v l _ ih
    rw [sc16_cons, sc16_cons, sc16_cons, xr_cons, xr_cons, ih, mulR, ofNat_xor, div256_xor, ofNat_xor]
theorem sc_mul {m : Nat} (hm : Fm m) {c d : Nat} (hc : c < 2 ^ m) (hd : d < 2 ^ m) (l : List UInt8) (h : whl m l) : sc m c (sc m d l) = sc m (mul m d c) l := by
  rcases hm with rfl | rfl
  · rw [sc8_eq, sc8_eq, sc8_eq, List.map_map]
    apply List.map_congr_left
    intro u _
    have hu := u.toNat_lt
    have e : mul 8 u.toNat d < 256 := mul_lt (m := 8) (Or.inl rfl) d hu
    show UInt8.ofNat (mul 8 (UInt8.ofNat (mul 8 u.toNat d)).toNat c) = _
    rw [UInt8.toNat_ofNat', Nat.mod_eq_of_lt e, mul_assoc (Or.inl rfl) hu hd hc]
  · revert h
    refine pairs (P := fun l => sc 16 c (sc 16 d l) = sc 16 (mul 16 d c) l) rfl ?_ l
    intro u v l _ ih
    have hs := sym_lt u v
    have e : mul 16 (256 * u.toNat + v.toNat) d < 65536 := mul_lt (m := 16) (Or.inr rfl) d hs
    rw [sc16_cons, sc16_cons, sc16_cons, ih, byte_of _ e, mul_assoc (Or.inr rfl) hs hd hc]
theorem sc_one {m : Nat} (hm : Fm m) (l : List UInt8) (h : whl m l) : sc m 1 l = l := by
  rcases hm with rfl | rfl
  · rw [sc8_eq]
    conv => rhs; rw [← List.map_id l]
    apply List.map_congr_left
    intro u _
    rw [mul_oneR (Or.inl rfl)]
    apply UInt8.toNat_inj.1
    rw [UInt8.toNat_ofNat']
    have := u.toNat_lt
    show u.toNat % 256 = u.toNat
    omega
  · revert h
    refine pairs (P := fun l => sc 16 1 l = l) rfl ?_ l
    intro u v l _ ih
    have h1 := u.toNat_lt
    have h2 := v.toNat_lt
    rw [sc16_cons, ih, mul_oneR (Or.inr rfl)]
    congr 1
    · apply UInt8.toNat_inj.1
      rw [UInt8.toNat_ofNat']
      omega
    · congr 1
      apply UInt8.toNat_inj.1
      rw [UInt8.toNat_ofNat']
      omega
theorem sc_nil {m : Nat} (hm : Fm m) (l : List UInt8) (h : whl m l) : sc m 0 l = List.replicate l.length 0 := by
  rcases hm with rfl | rfl
  · rw [sc8_eq]
    refine List.ext_getElem (by simp) fun i h1 h2 => ?_
    rw [List.getElem_map, List.getElem_replicate, mul_zeroR]
    rfl
  · revert h
    refine pairs (P := fun l => sc 16 0 l = List.replicate l.length 0) rfl ?_ l
    intro u v l _ ih
    rw [sc16_cons, ih, mul_zeroR]
    rfl
theorem xr_comm (a b : List UInt8) : xr a b = xr b a := by
  unfold xr
  exact List.zipWith_comm_of_comm fun x y => UInt8.xor_comm x y
theorem xr_zeroR (l : List UInt8) : xr l (List.replicate l.length 0) = l := by rw [xr_comm, xr_zero]
/-- The combination of n units of s bytes. -/
def lc (m s : Nat) (a : Nat → Nat) (d : Nat → List UInt8) : Nat → List UInt8
  | 0 => List.replicate s 0
  | k + 1 => xr (lc m s a d k) (sc m (a k) (d k))
section
variable {m s n : Nat} {d : Nat → List UInt8} (hm : Fm m) (hs : s % (m / 8) = 0) (hd : ∀ k, k < n → (d k).length = s)
include hm hs hd
theorem lc_len (a : Nat → Nat) : ∀ k, k ≤ n → (lc m s a d k).length = s
  | 0, _ => by show (List.replicate s 0).length = s; simp
  | k + 1, hk => by
    have h1 := lc_len a k (by omega)
    have h2 := hd k (by omega)
    have h3 : (sc m (a k) (d k)).length = s := by rw [sc_len hm _ _ (by unfold whl; rw [h2]; exact hs), h2]
    show (xr _ _).length = s
    rw [xr_len _ _ (h1.trans h3.symm), h1]
/-- Adding a multiple of a combination. -/
theorem lc_step (a g : Nat → Nat) {c : Nat} (hc : c < 2 ^ m) (hg : ∀ j, g j < 2 ^ m) : ∀ k, k ≤ n → xr (lc m s a d k) (sc m c (lc m s g d k)) = lc m s (fun j => a j ^^^ mul m c (g j)) d k
  | 0, _ => by
    show xr (List.replicate s 0) (sc m c (List.replicate s 0)) = List.replicate s 0
    rw [sc_zero hm c s (by unfold whl; rw [List.length_replicate]; exact hs), xr_zz]
  | k + 1, hk => by
    have ih := lc_step a g hc hg k (by omega)
    have h1 := lc_len hm hs hd g k (by omega)
    have h2 := hd k (by omega)
    have hw : whl m (d k) := by unfold whl; rw [h2]; exact hs
    have h3 : (sc m (g k) (d k)).length = s := by rw [sc_len hm _ _ hw, h2]
    show xr (xr (lc m s a d k) (sc m (a k) (d k))) (sc m c (xr (lc m s g d k) (sc m (g k) (d k)))) = xr (lc m s (fun j => a j ^^^ mul m c (g j)) d k) (sc m (a k ^^^ mul m c (g k)) (d k))
    rw [sc_xr hm c _ _ (by unfold whl; rw [h1]; exact hs) (h1.trans h3.symm), xr_four, ih, sc_mul hm hc (hg k) _ hw, sc_add hm _ _ _ hw, mul_comm hm (hg k) hc]
/-- A combination with the coefficients of one unit. -/
theorem lc_unit (u : Nat) : ∀ k, k ≤ n → lc m s (fun j => if u = j then 1 else 0) d k = if u < k then d u else List.replicate s 0
  | 0, _ => by rw [if_neg (Nat.not_lt_zero _)]; rfl
  | k + 1, hk => by
    have ih := lc_unit u k (by omega)
    have h2 := hd k (by omega)
    have hw : whl m (d k) := by unfold whl; rw [h2]; exact hs
    show xr (lc m s (fun j => if u = j then 1 else 0) d k) (sc m (if u = k then 1 else 0) (d k)) = _
    rw [ih]
    by_cases e : u = k
    · subst e
      rw [if_neg (Nat.lt_irrefl _), if_pos rfl, if_pos (Nat.lt_succ_self _), sc_one hm _ hw, ← h2, xr_zero]
    · rw [if_neg e, sc_nil hm _ hw, h2]
      by_cases h : u < k
      · rw [if_pos h, if_pos (by omega), ← hd u (by omega), xr_zeroR]
      · rw [if_neg h, if_neg (by omega), xr_zz]
omit hm hs hd in
theorem lc_congr {a b : Nat → Nat} (h : ∀ j, j < n → a j = b j) : ∀ k, k ≤ n → lc m s a d k = lc m s b d k
  | 0, _ => rfl
  | k + 1, hk => by
    show xr (lc m s a d k) (sc m (a k) (d k)) = xr (lc m s b d k) (sc m (b k) (d k))
    rw [lc_congr h k (by omega), h k (by omega)]
theorem lc_none : ∀ k, k ≤ n → lc m s (fun _ => 0) d k = List.replicate s 0
  | 0, _ => rfl
  | k + 1, hk => by
    have h2 := hd k (by omega)
    show xr (lc m s (fun _ => 0) d k) (sc m 0 (d k)) = _
    rw [lc_none k (by omega), sc_nil hm _ (by unfold whl; rw [h2]; exact hs), h2, xr_zz]
/-- A sum of combinations. -/
theorem lc_sum (G : Mx) (hG : ∀ i j, G i j < 2 ^ m) : ∀ (L : List (Nat × Nat)) (a : Nat → Nat), (∀ t ∈ L, t.2 < 2 ^ m) → cmbF m (lc m s a d n) (L.map fun t => (t.2, lc m s (G t.1) d n)) = lc m s (fun j => L.foldl (fun x t => x ^^^ mul m t.2 (G t.1 j)) (a j)) d n
  | [], _, _ => rfl
  | t :: L, a, h => by
    show cmbF m (xr (lc m s a d n) (sc m t.2 (lc m s (G t.1) d n))) (L.map fun t => (t.2, lc m s (G t.1) d n)) = _
    rw [lc_step hm hs hd a (G t.1) (h t List.mem_cons_self) (hG t.1) n (Nat.le_refl _), lc_sum G hG L _ fun u hu => h u (List.mem_cons_of_mem _ hu)]
    rfl
end
/-- A combination, as the program computes it. -/
theorem cbS_lc {m : Nat} {r : List Int} {us : List (List UInt8)} (h : Gd (m : Int) r us) : cbS (m : Int) r us = lc m (ul us) (fun j => (r.getD j 0).toNat) (fun j => us.getD j []) us.length := by
  unfold cbS
  rw [if_pos h, Int.toNat_natCast]
  have key : ∀ k, k ≤ us.length → cmbK m r us k = lc m (ul us) (fun j => (r.getD j 0).toNat) (fun j => us.getD j []) k := by
    intro k
    induction k with
    | zero => intro _; rfl
    | succ k ih =>
      intro hk
      have hkr : k < r.length := by have := h.2.1; omega
      rw [cmbK_next m r us h.2.1 k (by omega), ih (by omega)]
      show _ = xr _ (sc m ((r.getD k 0).toNat) (us.getD k []))
      rw [show r.getD k 0 = r[k] by simp [List.getD_eq_getElem?_getD, hkr], show us.getD k [] = us[k] by simp [List.getD_eq_getElem?_getD, show k < us.length by omega]]
  exact key _ (Nat.le_refl _)
/-- The sum of the rows of some terms. -/
def fsum (m : Nat) (G : Mx) (L : List (Nat × Nat)) : Nat → Nat := fun j => L.foldl (fun a t => a ^^^ mul m t.2 (G t.1 j)) 0
theorem fsum_snoc (m : Nat) (G : Mx) (L : List (Nat × Nat)) (t : Nat × Nat) (j : Nat) : fsum m G (L ++ [t]) j = fsum m G L j ^^^ mul m t.2 (G t.1 j) := by
  unfold fsum
  rw [List.foldl_append]
  rfl
theorem fsum_tms (m : Nat) (G : Mx) (B : List Nat) (c : Nat → Nat) (j : Nat) : ∀ p, fsum m G (tms B c p) j = sm p fun k => mul m (c k) (G (B.getD k 0) j)
  | 0 => rfl
  | p + 1 => by
    show fsum m G (if c p = 0 then tms B c p else tms B c p ++ [(B.getD p 0, c p)]) j = (sm p fun k => mul m (c k) (G (B.getD k 0) j)) ^^^ mul m (c p) (G (B.getD p 0) j)
    split
    · next h => rw [h, mul_zeroL, Nat.xor_zero]; exact fsum_tms m G B c j p
    · rw [fsum_snoc, fsum_tms m G B c j p]
theorem tms_inc {B : List Nat} {c : Nat → Nat} (hB : ∀ i l, i < l → l < B.length → B.getD i 0 < B.getD l 0) : ∀ p, p ≤ B.length → (tms B c p).Pairwise fun a b => a.1 < b.1
  | 0, _ => List.Pairwise.nil
  | p + 1, h => by
    show (if c p = 0 then tms B c p else tms B c p ++ [(B.getD p 0, c p)]).Pairwise _
    split
    · exact tms_inc hB p (by omega)
    · refine List.pairwise_append.2 ⟨tms_inc hB p (by omega), List.pairwise_singleton _ _, fun a ha b hb => ?_⟩
      rw [List.mem_singleton] at hb
      subst hb
      obtain ⟨i, hi, rfl, _⟩ := tms_mem ha
      exact hB i p hi (by omega)
theorem coef_facts {x : Cd} {m n : Nat} (h : VC x m n) {hs : List Bool} {u : Nat} (hr : recov x hs u) :
    (∀ t ∈ tms (basL x hs) (cofU x hs u) (basL x hs).length, t.1 < hs.length ∧ hs.getD t.1 false = true ∧ t.2 < 2 ^ m ∧ t.2 ≠ 0) ∧ (tms (basL x hs) (cofU x hs u) (basL x hs).length).Pairwise (fun a b => a.1 < b.1) ∧ (∀ j, j < n → fsum m (gC x) (tms (basL x hs) (cofU x hs u) (basL x hs).length) j = gC x u j) ∧ (tms (basL x hs) (cofU x hs u) (basL x hs).length).length ≤ 32 := by
  have hd := (recov_vc h hs u).1 hr
  have hc := cof_spec hd
  rw [cofU_vc h]
  have hbs : ∀ i, i < (basL x hs).length → (basL x hs).getD i 0 < hs.length ∧ hs.getD ((basL x hs).getD i 0) false = true := fun i hi => by
    rw [basL_vc h] at hi ⊢
    exact bas_at hi
  have hinc : ∀ i l, i < l → l < (basL x hs).length → (basL x hs).getD i 0 < (basL x hs).getD l 0 := fun i l h1 h2 => by
    rw [basL_vc h] at h2 ⊢
    exact bas_inc _ i l h1 h2
  refine ⟨fun t ht => ?_, tms_inc hinc _ (Nat.le_refl _), fun j hj => ?_, ?_⟩
  · obtain ⟨i, hi, rfl, h0⟩ := tms_mem ht
    exact ⟨(hbs i hi).1, (hbs i hi).2, hc.1 i, h0⟩
  · rw [fsum_tms]
    exact (hc.2.1 j hj).symm
  · have h1 := tms_len (basL x hs) (cof m n (basL x hs).length (sel (gC x) (basL x hs)) (gC x u)) (basL x hs).length
    have h2 : (basL x hs).length ≤ n := by rw [basL_vc h]; exact bas_le (n := n) (hv := hvF hs) h.fm (gC_v h) hs.length
    have := h.wid
    omega
theorem getD_app {α : Type} (a b : List α) (z : α) {i : Nat} (h : i < a.length) : (a ++ b).getD i z = a.getD i z := by
  rw [List.getD_eq_getElem?_getD, List.getElem?_append_left h, ← List.getD_eq_getElem?_getD]
theorem getD_appR {α : Type} (a b : List α) (z : α) {i : Nat} (h : a.length ≤ i) : (a ++ b).getD i z = b.getD (i - a.length) z := by
  rw [List.getD_eq_getElem?_getD, List.getElem?_append_right h, ← List.getD_eq_getElem?_getD]
theorem alk_iff8 (m : Nat) (us : List (List UInt8)) : alk m us = true ↔ ∀ u ∈ us, u.length = ul us ∧ u.length % (m / 8) = 0 := by
  unfold alk
  rw [List.all_eq_true]
  exact ⟨fun h u hu => of_decide_eq_true (h u hu), fun h u hu => decide_eq_true (h u hu)⟩
/-- A unit of a stripe is the combination of the data units with the unit's row. -/
theorem enc_unit {x : Cd} {m n : Nat} (h : VC x m n) {us : List (List UInt8)} (hn : us.length = n) (hal : alk m us = true) {u : Nat} (hu : u < n + x.par.length) :
    (us ++ x.par.map (fun r => cbS x.field r us)).getD u [] = lc m (ul us) (gC x u) (fun j => us.getD j []) n := by
  have hA := (alk_iff8 m us).1 hal
  have hpos := h.pos
  have hs : ul us % (m / 8) = 0 := by
    have h1 := hA us[0] (List.getElem_mem (by omega))
    rw [← h1.1]; exact h1.2
  have hd : ∀ k, k < n → ((fun j => us.getD j []) k).length = ul us := fun k hk => by
    show (us.getD k []).length = _
    rw [show us.getD k [] = us[k] by simp [List.getD_eq_getElem?_getD, show k < us.length by omega]]
    exact (hA _ (List.getElem_mem _)).1
  by_cases hun : u < n
  · rw [lc_congr (n := n) (b := fun j => if u = j then 1 else 0) (fun j _ => by unfold gC; rw [h.dn, if_pos hun]) n (Nat.le_refl _), lc_unit h.fm hs hd u n (Nat.le_refl _), if_pos hun]
    rw [getD_app _ _ _ (by omega)]
  · obtain ⟨k, rfl⟩ : ∃ k, u = n + k := ⟨u - n, by omega⟩
    have hk : k < x.par.length := by omega
    rw [getD_appR _ _ _ (by omega), hn, Nat.add_sub_cancel_left]
    rw [show (x.par.map (fun r => cbS x.field r us)).getD k [] = cbS x.field x.par[k] us by simp [List.getD_eq_getElem?_getD, hk]]
    obtain ⟨q1, q2, _⟩ := h.row _ (List.getElem_mem hk)
    rw [h.f] at q2 ⊢
    rw [cbS_lc (alk_gd (q1.trans hn.symm) (by omega) q2 hal), hn]
    refine lc_congr (n := n) (fun j _ => ?_) n (Nat.le_refl _)
    unfold gC
    rw [h.dn, if_neg (by omega), Nat.add_sub_cancel_left, show x.par.getD k [] = x.par[k] by simp [List.getD_eq_getElem?_getD, hk]]
theorem row_some {x : Cd} {m n : Nat} (h : VC x m n) {u : Nat} (hu : u < n + x.par.length) : ∃ j, j < n ∧ gC x u j ≠ 0 := by
  by_cases hun : u < n
  · exact ⟨u, hun, by unfold gC; rw [h.dn, if_pos hun, if_pos rfl]; decide⟩
  · obtain ⟨k, rfl⟩ : ∃ k, u = n + k := ⟨u - n, by omega⟩
    have hk : k < x.par.length := by omega
    obtain ⟨q1, _, a, ha, h0⟩ := h.row _ (List.getElem_mem hk)
    obtain ⟨j, hj, rfl⟩ := List.getElem_of_mem ha
    refine ⟨j, by omega, fun hz => h0 ?_⟩
    have := gC_par h hk (show j < n by omega)
    rw [hz] at this
    exact this.symm
/-- The sum of a recoverable unit's terms is the unit. -/
theorem sum_unit {x : Cd} {m n : Nat} (h : VC x m n) {us : List (List UInt8)} (hn : us.length = n) (hal : alk m us = true) {hs : List Bool} (hl : hs.length = n + x.par.length) {units : List (List UInt8)}
    (hp : ∀ i, i < hs.length → hs.getD i false = true → units.getD i [] = (us ++ x.par.map (fun r => cbS x.field r us)).getD i []) {u : Nat} (hu : u < hs.length) (hr : recov x hs u) :
    sumR x.field (trmR x hs u).1 units = (us ++ x.par.map (fun r => cbS x.field r us)).getD u [] := by
  have hA := (alk_iff8 m us).1 hal
  have hpos := h.pos
  have hsz : ul us % (m / 8) = 0 := by
    have h1 := hA us[0] (List.getElem_mem (by omega))
    rw [← h1.1]; exact h1.2
  have hd : ∀ k, k < n → ((fun j => us.getD j []) k).length = ul us := fun k hk => by
    show (us.getD k []).length = _
    rw [show us.getD k [] = us[k] by simp [List.getD_eq_getElem?_getD, show k < us.length by omega]]
    exact (hA _ (List.getElem_mem _)).1
  obtain ⟨z1, _, z3, _⟩ := coef_facts h hr
  have ht : (trmR x hs u).1 = tms (basL x hs) (cofU x hs u) (basL x hs).length := by unfold trmR; rw [if_pos hr]
  rw [ht, enc_unit h hn hal (by omega)]
  generalize tms (basL x hs) (cofU x hs u) (basL x hs).length = L at *
  have hne : L ≠ [] := by
    rintro rfl
    obtain ⟨j, hj, h0⟩ := row_some h (u := u) (by omega)
    exact h0 (z3 j hj).symm
  have hL0 : 0 < L.length := List.length_pos_iff.2 hne
  have hun : ∀ t ∈ L, units.getD t.1 [] = lc m (ul us) (gC x t.1) (fun j => us.getD j []) n := fun t ht => by
    obtain ⟨w1, w2, _⟩ := z1 t ht
    rw [hp t.1 w1 w2, enc_unit h hn hal (by omega)]
  have hln : ∀ t ∈ L, (units.getD t.1 []).length = ul us := fun t ht => by rw [hun t ht, lc_len h.fm hsz hd _ n (Nat.le_refl _)]
  have hulL : ul (L.map fun t => units.getD t.1 []) = ul us := by
    rw [← ul_zero _ (by rw [List.length_map]; exact hL0), List.getElem_map]
    exact hln _ (List.getElem_mem _)
  have hg : Gd (m : Int) (L.map fun t => (t.2 : Int)) (L.map fun t => units.getD t.1 []) := by
    refine ⟨by rw [List.length_map]; exact hL0, by rw [List.length_map, List.length_map], fun c hc => ?_, fun v hv => ?_, by rw [hulL, Int.toNat_natCast]; exact hsz⟩
    · obtain ⟨t, ht, rfl⟩ := List.mem_map.1 hc
      exact vd_true h.fm (z1 t ht).2.2.1
    · obtain ⟨t, ht, rfl⟩ := List.mem_map.1 hv
      rw [hulL]; exact hln t ht
  unfold sumR
  rw [h.f, cbS_is hg, hulL, List.map_map]
  have e1 : (List.map (Int.toNat ∘ fun t : Nat × Nat => (t.2 : Int)) L).zip (L.map fun t => units.getD t.1 []) = L.map fun t => (t.2, lc m (ul us) (gC x t.1) (fun j => us.getD j []) n) := by
    rw [List.zip_map']
    exact List.map_congr_left fun t ht => by rw [hun t ht]; rfl
  rw [e1, ← lc_none h.fm hsz hd n (Nat.le_refl _), lc_sum h.fm hsz hd (gC x) (fun i j => gC_v h i j) L _ fun t ht => (z1 t ht).2.2.1]
  exact lc_congr z3 n (Nat.le_refl _)
theorem presK_at {us : List (List UInt8)} {hs : List Bool} : ∀ {k : Nat} {u : List UInt8}, u ∈ presK us hs k → ∃ i, i < k ∧ hs.getD i false = true ∧ u = us.getD i []
  | 0, u, h => by cases h
  | k + 1, u, h => by
    by_cases h0 : hs.getD k false = true
    · rw [show presK us hs (k + 1) = presK us hs k ++ [us.getD k []] from if_pos h0] at h
      rcases List.mem_append.1 h with h | h
      · obtain ⟨i, h1, h2⟩ := presK_at h
        exact ⟨i, by omega, h2⟩
      · rw [List.mem_singleton] at h
        exact ⟨k, Nat.lt_succ_self k, h0, h⟩
    · rw [show presK us hs (k + 1) = presK us hs k from if_neg h0] at h
      obtain ⟨i, h1, h2⟩ := presK_at h
      exact ⟨i, by omega, h2⟩
/-- What Recover and Decode answer about a stripe, some of whose units were lost. -/
theorem round_trip {x : Cd} {m n : Nat} (h : VC x m n) {us : List (List UInt8)} (hn : us.length = n) (hal : alk m us = true) {hs : List Bool} (hok : okB x hs = true) (hl : hs.length = n + x.par.length) {units : List (List UInt8)} (hul : units.length = hs.length)
    (hp : ∀ i, i < hs.length → hs.getD i false = true → units.getD i [] = (us ++ x.par.map (fun r => cbS x.field r us)).getD i []) :
    (∀ i, i < hs.length → recov x hs i → recR x units hs (i : Int) = ((us ++ x.par.map (fun r => cbS x.field r us)).getD i [], 0)) ∧
    (∀ i, i < hs.length → ¬ recov x hs i → (recR x units hs (i : Int)).2 = 11 ∧ hs.getD i false = false) ∧
    ((∀ i, i < hs.length → recov x hs i) ↔ (basL x hs).length = nC x) ∧
    ((basL x hs).length = nC x → decR x units hs = (us ++ x.par.map (fun r => cbS x.field r us), 0)) ∧
    (¬ (basL x hs).length = nC x → decR x units hs = ([], 11)) := by
  have hG := gC_v h
  have hA := (alk_iff8 m us).1 hal
  have hpos := h.pos
  have hsz : ul us % (m / 8) = 0 := by
    have h1 := hA us[0] (List.getElem_mem (by omega))
    rw [← h1.1]; exact h1.2
  have hd : ∀ k, k < n → ((fun j => us.getD j []) k).length = ul us := fun k hk => by
    show (us.getD k []).length = _
    rw [show us.getD k [] = us[k] by simp [List.getD_eq_getElem?_getD, show k < us.length by omega]]
    exact (hA _ (List.getElem_mem _)).1
  have hread : readB x units hs = true := by
    unfold readB perB
    have hv : vC x = true := by unfold okB at hok; rw [Bool.and_eq_true] at hok; exact hok.1
    rw [Bool.and_eq_true]
    refine ⟨decide_eq_true (by unfold wC; rw [if_pos hv, h.d]; omega), ?_⟩
    show alk x.field.toNat _ = true
    rw [h.fn]
    have hpl : ∀ u ∈ presK units hs units.length, u.length = ul us := fun u hu => by
      obtain ⟨i, h1, h2, rfl⟩ := presK_at hu
      rw [hp i (by omega) h2, enc_unit h hn hal (by omega)]
      exact lc_len h.fm hsz hd _ n (Nat.le_refl _)
    rw [alk_iff8]
    intro u hu
    have h0 : 0 < (presK units hs units.length).length := List.length_pos_of_mem hu
    have e : ul (presK units hs units.length) = ul us := by
      rw [← ul_zero _ h0]
      exact hpl _ (List.getElem_mem _)
    rw [e, hpl u hu]
    exact ⟨rfl, hsz⟩
  have hsum := fun u (hu : u < hs.length) (hr : recov x hs u) => sum_unit h hn hal hl hp hu hr
  have hidx : ∀ i : Nat, i < hs.length → idxB hs (i : Int) = true := fun i hi => decide_eq_true (by omega)
  have hfull : (∀ i, i < hs.length → recov x hs i) ↔ (basL x hs).length = nC x := by
    simp only [recov_vc h]
    rw [show nC x = n from h.dn, basL_vc h]
    constructor
    · intro hr
      refine Nat.le_antisymm (bas_le h.fm hG hs.length) ?_
      have hI : Ind m n n idm := fun c hc h0 k hk => by
        have := h0 k hk
        unfold cb at this
        rw [sm_one hk (fun i _ hne => by unfold idm; rw [if_neg hne, mul_zeroR])] at this
        unfold idm at this
        rw [if_pos rfl, mul_oneR h.fm] at this
        exact this
      refine Ind.exchange (U := sel (gC x) (bas m n (gC x) (hvF hs) hs.length)) h.fm (idm_v h.fm) (fun i j => hG _ j) hI fun k hk => ?_
      exact (hr k (by omega)).congr (fun _ _ _ _ => rfl) fun j hj => by unfold gC idm; rw [h.dn, if_pos hk]
    · intro hf i _
      exact bas_full h.fm hG hf (hG i)
  refine ⟨fun i hi hr => ?_, fun i hi hr => ?_, hfull, fun hf => ?_, fun hf => ?_⟩
  · unfold recR
    rw [if_pos ⟨hok, hidx i hi, hread⟩, Int.toNat_natCast, if_pos (by unfold trmR; rw [if_pos hr]), hsum i hi hr]
  · refine ⟨?_, ?_⟩
    · unfold recR
      have ht : (trmR x hs i).2 = 11 := by unfold trmR; rw [if_neg hr]
      rw [if_pos ⟨hok, hidx i hi, hread⟩, Int.toNat_natCast, if_neg (by rw [ht]; decide)]
      exact ht
    · cases hb : hs.getD i false with
      | false => rfl
      | true => exact absurd ((recov_vc h hs i).2 (by rw [basL_vc h]; exact bas_span h.fm hG hs.length i hi hb)) hr
  · unfold decR
    rw [if_pos ⟨hok, hread⟩, if_pos hf]
    congr 1
    refine List.ext_getElem? fun i => ?_
    by_cases hi : i < hs.length
    · rw [List.getElem?_map, List.getElem?_range (by omega)]
      show some (sumR x.field (trmR x hs i).1 units) = _
      rw [hsum i hi (hfull.2 hf i hi), List.getD_eq_getElem?_getD, List.getElem?_eq_getElem (by rw [List.length_append, List.length_map]; omega)]
      rfl
    · rw [List.getElem?_eq_none (by rw [List.length_map, List.length_range]; omega), List.getElem?_eq_none (by rw [List.length_append, List.length_map]; omega)]
  · unfold decR
    rw [if_pos ⟨hok, hread⟩, if_neg hf]
end

end Go.Proofs.YtklngodlijiccaaDoor
