/-
  readable, Basis, Combination, Recoverable, Decodable, walked.
  Basis, Combination, Recoverable, Decodable, walked.
-/
import Derived.Test.YtpjgmekpnlpjaaaDoorEraT
namespace Go.Proofs.YtpjgmekpnlpjaaaDoor
open Go.RowKit
set_option linter.unusedVariables false
set_option linter.unusedSimpArgs false

set_option maxHeartbeats 1600000 in
set_option maxRecDepth 100000 in
theorem readable_any (x : Cd) (A : Option Addr) (c : Nat) (w : World) (hT : Tabs w) (hx : CIn w x A) (us : List (List UInt8)) (hbig : ∀ u ∈ us, u.length ≤ 100000) (D : Option Addr) (cd : Nat) (hD : Sl w w.heap.size D 1 us.length (us.map sv)) (hs : List Bool) (E : Option Addr) (ce : Nat) (hE : Sl w w.heap.size E 1 hs.length (hs.map bl)) (hok : okB x hs = true) :
    Calls Tryd.prog 54 #[x.v A c, .slice D us.length cd, .slice E hs.length ce] w fun e w' => e = .returned (.bool (readB x us hs)) ∧ Below w.heap.size w w' := by
  obtain ⟨W, hW⟩ : ∃ W, W = w.alloc (.cells (x.cs A c).toArray 24) := ⟨_, rfl⟩
  have hbw : Below w.heap.size w W := by rw [hW]; exact below_new w _
  have HB := hideIt hbw
  have HBC := hideIt (show BC W w.heap.size x A c by rw [hW]; exact BC.new c hx)
  have HV := hideIt (pers_any x A c W (hT.keep hbw) HBC.out.cin D us.length cd)
  have hnot := not_b
  have HT := hideIt (hT.keep hbw)
  have HSD := hideIt ((hD.below hbw).wide hbw.size)
  have HSE := hideIt ((hE.below hbw).wide hbw.size)
  have HWE := hideIt hW
  have HBG := hideIt hbig
  obtain ⟨m, n, hvc, hlen⟩ := VC.ok hok
  obtain ⟨r, hr⟩ : ∃ r, r = readB x us hs := ⟨_, rfl⟩
  rw [← hr]
  have HR := hideIt hr
  unfold readB at hr
  have HVC := hideIt hvc
  have HLEN := hideIt hlen
  clear hbw hT hx hW hD hE hbig
  cases q1 : perB x us.length with
  | true =>
    rw [q1] at HV
    have hul : us.length = n + x.par.length := by
      unfold perB wC at q1
      have := of_decide_eq_true q1
      have hv : vC x = true := by unfold okB at hok; rw [Bool.and_eq_true] at hok; exact hok.1
      rw [if_pos hv, hvc.d] at this
      omega
    have HUL := hideIt hul
    have hu32 : us.length ≤ 32 := by rw [hul]; exact hvc.wid
    have HR2 := hideIt (show r = alk m (presK us hs us.length) by rw [hr, q1, Bool.true_and]; show alk x.field.toNat _ = _; rw [hvc.fn])
    have HF := hideIt hvc.f
    clear q1 hr HR hvc hul hok hlen
    go_enter Tryd.func54, Tryd.ntmps54
    go_wp2_with (first
      | (go_at_call 73; rw [← HWE.out]; refine HV.out.mono ?_; rintro e w1 ⟨rfl, hb1⟩; have HB1 := hideIt hb1; clear hb1 HV))
    go_loopg [7, 16] us.length (fun gk s7 s16 wr => ∃ k : Nat, k + gk = us.length ∧ s16 = .int .i64 (k : Int) ∧ Aside (Below w1.heap.size w1 wr) ∧ Aside (wr.ownsRow w1.heap.size 9 1 s7 (presK us hs k).length ((presK us hs k).map sv)))
    case atStart => exact ⟨0, by omega, rfl, Below.refl _ _, World.ownsRow_nil _ _ _ _⟩
    case round =>
      obtain ⟨k, hk, rfl, HLW, HO⟩ := hrel
      obtain ⟨w5, rfl⟩ : ∃ x, x = wr := ⟨wr, rfl⟩
      obtain ⟨A7, c7, e7, _, _⟩ := own_form HO.out
      subst e7
      have HLW2 := hideIt (HB1.out.trans (HLW.out.mono HB1.out.size))
      by_cases hlt : k < us.length
      · have hkh : k < hs.length := by rw [HLEN.out, ← HUL.out]; exact hlt
        obtain ⟨b, o, hA, hb, hcs⟩ := (HSD.out.below HLW2.out).strs (by omega)
        have hcu := hcs _ hlt
        obtain ⟨b2, o2, v, hA2, hb2, hv, hc⟩ := (HSE.out.below HLW2.out).at_ hkh
        rw [List.getElem?_map, List.getElem?_eq_getElem hkh] at hv
        injection hv with hv
        subst hv hA hA2
        have hgd : us.getD k [] = us[k] := by simp [List.getD_eq_getElem?_getD, hlt]
        have hgh : hs.getD k false = hs[k] := by simp [List.getD_eq_getElem?_getD, hkh]
        have HPT := hideIt (fun h : hs[k] = true => show presK us hs (k + 1) = presK us hs k ++ [us[k]] by rw [← hgd]; exact if_pos (by rw [hgh]; exact h))
        have HPF := hideIt (fun h : hs[k] = false => show presK us hs (k + 1) = presK us hs k from if_neg (by rw [hgh, h]; decide))
        have HPL := hideIt (presK_len us hs k)
        have hinc := inc_c 3 k (by omega)
        have hki : (k : Int) < (us.length : Int) := by omega
        have hkh2 : (k : Int) < (hs.length : Int) := by omega
        change w5.cell? ⟨b2, o2 + k, none⟩ = some (.bool hs[k]) at hc
        generalize us[k] = u at *
        generalize hs[k] = bk at *
        clear hcs hb hb2 hgd hgh
        cases bk with
        | true =>
          have HP := hideIt (HPT.out rfl)
          go_wp2_with (first
            | ((with_reducible refine at_append ?_); refine wpList_apS (n := (presK us hs k).length) rfl (.tmp 25) (.tmp 27) rfl rfl HO.out rfl (by have := HPL.out; omega) HLW.out.size ?_; intro v6 w6 HO6 HG6 HA6 HB6))
          go_roundg (gk - 1)
          case measure => omega
          case rel => exact ⟨k + 1, by omega, by go_num, HLW.out.trans HB6.out, by rw [HP.out, List.length_append]; exact HO6.out⟩
        | false =>
          have HP := hideIt (HPF.out rfl)
          go_wp2_with fail
          go_roundg (gk - 1)
          case measure => omega
          case rel => exact ⟨k + 1, by omega, by go_num, HLW.out, by rw [HP.out]; exact HO.out⟩
      · have hki : ¬ (k : Int) < (us.length : Int) := by omega
        have hke : k = us.length := by omega
        rw [hke] at HO
        have HAL := hideIt (alike_any m HVC.out.fm (presK us hs us.length) (by have := presK_len us hs us.length; omega) A7 c7 w5 (Sl.of_own HO.out) (fun u hu => Nat.le_trans (HBG.out u (presK_mem (Nat.le_refl _) hu)) (by decide)))
        rw [← HR2.out] at HAL
        have c1 := (HBC.out.keep HLW2.out).c1
        rw [HF.out] at c1
        rw [show presK us hs k = presK us hs us.length by rw [hke]]
        clear hke HR2
        go_wp2_with (first
          | (go_at_call 41; refine HAL.out.mono ?_; rintro e w6 ⟨rfl, rfl⟩; clear HAL))
        go_ret
        exact ⟨rfl, HB.out.trans (HLW2.out.mono HB.out.size)⟩
  | false =>
    rw [q1] at HV
    have HE := hideIt (show r = false by rw [hr, q1, Bool.false_and])
    clear q1 hr HR hvc hlen hok
    go_enter Tryd.func54, Tryd.ntmps54
    go_wp2_with (first
      | (go_at_call 73; rw [← HWE.out]; refine HV.out.mono ?_; rintro e w1 ⟨rfl, hb1⟩; have HB1 := hideIt hb1; clear hb1 HV))
    go_ret
    exact ⟨by rw [HE.out]; rfl, HB.out.trans (HB1.out.mono HB.out.size)⟩

noncomputable def basR (x : Cd) (hs : List Bool) : List Int × Int := if okB x hs = true then ((basL x hs).map fun b : Nat => (b : Int), 0) else ([], 1)
theorem pvC_map (B : List Nat) : pvC B = (B.map fun b : Nat => (b : Int)).map iv := by
  refine List.ext_getElem? fun j => ?_
  by_cases hj : j < B.length
  · rw [iv_at hj]
    simp [List.getD_eq_getElem?_getD, hj]
  · rw [List.getElem?_eq_none (by rw [List.length_map, nl_len]; omega), List.getElem?_eq_none (by simp; omega)]

/-- A basis that basisOf returned, put into a box. -/
structure BB (W : World) (p : Nat) (x : Cd) (m n : Nat) (hs : List Bool) (pv : List Nat) (Q : Mx) (gA uA rA pA : Option Addr) (gc uc rc pc : Nat) : Prop where
  rd : Rdc m n (gC x) (basL x hs) pv Q
  mem : BaM W x m n (basL x hs) pv Q gA uA rA pA
  cap : (n + x.par.length) * n ≤ gc
  box : Blk W p 74 (baC (m : Int) ((n + x.par.length : Nat) : Int) (n : Int) (.slice gA ((n + x.par.length) * n) gc) (.slice uA (basL x hs).length uc) (.slice rA (basL x hs).length rc) (.slice pA pv.length pc))
theorem BB.keep {W W' : World} {p : Nat} {x : Cd} {m n : Nat} {hs : List Bool} {pv : List Nat} {Q : Mx} {gA uA rA pA : Option Addr} {gc uc rc pc : Nat} (h : BB W p x m n hs pv Q gA uA rA pA gc uc rc pc) (hb : Below W.heap.size W W') : BB W' p x m n hs pv Q gA uA rA pA gc uc rc pc :=
  ⟨h.rd, h.mem.keep hb, h.cap, h.box.kept hb h.box.lt⟩
theorem BB.new {W : World} {x : Cd} {m n : Nat} {hs : List Bool} {pv : List Nat} {Q : Mx} {gA uA rA pA : Option Addr} {gc uc rc pc : Nat} (h1 : Rdc m n (gC x) (basL x hs) pv Q) (h2 : BaM W x m n (basL x hs) pv Q gA uA rA pA) (h3 : (n + x.par.length) * n ≤ gc) :
    BB (W.alloc (.cells (baC (m : Int) ((n : Int) + (x.par.length : Int)) (n : Int) (.slice gA ((n + x.par.length) * n) gc) (.slice uA (basL x hs).length uc) (.slice rA (basL x hs).length rc) (.slice pA pv.length pc)).toArray 74)) W.heap.size x m n hs pv Q gA uA rA pA gc uc rc pc :=
  ⟨h1, h2.keep (below_new W _), h3, Blk.new W 74 _⟩

set_option maxHeartbeats 800000 in
set_option maxRecDepth 100000 in
theorem basis_any (x : Cd) (A : Option Addr) (c : Nat) (w : World) (hT : Tabs w) (hx : CIn w x A) (hs : List Bool) (D : Option Addr) (cd : Nat) (hl : hs.length ≤ 100000) (hD : Sl w w.heap.size D 1 hs.length (hs.map bl)) :
    Calls Tryd.prog 24 #[x.v A c, .slice D hs.length cd] w (IntRes w (basR x hs)) := by
  obtain ⟨W, hW⟩ : ∃ W, W = w.alloc (.cells (x.cs A c).toArray 24) := ⟨_, rfl⟩
  have hbw : Below w.heap.size w W := by rw [hW]; exact below_new w _
  have HB := hideIt hbw
  have HBC := hideIt (show BC W w.heap.size x A c by rw [hW]; exact BC.new c hx)
  have HV := hideIt (basisOf_any x A c W (hT.keep hbw) HBC.out.cin hs D cd hl ((hD.below hbw).wide hbw.size))
  have HWE := hideIt hW
  clear hbw hT hx hW hD
  unfold basR
  cases q1 : okB x hs with
  | true =>
    rw [q1] at HV
    rw [if_pos rfl]
    clear q1
    go_enter Tryd.func24, Tryd.ntmps24
    go_wp2_with (first
      | (go_at_call 48; rw [← HWE.out]; refine HV.out.mono ?_; rintro e w1 ⟨⟨gA, gc, uA, uc, rA, rc, pA, pc, pv, Q, rfl, hrd, hm, hcap, ho⟩, hb1⟩; have HB1 := hideIt hb1; have HO := hideIt ho; clear hb1 hrd hm hcap ho HV))
    go_ret2
    exact ⟨_, rfl, by rw [List.length_map, ← pvC_map]; exact World.ownsRow.alloc (own_base HO.out HB.out.size) _, la7 (HB.out.trans (HB1.out.mono HB.out.size))⟩
  | false =>
    rw [q1] at HV
    rw [if_neg (by decide)]
    clear q1
    go_enter Tryd.func24, Tryd.ntmps24
    go_wp2_with (first
      | (go_at_call 48; rw [← HWE.out]; refine HV.out.mono ?_; rintro e w1 ⟨rfl, hb1⟩; have HB1 := hideIt hb1; clear hb1 HV))
    go_ret2
    exact IntRes.nil (la7 (HB.out.trans (HB1.out.mono HB.out.size))) 1

set_option maxHeartbeats 800000 in
set_option maxRecDepth 100000 in
theorem decodable_any (x : Cd) (A : Option Addr) (c : Nat) (w : World) (hT : Tabs w) (hx : CIn w x A) (hs : List Bool) (D : Option Addr) (cd : Nat) (hl : hs.length ≤ 100000) (hD : Sl w w.heap.size D 1 hs.length (hs.map bl)) :
    Calls Tryd.prog 31 #[x.v A c, .slice D hs.length cd] w fun e w' => e = .returned (.bool (okB x hs && decide ((basL x hs).length = nC x))) ∧ Below w.heap.size w w' := by
  obtain ⟨W, hW⟩ : ∃ W, W = w.alloc (.cells (x.cs A c).toArray 24) := ⟨_, rfl⟩
  have hbw : Below w.heap.size w W := by rw [hW]; exact below_new w _
  have HB := hideIt hbw
  have HBC := hideIt (show BC W w.heap.size x A c by rw [hW]; exact BC.new c hx)
  have HV := hideIt (basisOf_any x A c W (hT.keep hbw) HBC.out.cin hs D cd hl ((hD.below hbw).wide hbw.size))
  have HWE := hideIt hW
  have heq : binOp .eql 32 (.int .i64 0) (.int .i64 0) = pure (.bool true) := by rw [i_eql]; rfl
  have heq1 : binOp .eql 32 (.int .i64 1) (.int .i64 0) = pure (.bool false) := by rw [i_eql]; rfl
  clear hbw hT hx hW hD
  cases q1 : okB x hs with
  | true =>
    rw [q1] at HV
    rw [Bool.true_and]
    obtain ⟨m, n, hvc, hlen⟩ := VC.ok q1
    change Hid (Calls _ _ _ W fun e w' => BasOk W x x.field.toNat x.data.toNat hs e w') at HV
    rw [hvc.fn, hvc.dn] at HV
    show Calls _ _ _ _ fun e w' => e = .returned (.bool (decide ((basL x hs).length = x.data.toNat))) ∧ _
    rw [hvc.dn]
    clear q1 hvc hlen
    go_enter Tryd.func31, Tryd.ntmps31
    go_wp2_with (first
      | (go_at_call 48; rw [← HWE.out]; refine HV.out.mono ?_; rintro e w1 ⟨⟨gA, gc, uA, uc, rA, rc, pA, pc, pv, Q, rfl, hrd, hm, hcap, ho⟩, hb1⟩; have HB1 := hideIt hb1; have HBB := hideIt (BB.new (W := w1) (uc := uc) (rc := rc) (pc := pc) hrd hm hcap); clear hb1 hrd hm hcap ho HV)
      | (go_at_call 53; refine (isFull_any _ m _ n _ _ _ _ _ _ _ HBB.out.box).mono ?_; rintro e w2 ⟨rfl, hb2⟩; have HB2 := hideIt hb2; clear hb2))
    go_ret
    exact ⟨rfl, (la7 (HB.out.trans (HB1.out.mono HB.out.size))).trans (HB2.out.mono (la7 (HB.out.trans (HB1.out.mono HB.out.size))).size)⟩
  | false =>
    rw [q1] at HV
    rw [Bool.false_and]
    clear q1
    go_enter Tryd.func31, Tryd.ntmps31
    go_wp2_with (first
      | (go_at_call 48; rw [← HWE.out]; refine HV.out.mono ?_; rintro e w1 ⟨rfl, hb1⟩; have HB1 := hideIt hb1; clear hb1 HV))
    go_ret
    exact ⟨rfl, la7 (HB.out.trans (HB1.out.mono HB.out.size))⟩

set_option maxHeartbeats 800000 in
set_option maxRecDepth 100000 in
theorem combination_any (x : Cd) (A : Option Addr) (c : Nat) (w : World) (hT : Tabs w) (hx : CIn w x A) (hs : List Bool) (D : Option Addr) (cd : Nat) (hl : hs.length ≤ 100000) (hD : Sl w w.heap.size D 1 hs.length (hs.map bl)) (u : Int) :
    Calls Tryd.prog 26 #[x.v A c, .slice D hs.length cd, .int .i64 u] w (TermRes w (combR x hs u)) := by
  obtain ⟨W, hW⟩ : ∃ W, W = w.alloc (.cells (x.cs A c).toArray 24) := ⟨_, rfl⟩
  have hbw : Below w.heap.size w W := by rw [hW]; exact below_new w _
  have HB := hideIt hbw
  have HBC := hideIt (show BC W w.heap.size x A c by rw [hW]; exact BC.new c hx)
  have HV := hideIt (basisOf_any x A c W (hT.keep hbw) HBC.out.cin hs D cd hl ((hD.below hbw).wide hbw.size))
  have HWE := hideIt hW
  have HT := hideIt (hT.keep hbw)
  have hnot := not_b
  have heq : binOp .neq 32 (.int .i64 0) (.int .i64 0) = pure (.bool false) := by rw [i_neq]; rfl
  have heq1 : binOp .neq 32 (.int .i64 1) (.int .i64 0) = pure (.bool true) := by rw [i_neq]; rfl
  have HI := hideIt (fun W => isIndex_any D hs.length cd u W)
  obtain ⟨r, hr⟩ : ∃ r, r = combR x hs u := ⟨_, rfl⟩
  rw [← hr]
  have HR := hideIt hr
  unfold combR idxB at HR
  clear hbw hT hx hW hD hr
  cases q1 : okB x hs with
  | true =>
    rw [q1] at HV
    obtain ⟨m, n, hvc, hlen⟩ := VC.ok q1
    change Hid (Calls _ _ _ W fun e w' => BasOk W x x.field.toNat x.data.toNat hs e w') at HV
    rw [hvc.fn, hvc.dn] at HV
    by_cases q2 : 0 ≤ u ∧ u < hs.length
    · rw [decide_eq_true q2] at HI
      have HR2 := hideIt (show r = trmR x hs u.toNat by rw [HR.out, if_pos ⟨q1, decide_eq_true q2⟩])
      have HVC := hideIt hvc
      obtain ⟨k, hk⟩ : ∃ k : Nat, u = (k : Int) := ⟨u.toNat, by omega⟩
      subst hk
      have HKL := hideIt (show k < n + x.par.length by omega)
      rw [Int.toNat_natCast] at HR2
      clear q1 q2 hvc hlen HR
      go_enter Tryd.func26, Tryd.ntmps26
      go_wp2_with (first
        | (go_at_call 48; rw [← HWE.out]; refine HV.out.mono ?_; rintro e w1 ⟨⟨gA, gc, uA, uc, rA, rc, pA, pc, pv, Q, rfl, hrd, hm, hcap, ho⟩, hb1⟩; have HB1 := hideIt hb1; have HBB := hideIt (BB.new (W := w1) (uc := uc) (rc := rc) (pc := pc) hrd hm hcap); have HB2 := hideIt (la7 (o := .cells (baC (m : Int) ((n : Int) + (x.par.length : Int)) (n : Int) (.slice gA ((n + x.par.length) * n) gc) (.slice uA (basL x hs).length uc) (.slice rA (basL x hs).length rc) (.slice pA pv.length pc)).toArray 74) hb1); clear hb1 hrd hm hcap ho HV)
        | (go_at_call 50; refine (HI.out _).mono ?_; rintro e w2 ⟨rfl, rfl⟩)
        | (go_at_call 51; refine (terms_any HVC.out hs HBB.out.rd k HKL.out _ HBB.out.cap _ (HT.out.keep HB2.out) HBB.out.box HBB.out.mem).mono ?_; rintro e w2 ⟨v2, rfl, ho2, hb2⟩; have HO2 := hideIt ho2; have HB3 := hideIt hb2; clear ho2 hb2))
      go_ret2
      rw [HR2.out]
      exact ⟨_, rfl, own_base HO2.out (Nat.le_trans HB.out.size HB2.out.size), HB.out.trans ((HB2.out.trans (HB3.out.mono HB2.out.size)).mono HB.out.size)⟩
    · rw [decide_eq_false q2] at HI
      have HR2 := hideIt (show r = ([], 1) by rw [HR.out, if_neg (fun h => q2 (of_decide_eq_true h.2))])
      clear q1 q2 hvc hlen HR
      go_enter Tryd.func26, Tryd.ntmps26
      go_wp2_with (first
        | (go_at_call 48; rw [← HWE.out]; refine HV.out.mono ?_; rintro e w1 ⟨⟨gA, gc, uA, uc, rA, rc, pA, pc, pv, Q, rfl, hrd, hm, hcap, ho⟩, hb1⟩; have HB1 := hideIt hb1; clear hb1 hrd hm hcap ho HV)
        | (go_at_call 50; refine (HI.out _).mono ?_; rintro e w2 ⟨rfl, rfl⟩))
      go_ret2
      rw [HR2.out]
      exact TermRes.nil (la7 (HB.out.trans (HB1.out.mono HB.out.size))) 1
  | false =>
    rw [q1] at HV
    have HR2 := hideIt (show r = ([], 1) by rw [HR.out, if_neg (fun h => by rw [q1] at h; exact absurd h.1 (by decide))])
    clear q1 HR
    go_enter Tryd.func26, Tryd.ntmps26
    go_wp2_with (first
      | (go_at_call 48; rw [← HWE.out]; refine HV.out.mono ?_; rintro e w1 ⟨rfl, hb1⟩; have HB1 := hideIt hb1; clear hb1 HV))
    go_ret2
    rw [HR2.out]
    exact TermRes.nil (la7 (HB.out.trans (HB1.out.mono HB.out.size))) 1

set_option maxHeartbeats 800000 in
theorem recoverable_any (x : Cd) (A : Option Addr) (c : Nat) (w : World) (hT : Tabs w) (hx : CIn w x A) (hs : List Bool) (D : Option Addr) (cd : Nat) (hl : hs.length ≤ 100000) (hD : Sl w w.heap.size D 1 hs.length (hs.map bl)) (u : Int) :
    Calls Tryd.prog 29 #[x.v A c, .slice D hs.length cd, .int .i64 u] w fun e w' => e = .returned (.bool (decide ((combR x hs u).2 = 0))) ∧ Below w.heap.size w w' := by
  obtain ⟨W, hW⟩ : ∃ W, W = w.alloc (.cells (x.cs A c).toArray 24) := ⟨_, rfl⟩
  have hbw : Below w.heap.size w W := by rw [hW]; exact below_new w _
  have HB := hideIt hbw
  have HBC := hideIt (show BC W w.heap.size x A c by rw [hW]; exact BC.new c hx)
  have HV := hideIt (combination_any x A c W (hT.keep hbw) HBC.out.cin hs D cd hl ((hD.below hbw).wide hbw.size) u)
  have HWE := hideIt hW
  have heq := i_eql 32 .i64 (combR x hs u).2 0
  clear hbw hT hx hW hD
  generalize combR x hs u = r at *
  generalize decide (r.2 = 0) = b at *
  go_enter Tryd.func29, Tryd.ntmps29
  go_wp2_with (first
    | (go_at_call 26; rw [← HWE.out]; refine HV.out.mono ?_; rintro e w1 ⟨v, rfl, _, hb1⟩; have HB1 := hideIt hb1; clear hb1 HV))
  go_ret
  exact ⟨rfl, HB.out.trans (HB1.out.mono HB.out.size)⟩

end Go.Proofs.YtpjgmekpnlpjaaaDoor
