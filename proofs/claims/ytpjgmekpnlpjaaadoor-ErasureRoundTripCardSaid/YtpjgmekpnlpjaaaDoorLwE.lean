/-
  Recover and Decode, walked.
  Small and Few, walked.
  The examples of chapter 8, as plain equations.
  The examples that every statement of layer 8 plays first: sanity.
-/
import Derived.Test.YtpjgmekpnlpjaaaDoorEraV
import Derived.Test.YtpjgmekpnlpjaaaDoorEraF
import Derived.Test.YtpjgmekpnlpjaaaDoorEraR
namespace Go.Proofs.YtpjgmekpnlpjaaaDoor
open Go.RowKit
set_option linter.unusedVariables false
set_option linter.unusedSimpArgs false

theorem trmR_mem {x : Cd} {hs : List Bool} (hok : okB x hs = true) {u : Nat} {t : Nat × Nat} (h : t ∈ (trmR x hs u).1) : t.1 < hs.length := by
  unfold trmR at h
  split at h
  · obtain ⟨i, hi, rfl, _⟩ := tms_mem h
    unfold basL at hi ⊢
    exact (bas_at hi).1
  · cases h
theorem trmR_len (x : Cd) (hs : List Bool) (u : Nat) : (trmR x hs u).1.length ≤ (basL x hs).length := by
  unfold trmR
  split
  · exact tms_len _ _ _
  · exact Nat.zero_le _
theorem trmR_err (x : Cd) (hs : List Bool) (u : Nat) : (trmR x hs u).2 = 0 ∨ (trmR x hs u).2 = 11 := by
  unfold trmR
  split
  · exact .inl rfl
  · exact .inr rfl
theorem read_len {x : Cd} {us : List (List UInt8)} {hs : List Bool} (hok : okB x hs = true) (h : readB x us hs = true) : us.length = hs.length := by
  unfold readB at h
  rw [Bool.and_eq_true] at h
  obtain ⟨m, n, hvc, hlen⟩ := VC.ok hok
  unfold perB wC at h
  have h1 := of_decide_eq_true h.1
  have hv : vC x = true := by unfold okB at hok; rw [Bool.and_eq_true] at hok; exact hok.1
  rw [if_pos hv, hvc.d] at h1
  omega

set_option maxHeartbeats 1600000 in
set_option maxRecDepth 100000 in
theorem recover_any (x : Cd) (A : Option Addr) (c : Nat) (w : World) (hT : Tabs w) (hx : CIn w x A) (us : List (List UInt8)) (hbig : ∀ u ∈ us, u.length ≤ 100000) (E : Option Addr) (ce : Nat) (hE : Sl w w.heap.size E 1 us.length (us.map sv)) (hs : List Bool) (D : Option Addr) (cd : Nat) (hl : hs.length ≤ 100000) (hD : Sl w w.heap.size D 1 hs.length (hs.map bl)) (u : Int) :
    Calls Tryd.prog 33 #[x.v A c, .slice E us.length ce, .slice D hs.length cd, .int .i64 u] w fun e w' => e = .returned (.tuple #[.string (str (recR x us hs u).1), .int .i64 (recR x us hs u).2]) ∧ Below w.heap.size w w' := by
  obtain ⟨W, hW⟩ : ∃ W, W = w.alloc (.cells (x.cs A c).toArray 24) := ⟨_, rfl⟩
  have hbw : Below w.heap.size w W := by rw [hW]; exact below_new w _
  have HB := hideIt hbw
  have HBC := hideIt (show BC W w.heap.size x A c by rw [hW]; exact BC.new c hx)
  have HV := hideIt (basisOf_any x A c W (hT.keep hbw) HBC.out.cin hs D cd hl ((hD.below hbw).wide hbw.size))
  have HWE := hideIt hW
  have HT := hideIt (hT.keep hbw)
  have hnot := not_b
  have heq : binOp .neq 32 (.int .i64 0) (.int .i64 0) = pure (.bool false) := by rw [i_neq]; rfl
  have heq1 : binOp .neq 32 (.int .i64 1) (.int .i64 0) = pure (.bool true) := by rw [i_neq]; rfl
  have heq2 : binOp .neq 32 (.int .i64 11) (.int .i64 0) = pure (.bool true) := by rw [i_neq]; rfl
  have HI := hideIt (fun W => isIndex_any D hs.length cd u W)
  have HSE := hideIt ((hE.below hbw).wide hbw.size)
  have HSD := hideIt ((hD.below hbw).wide hbw.size)
  have HBG := hideIt hbig
  obtain ⟨r, hr⟩ : ∃ r, r = recR x us hs u := ⟨_, rfl⟩
  rw [← hr]
  have HR := hideIt hr
  unfold recR idxB at HR
  clear hbw hT hx hW hD hr hE hbig
  cases q1 : okB x hs with
  | true =>
    rw [q1] at HV
    obtain ⟨m, n, hvc, hlen⟩ := VC.ok q1
    change Hid (Calls _ _ _ W fun e w' => BasOk W x x.field.toNat x.data.toNat hs e w') at HV
    rw [hvc.fn, hvc.dn] at HV
    by_cases q2 : 0 ≤ u ∧ u < hs.length
    · rw [decide_eq_true q2] at HI
      have HRD := hideIt (fun (W2 : World) (h : Below W.heap.size W W2) => readable_any x A c W2 (HT.out.keep h) (HBC.out.cin.keep h) us HBG.out E ce ((HSE.out.below h).wide h.size) hs D cd ((HSD.out.below h).wide h.size) q1)
      have HVC := hideIt hvc
      obtain ⟨k, hk⟩ : ∃ k : Nat, u = (k : Int) := ⟨u.toNat, by omega⟩
      subst hk
      have HKL := hideIt (show k < n + x.par.length by omega)
      rw [Int.toNat_natCast] at HR
      cases q3 : readB x us hs with
      | true =>
        rw [q3] at HRD
        have HR2 := hideIt (show r = _ by rw [HR.out, if_pos ⟨q1, decide_eq_true q2, q3⟩])
        have HM := hideIt (fun t (h : t ∈ (trmR x hs k).1) => show t.1 < us.length by rw [read_len q1 q3]; exact trmR_mem q1 h)
        have HUL := hideIt (show us.length ≤ 100000 by rw [read_len q1 q3]; exact hl)
        have HTL := hideIt (show (trmR x hs k).1.length ≤ 1000 by
          have h1 := trmR_len x hs k
          have h2 : (basL x hs).length ≤ n := by rw [basL_vc hvc]; exact bas_le hvc.fm (gC_v hvc) _
          have := hvc.wid
          omega)
        have HF := hideIt hvc.f
        have HBX := hideIt (fun (W2 : World) (h : Below W.heap.size W W2) => (HBC.out.keep h).c1)
        rcases trmR_err x hs k with q4 | q4
        · have HR3 := hideIt (show r = (sumR x.field (trmR x hs k).1 us, 0) by rw [HR2.out, if_pos q4])
          have HQ4 := hideIt q4
          clear q1 q2 q3 q4 hvc hlen HR HR2
          go_enter Tryd.func33, Tryd.ntmps33
          go_wp2_with (first
            | ((with_reducible refine at_load ?_); refine wpList_ldC (by kernel_rfl) (.tmp 4) rfl (p := w.heap.size) (c := c) rfl (HBC.out.keep HB2.out).box ?_)
            | (go_at_call 48; rw [← HWE.out]; refine HV.out.mono ?_; rintro e w1 ⟨⟨gA, gc, uA, uc, rA, rc, pA, pc, pv, Q, rfl, hrd, hm, hcap, ho⟩, hb1⟩; have HBB := hideIt (BB.new (W := w1) (uc := uc) (rc := rc) (pc := pc) hrd hm hcap); have HB2 := hideIt (la7 (o := .cells (baC (m : Int) ((n : Int) + (x.par.length : Int)) (n : Int) (.slice gA ((n + x.par.length) * n) gc) (.slice uA (basL x hs).length uc) (.slice rA (basL x hs).length rc) (.slice pA pv.length pc)).toArray 74) hb1); clear hb1 hrd hm hcap ho HV)
            | (go_at_call 50; refine (HI.out _).mono ?_; rintro e w2 ⟨rfl, rfl⟩)
            | (go_at_call 54; refine (HRD.out _ HB2.out).mono ?_; rintro e w3 ⟨rfl, hb3⟩; have HB3 := hideIt (HB2.out.trans (hb3.mono HB2.out.size)); have HBB3 := hideIt (HBB.out.keep hb3); clear hb3 HRD)
            | (go_at_call 51; refine (terms_any HVC.out hs HBB3.out.rd k HKL.out _ HBB3.out.cap _ (HT.out.keep HB3.out) HBB3.out.box HBB3.out.mem).mono ?_; rintro e w4 ⟨v4, rfl, ho4, hb4⟩; rw [HQ4.out]; obtain ⟨A4, c4, rfl, _, _⟩ := own_form ho4; have HO4 := hideIt ho4; have HB4 := hideIt (HB3.out.trans (hb4.mono HB3.out.size)); have d1 := HBX.out _ HB4.out; have HSM := hideIt (sum_any x.field (trmR x hs k).1 us HTL.out HM.out HBG.out HUL.out A4 c4 E ce w4 (HT.out.keep HB4.out) (Sl.of_own ho4) ((HSE.out.below HB4.out).wide HB4.out.size)); clear ho4 hb4)
            | (go_at_call 55; refine HSM.out.mono ?_; rintro e w5 ⟨rfl, hb5⟩; have HB5 := hideIt (HB4.out.trans (hb5.mono HB4.out.size)); clear hb5 HSM))
          go_ret2
          rw [HR3.out]
          exact ⟨rfl, HB.out.trans (HB5.out.mono HB.out.size)⟩
        · have HR3 := hideIt (show r = ([], 11) by rw [HR2.out, if_neg (by rw [q4]; decide), q4])
          have HQ4 := hideIt q4
          clear q1 q2 q3 q4 hvc hlen HR HR2
          go_enter Tryd.func33, Tryd.ntmps33
          go_wp2_with (first
            | ((with_reducible refine at_load ?_); refine wpList_ldC (by kernel_rfl) (.tmp 4) rfl (p := w.heap.size) (c := c) rfl (HBC.out.keep HB2.out).box ?_)
            | (go_at_call 48; rw [← HWE.out]; refine HV.out.mono ?_; rintro e w1 ⟨⟨gA, gc, uA, uc, rA, rc, pA, pc, pv, Q, rfl, hrd, hm, hcap, ho⟩, hb1⟩; have HBB := hideIt (BB.new (W := w1) (uc := uc) (rc := rc) (pc := pc) hrd hm hcap); have HB2 := hideIt (la7 (o := .cells (baC (m : Int) ((n : Int) + (x.par.length : Int)) (n : Int) (.slice gA ((n + x.par.length) * n) gc) (.slice uA (basL x hs).length uc) (.slice rA (basL x hs).length rc) (.slice pA pv.length pc)).toArray 74) hb1); clear hb1 hrd hm hcap ho HV)
            | (go_at_call 50; refine (HI.out _).mono ?_; rintro e w2 ⟨rfl, rfl⟩)
            | (go_at_call 54; refine (HRD.out _ HB2.out).mono ?_; rintro e w3 ⟨rfl, hb3⟩; have HB3 := hideIt (HB2.out.trans (hb3.mono HB2.out.size)); have HBB3 := hideIt (HBB.out.keep hb3); clear hb3 HRD)
            | (go_at_call 51; refine (terms_any HVC.out hs HBB3.out.rd k HKL.out _ HBB3.out.cap _ (HT.out.keep HB3.out) HBB3.out.box HBB3.out.mem).mono ?_; rintro e w4 ⟨v4, rfl, ho4, hb4⟩; rw [HQ4.out]; have HB4 := hideIt (HB3.out.trans (hb4.mono HB3.out.size)); clear ho4 hb4))
          go_ret2
          rw [HR3.out]
          exact ⟨rfl, HB.out.trans (HB4.out.mono HB.out.size)⟩
      | false =>
        rw [q3] at HRD
        have HR3 := hideIt (show r = ([], 1) by rw [HR.out, if_neg (fun h => by rw [q3] at h; exact absurd h.2.2 (by decide))])
        clear q1 q2 q3 hvc hlen HR
        go_enter Tryd.func33, Tryd.ntmps33
        go_wp2_with (first
          | ((with_reducible refine at_load ?_); refine wpList_ldC (by kernel_rfl) (.tmp 4) rfl (p := w.heap.size) (c := c) rfl (HBC.out.keep HB2.out).box ?_)
          | (go_at_call 48; rw [← HWE.out]; refine HV.out.mono ?_; rintro e w1 ⟨⟨gA, gc, uA, uc, rA, rc, pA, pc, pv, Q, rfl, hrd, hm, hcap, ho⟩, hb1⟩; have HB2 := hideIt (la7 (o := .cells (baC (m : Int) ((n : Int) + (x.par.length : Int)) (n : Int) (.slice gA ((n + x.par.length) * n) gc) (.slice uA (basL x hs).length uc) (.slice rA (basL x hs).length rc) (.slice pA pv.length pc)).toArray 74) hb1); clear hb1 hrd hm hcap ho HV)
          | (go_at_call 50; refine (HI.out _).mono ?_; rintro e w2 ⟨rfl, rfl⟩)
          | (go_at_call 54; refine (HRD.out _ HB2.out).mono ?_; rintro e w3 ⟨rfl, hb3⟩; have HB3 := hideIt (HB2.out.trans (hb3.mono HB2.out.size)); clear hb3 HRD))
        go_ret2
        rw [HR3.out]
        exact ⟨rfl, HB.out.trans (HB3.out.mono HB.out.size)⟩
    · rw [decide_eq_false q2] at HI
      have HR3 := hideIt (show r = ([], 1) by rw [HR.out, if_neg (fun h => q2 (of_decide_eq_true h.2.1))])
      clear q1 q2 hvc hlen HR
      go_enter Tryd.func33, Tryd.ntmps33
      go_wp2_with (first
        | (go_at_call 48; rw [← HWE.out]; refine HV.out.mono ?_; rintro e w1 ⟨⟨gA, gc, uA, uc, rA, rc, pA, pc, pv, Q, rfl, hrd, hm, hcap, ho⟩, hb1⟩; have HB1 := hideIt hb1; clear hb1 hrd hm hcap ho HV)
        | (go_at_call 50; refine (HI.out _).mono ?_; rintro e w2 ⟨rfl, rfl⟩))
      go_ret2
      rw [HR3.out]
      exact ⟨rfl, la7 (HB.out.trans (HB1.out.mono HB.out.size))⟩
  | false =>
    rw [q1] at HV
    have HR3 := hideIt (show r = ([], 1) by rw [HR.out, if_neg (fun h => by rw [q1] at h; exact absurd h.1 (by decide))])
    clear q1 HR
    go_enter Tryd.func33, Tryd.ntmps33
    go_wp2_with (first
      | (go_at_call 48; rw [← HWE.out]; refine HV.out.mono ?_; rintro e w1 ⟨rfl, hb1⟩; have HB1 := hideIt hb1; clear hb1 HV))
    go_ret2
    rw [HR3.out]
    exact ⟨rfl, la7 (HB.out.trans (HB1.out.mono HB.out.size))⟩

def smB (x : Cd) : Bool := decide (x.data ≤ 12) && decide (x.par.length ≤ 8) && x.par.all fun l => decide (l.length ≤ 12)
theorem smB_sm {x : Cd} (h : smB x = true) : Sm x := by
  unfold smB at h
  simp only [Bool.and_eq_true, decide_eq_true_eq, List.all_eq_true] at h
  exact ⟨h.1.1, h.1.2, h.2⟩
def fewB (us : List (List UInt8)) : Bool := decide (us.length ≤ 24) && us.all fun u => decide (u.length ≤ 64)
theorem fewB_is {us : List (List UInt8)} (h : fewB us = true) : us.length ≤ 24 ∧ ∀ u ∈ us, u.length ≤ 64 := by
  unfold fewB at h
  simp only [Bool.and_eq_true, decide_eq_true_eq, List.all_eq_true] at h
  exact h

set_option maxHeartbeats 800000 in
set_option maxRecDepth 100000 in
theorem small_any (x : Cd) (A : Option Addr) (c : Nat) (w : World) (hx : CIn w x A) :
    Calls Tryd.prog 12 #[x.v A c] w fun e w' => e = .returned (.bool (smB x)) ∧ Below w.heap.size w w' := by
  obtain ⟨W, hW⟩ : ∃ W, W = w.alloc (.cells (x.cs A c).toArray 24) := ⟨_, rfl⟩
  have hbw : Below w.heap.size w W := by rw [hW]; exact below_new w _
  have HB := hideIt hbw
  have HBC := hideIt (show BC W w.heap.size x A c by rw [hW]; exact BC.new c hx)
  have c2 := HBC.out.c2
  have c3 := HBC.out.c3
  rw [hW] at c2 c3
  have HWE := hideIt hW
  obtain ⟨r, hr⟩ : ∃ r, r = smB x := ⟨_, rfl⟩
  rw [← hr]
  have HR := hideIt hr
  unfold smB at HR
  clear hbw hx hW hr
  by_cases q1 : x.data > 12
  · have HE := hideIt (show r = false by rw [HR.out, decide_eq_false (by omega), Bool.false_and, Bool.false_and])
    clear HR
    go_enter Tryd.func12, Tryd.ntmps12
    go_wp2_with fail
    go_ret
    rw [← HWE.out]
    exact ⟨by rw [HE.out]; rfl, HB.out⟩
  · by_cases q2 : (x.par.length : Int) > 8
    · have HE := hideIt (show r = false by rw [HR.out, decide_eq_false (show ¬ x.par.length ≤ 8 by omega), Bool.and_false, Bool.false_and])
      clear HR
      go_enter Tryd.func12, Tryd.ntmps12
      go_wp2_with fail
      go_ret
      rw [← HWE.out]
      exact ⟨by rw [HE.out]; rfl, HB.out⟩
    · have HE := hideIt (show r = x.par.all fun l => decide (l.length ≤ 12) by rw [HR.out, decide_eq_true (by omega), decide_eq_true (by omega), Bool.true_and, Bool.true_and])
      have hp8 : x.par.length ≤ 8 := by omega
      clear HR
      go_enter Tryd.func12, Tryd.ntmps12
      go_wp2_with fail
      rw [← HWE.out] at c2 c3 ⊢
      go_loopg [3] x.par.length (fun gk s3 wr => ∃ j : Nat, j + gk = x.par.length ∧ s3 = .int .i64 (j : Int) ∧ wr = W ∧ Aside ((x.par.take j).all (fun l => decide (l.length ≤ 12)) = true))
      case atStart => exact ⟨0, by omega, rfl, rfl, by simp [Aside]⟩
      case round =>
        obtain ⟨j, hj, rfl, rfl, HI⟩ := hrel
        obtain ⟨W, rfl⟩ : ∃ x, x = wr := ⟨wr, rfl⟩
        by_cases hlt : j < x.par.length
        · obtain ⟨b, o, A', c', hA, hb, hcell, hsl⟩ := HBC.out.cin.pm.row hlt
          have HTK := hideIt (take_snoc x.par j hlt)
          have HF := hideIt (fun h => all_at (p := fun l : List Int => decide (l.length ≤ 12)) hlt h)
          subst hA
          have hinc := inc_c 3 j (by omega)
          have hji : (j : Int) < (x.par.length : Int) := by omega
          generalize x.par[j] = l at *
          clear hsl hb
          by_cases q3 : (l.length : Int) > 12
          · have HE2 := hideIt (show r = false by rw [HE.out, HF.out (decide_eq_false (by omega))])
            go_wp2_with fail
            go_ret
            exact ⟨by rw [HE2.out]; rfl, HB.out⟩
          · have HN := hideIt (show (x.par.take (j + 1)).all (fun l => decide (l.length ≤ 12)) = true by rw [HTK.out, List.all_append, HI.out]; simp; omega)
            go_wp2_with fail
            go_roundg (gk - 1)
            case measure => omega
            case rel => exact ⟨j + 1, by omega, by go_num, rfl, HN.out⟩
        · have hji : ¬ (j : Int) < (x.par.length : Int) := by omega
          have HE2 : Hid (r = true) := by
            have := HI.out
            rw [List.take_of_length_le (by omega)] at this
            rw [HE.out]; exact this
          go_wp2_with fail
          go_ret
          exact ⟨by rw [HE2.out]; rfl, HB.out⟩

set_option maxHeartbeats 800000 in
theorem few_any (us : List (List UInt8)) (hbig : us.length ≤ 9223372036854775807) (D : Option Addr) (cd : Nat) (w : World) (hs : Sl w w.heap.size D 1 us.length (us.map sv)) :
    Calls Tryd.prog 13 #[.slice D us.length cd] w fun e w' => e = .returned (.bool (fewB us)) ∧ w = w' := by
  have HS := hideIt hs
  obtain ⟨r, hr⟩ : ∃ r, r = fewB us := ⟨_, rfl⟩
  rw [← hr]
  have HR := hideIt hr
  unfold fewB at HR
  clear hs hr
  by_cases q1 : (us.length : Int) > 24
  · have HE := hideIt (show r = false by rw [HR.out, decide_eq_false (by omega), Bool.false_and])
    clear HR
    go_enter Tryd.func13, Tryd.ntmps13
    go_wp2_with fail
    go_ret
    exact ⟨by rw [HE.out]; rfl, rfl⟩
  · have HE := hideIt (show r = us.all fun l => decide (l.length ≤ 64) by rw [HR.out, decide_eq_true (by omega), Bool.true_and])
    have hu24 : us.length ≤ 24 := by omega
    clear HR
    go_enter Tryd.func13, Tryd.ntmps13
    go_wp2_with fail
    go_loopg [3] us.length (fun gk s3 wr => ∃ j : Nat, j + gk = us.length ∧ s3 = .int .i64 (j : Int) ∧ wr = w ∧ Aside ((us.take j).all (fun l => decide (l.length ≤ 64)) = true))
    case atStart => exact ⟨0, by omega, rfl, rfl, by simp [Aside]⟩
    case round =>
      obtain ⟨j, hj, rfl, rfl, HI⟩ := hrel
      obtain ⟨w, rfl⟩ : ∃ x, x = wr := ⟨wr, rfl⟩
      by_cases hlt : j < us.length
      · obtain ⟨b, o, hA, hb, hcs⟩ := HS.out.strs (by omega)
        have hcell := hcs j hlt
        have hsz := str_size us[j]
        have HTK := hideIt (take_snoc us j hlt)
        have HF := hideIt (fun h => all_at (p := fun l : List UInt8 => decide (l.length ≤ 64)) hlt h)
        subst hA
        have hinc := inc_c 3 j (by omega)
        have hji : (j : Int) < (us.length : Int) := by omega
        generalize us[j] = l at *
        generalize str l = sl at *
        clear hcs hb
        by_cases q3 : (l.length : Int) > 64
        · have HE2 := hideIt (show r = false by rw [HE.out, HF.out (decide_eq_false (by omega))])
          go_wp2_with fail
          go_ret
          exact ⟨by rw [HE2.out]; rfl, rfl⟩
        · have HN := hideIt (show (us.take (j + 1)).all (fun l => decide (l.length ≤ 64)) = true by rw [HTK.out, List.all_append, HI.out]; simp; omega)
          go_wp2_with fail
          go_roundg (gk - 1)
          case measure => omega
          case rel => exact ⟨j + 1, by omega, by go_num, rfl, HN.out⟩
      · have hji : ¬ (j : Int) < (us.length : Int) := by omega
        have HE2 : Hid (r = true) := by
          have := HI.out
          rw [List.take_of_length_le (by omega)] at this
          rw [HE.out]; exact this
        go_wp2_with fail
        go_ret
        exact ⟨by rw [HE2.out]; rfl, rfl⟩

def exX : Cd := ⟨[], 8, 3, [[1, 1, 1], [1, 2, 0]], 0⟩
def exH : List Bool := [true, false, false, false, true]
def exU : List (List UInt8) := [[1], [], [], [], [5]]
theorem ex_vc : vC exX = true := by decide +kernel
theorem ex_ok : okB exX exH = true := by decide +kernel
theorem ex_wid : wC exX = 5 := by decide +kernel
theorem ex_enc : encR exX [[1], [2], [4]] = ([[1], [2], [4], [7], [5]], 0) := by decide +kernel
theorem ex_read : readB exX exU exH = true := by decide +kernel
theorem fm8 : Fm 8 := .inl rfl
theorem ex_v : Vm 8 (gC exX) := by
  obtain ⟨m, n, h⟩ := vC_spec ex_vc
  have : m = 8 := by have := h.f; have e : exX.field = 8 := rfl; omega
  subst this
  exact gC_v h
theorem ex_bas : basL exX exH = [0, 4] := by
  have e : basL exX exH = bas 8 3 (gC exX) (hvF exH) 5 := rfl
  rw [e]
  have h1 : bas 8 3 (gC exX) (hvF exH) 1 = [0] := bas_new rfl (by
    rintro ⟨c, hc, h⟩
    have := h 0 (by decide)
    rw [show gC exX 0 0 = 1 by decide] at this
    have e2 : cb 8 0 (sel (gC exX) []) c 0 = 0 := rfl
    rw [show (bas 8 3 (gC exX) (hvF exH) 0) = [] from rfl, show ([] : List Nat).length = 0 from rfl, e2] at this
    exact absurd this (by decide))
  have h2 : bas 8 3 (gC exX) (hvF exH) 2 = [0] := (bas_abs (by decide)).trans h1
  have h3 : bas 8 3 (gC exX) (hvF exH) 3 = [0] := (bas_abs (by decide)).trans h2
  have h4 : bas 8 3 (gC exX) (hvF exH) 4 = [0] := (bas_abs (by decide)).trans h3
  have h5 := bas_new (m := 8) (n := 3) (G := gC exX) (hv := hvF exH) (k := 4) rfl (by
    rw [h4]
    rintro ⟨c, hc, h⟩
    have := h 1 (by decide)
    rw [show gC exX 4 1 = 2 by decide] at this
    have e2 : cb 8 1 (sel (gC exX) [0]) c 1 = 0 ^^^ mul 8 (c 0) 0 := rfl
    rw [show ([0] : List Nat).length = 1 from rfl, e2, mul_zeroR] at this
    exact absurd this (by decide))
  rw [h5, h4]
  rfl
theorem ex_trm1 : trmR exX exH 1 = ([(0, 142), (4, 142)], 0) := by
  have hd : ∀ j, j < 3 → gC exX 1 j = cb 8 2 (sel (gC exX) [0, 4]) (fun k => 142) j := by
    intro j hj
    match j, hj with
    | 0, _ => decide +kernel
    | 1, _ => decide +kernel
    | 2, _ => decide +kernel
  have hv : Vv 8 fun _ => 142 := fun _ => by show 142 < 256; decide
  have hi : Ind 8 3 2 (sel (gC exX) [0, 4]) := by
    have := bas_ind (n := 3) (hv := hvF exH) fm8 ex_v 5
    rw [show bas 8 3 (gC exX) (hvF exH) 5 = [0, 4] from ex_bas] at this
    exact this
  have hr : recov exX exH 1 := by
    show Dep 8 3 (basL exX exH).length (sel (gC exX) (basL exX exH)) (gC exX 1)
    rw [ex_bas]
    exact ⟨_, hv, hd⟩
  unfold trmR
  rw [if_pos hr]
  have hc : cofU exX exH 1 = cof 8 3 2 (sel (gC exX) [0, 4]) (gC exX 1) := by
    show cof 8 3 (basL exX exH).length (sel (gC exX) (basL exX exH)) (gC exX 1) = _
    rw [ex_bas]; rfl
  rw [hc, ex_bas]
  show (tms [0, 4] _ 2, (0 : Int)) = _
  rw [tms_congr (d := fun _ => 142) (fun i hi2 => cof_is hi hv hd i hi2)]
  rfl
theorem ex_trm2 : trmR exX exH 2 = ([], 11) := by
  have hr : ¬ recov exX exH 2 := by
    show ¬ Dep 8 3 (basL exX exH).length (sel (gC exX) (basL exX exH)) (gC exX 2)
    rw [ex_bas]
    rintro ⟨c, hc, h⟩
    have := h 2 (by decide)
    rw [show gC exX 2 2 = 1 by decide] at this
    have e2 : cb 8 2 (sel (gC exX) [0, 4]) c 2 = 0 ^^^ mul 8 (c 0) 0 ^^^ mul 8 (c 1) 0 := rfl
    rw [show ([0, 4] : List Nat).length = 2 from rfl, e2, mul_zeroR, mul_zeroR] at this
    exact absurd this (by decide)
  unfold trmR
  rw [if_neg hr]
theorem ex_rec1 : recR exX exU exH 1 = ([2], 0) := by
  unfold recR
  rw [if_pos ⟨ex_ok, by decide, ex_read⟩, show (1 : Int).toNat = 1 from rfl, ex_trm1, if_pos rfl]
  decide +kernel
theorem ex_rec2 : recR exX exU exH 2 = ([], 11) := by
  unfold recR
  rw [if_pos ⟨ex_ok, by decide, ex_read⟩, show (2 : Int).toNat = 2 from rfl, ex_trm2]
  rfl

theorem sl_blk {W : World} {g n : Nat} {t : TypeId} {cs : List Value} (h : Blk W g t cs) (hl : cs.length = n) : Sl W W.heap.size (some ⟨g, 0, none⟩) 1 n cs :=
  ⟨by rw [hl, Nat.mul_one], fun _ => ⟨g, 0, rfl, h.lt, fun j u hj => by rw [Nat.zero_add, h.cell]; exact hj⟩⟩
theorem sl_new (w : World) (t : TypeId) (cs : List Value) : Sl (w.alloc (.cells cs.toArray t)) (w.alloc (.cells cs.toArray t)).heap.size (some ⟨w.heap.size, 0, none⟩) 1 cs.length cs := sl_blk (Blk.new w t cs) rfl

theorem own_some {w : World} {base size n : Nat} {e : TypeId} {v : Value} {xs : List Value} (h : w.ownsRow base e size v n xs) (hn : 0 < n) : ∃ g cap, v = .slice (some ⟨g, 0, none⟩) n cap := by
  rcases h.2 with ⟨_, h0⟩ | ⟨g, cap, _, hv, _⟩
  · omega
  · exact ⟨g, cap, hv⟩
theorem exx_v (A : Option Addr) : exX.v A 2 = .agg #[.string ⟨#[]⟩, .int .i64 8, .int .i64 3, .slice A 2 2, .int .i64 0] := rfl
theorem ex_enc_any (A : Option Addr) (w : World) (hT : Tabs w) (hx : CIn w exX A) : Calls Tryd.prog 16 #[.agg #[.string ⟨#[]⟩, .int .i64 8, .int .i64 3, .slice A 2 2, .int .i64 0], .slice (some ⟨w.heap.size, 0, none⟩) 3 3] (w.alloc (.cells #[.string ⟨#[1]⟩, .string ⟨#[2]⟩, .string ⟨#[4]⟩] 9)) fun e w' => ∃ v, e = .returned (.tuple #[v, .int .i64 0]) ∧ w'.ownsRow (w.heap.size + 1) 9 1 v 5 (([[1], [2], [4], [7], [5]] : List (List UInt8)).map sv) ∧ Below w.heap.size w w' := by
  have hb := below_new w (.cells #[.string ⟨#[1]⟩, .string ⟨#[2]⟩, .string ⟨#[4]⟩] 9)
  have hs : (w.alloc (.cells #[.string ⟨#[1]⟩, .string ⟨#[2]⟩, .string ⟨#[4]⟩] 9)).heap.size = w.heap.size + 1 := World.size_alloc _ _
  have h := encode_any exX A 2 (w.alloc (.cells #[.string ⟨#[1]⟩, .string ⟨#[2]⟩, .string ⟨#[4]⟩] 9)) (hT.keep hb) (hx.keep hb) [[1], [2], [4]] (by decide) (by decide) (some ⟨w.heap.size, 0, none⟩) 3 (sl_new w 9 [sv [1], sv [2], sv [4]])
  rw [ex_enc, exx_v] at h
  refine h.mono ?_
  rintro e w' ⟨v, rfl, ho, hb2⟩
  rw [hs] at ho
  exact ⟨v, rfl, ho, hb.trans (hb2.mono hb.size)⟩
theorem ex_rec_any (A : Option Addr) (w : World) (hT : Tabs w) (hx : CIn w exX A) (u : Int) (r : List UInt8) (x : Int) (hr : recR exX exU exH u = (r, x)) : Calls Tryd.prog 33 #[.agg #[.string ⟨#[]⟩, .int .i64 8, .int .i64 3, .slice A 2 2, .int .i64 0], .slice (some ⟨w.heap.size, 0, none⟩) 5 5, .slice (some ⟨w.heap.size + 1, 0, none⟩) 5 5, .int .i64 u] ((w.alloc (.cells #[.string ⟨#[1]⟩, .string ⟨#[]⟩, .string ⟨#[]⟩, .string ⟨#[]⟩, .string ⟨#[5]⟩] 9)).alloc (.cells #[.bool true, .bool false, .bool false, .bool false, .bool true] 4)) fun e w' => e = .returned (.tuple #[.string (str r), .int .i64 x]) ∧ Below w.heap.size w w' := by
  have hb1 := below_new w (.cells #[.string ⟨#[1]⟩, .string ⟨#[]⟩, .string ⟨#[]⟩, .string ⟨#[]⟩, .string ⟨#[5]⟩] 9)
  have hb2 := below_new (w.alloc (.cells #[.string ⟨#[1]⟩, .string ⟨#[]⟩, .string ⟨#[]⟩, .string ⟨#[]⟩, .string ⟨#[5]⟩] 9)) (.cells #[.bool true, .bool false, .bool false, .bool false, .bool true] 4)
  have hs : (w.alloc (.cells #[.string ⟨#[1]⟩, .string ⟨#[]⟩, .string ⟨#[]⟩, .string ⟨#[]⟩, .string ⟨#[5]⟩] 9)).heap.size = w.heap.size + 1 := World.size_alloc _ _
  have hb := hb1.trans (hb2.mono hb1.size)
  have e1 := ((sl_new w 9 [sv [1], sv [], sv [], sv [], sv [5]]).below hb2).wide hb2.size
  have e2 := sl_new (w.alloc (.cells #[.string ⟨#[1]⟩, .string ⟨#[]⟩, .string ⟨#[]⟩, .string ⟨#[]⟩, .string ⟨#[5]⟩] 9)) 4 [bl true, bl false, bl false, bl false, bl true]
  have h3 := recover_any exX A 2 _ (hT.keep hb) (hx.keep hb) exU (by decide) (some ⟨w.heap.size, 0, none⟩) 5 e1 exH (some ⟨(w.alloc (.cells #[.string ⟨#[1]⟩, .string ⟨#[]⟩, .string ⟨#[]⟩, .string ⟨#[]⟩, .string ⟨#[5]⟩] 9)).heap.size, 0, none⟩) 5 (by decide) e2 u
  rw [hr, exx_v, hs] at h3
  refine h3.mono ?_
  rintro e w' ⟨rfl, hb3⟩
  exact ⟨rfl, hb.trans (hb3.mono hb.size)⟩
theorem ex_wid_any (A : Option Addr) (w : World) (hT : Tabs w) (hx : CIn w exX A) : Calls Tryd.prog 21 #[.agg #[.string ⟨#[]⟩, .int .i64 8, .int .i64 3, .slice A 2 2, .int .i64 0]] w fun e w' => e = .returned (.int .i64 5) ∧ Below w.heap.size w w' := by
  have h := width_any exX A 2 w hT hx
  rw [ex_wid, exx_v] at h
  exact h

set_option maxHeartbeats 400000 in
set_option maxRecDepth 100000 in
theorem sanity_any (w : World) (hT : Tabs w) : Calls Tryd.prog 11 #[] w fun e w' => e = .returned (.bool true) ∧ Below w.heap.size w w' := by
  obtain ⟨w1, hw1⟩ : ∃ W, W = w.alloc (.cells #[.int .i64 1, .int .i64 1, .int .i64 1] 3) := ⟨_, rfl⟩
  obtain ⟨w2, hw2⟩ : ∃ W, W = w1.alloc (.cells #[.int .i64 1, .int .i64 2, .int .i64 0] 3) := ⟨_, rfl⟩
  obtain ⟨w3, hw3⟩ : ∃ W, W = w2.alloc (.cells #[.slice (some ⟨w.heap.size, 0, none⟩) 3 3, .slice (some ⟨w.heap.size + 1, 0, none⟩) 3 3] 29) := ⟨_, rfl⟩
  obtain ⟨w4, hw4⟩ : ∃ W, W = w3.alloc (.cells #[.string ⟨#[]⟩, .int .i64 8, .int .i64 3, .slice (some ⟨w.heap.size + 1 + 1, 0, none⟩) 2 2, .int .i64 0] 24) := ⟨_, rfl⟩
  have s1 : w1.heap.size = w.heap.size + 1 := by rw [hw1]; simp
  have s2 : w2.heap.size = w.heap.size + 1 + 1 := by rw [hw2]; simp [s1]
  have s3 : w3.heap.size = w.heap.size + 1 + 1 + 1 := by rw [hw3]; simp [s2]
  have hb1 : Below w.heap.size w w1 := by rw [hw1]; exact below_new w _
  have hb2 : Below w1.heap.size w1 w2 := by rw [hw2]; exact below_new w1 _
  have hb3 : Below w2.heap.size w2 w3 := by rw [hw3]; exact below_new w2 _
  have hb4 : Below w3.heap.size w3 w4 := by rw [hw4]; exact below_new w3 _
  have r1 : Sl w1 w1.heap.size (some ⟨w.heap.size, 0, none⟩) 1 3 (([1, 1, 1] : List Int).map iv) := by rw [hw1]; exact sl_new w 3 _
  have r2 : Sl w2 w2.heap.size (some ⟨w.heap.size + 1, 0, none⟩) 1 3 (([1, 2, 0] : List Int).map iv) := by rw [← s1, hw2]; exact sl_new w1 3 _
  have hb : Sl w3 w3.heap.size (some ⟨w.heap.size + 1 + 1, 0, none⟩) 1 2 [.slice (some ⟨w.heap.size, 0, none⟩) 3 3, .slice (some ⟨w.heap.size + 1, 0, none⟩) 3 3] := by rw [← s2, hw3]; exact sl_new w2 29 _
  have hcin : CIn w3 exX (some ⟨w.heap.size + 1 + 1, 0, none⟩) := by
    refine ⟨⟨[.slice (some ⟨w.heap.size, 0, none⟩) 3 3, .slice (some ⟨w.heap.size + 1, 0, none⟩) 3 3], hb, ⟨_, _, rfl, ?_⟩, ⟨_, _, rfl, ?_⟩, trivial⟩, by decide, by decide⟩
    · exact (((r1.below hb2).wide hb2.size).below hb3).wide hb3.size
    · exact (r2.below hb3).wide hb3.size
  have HBC := hideIt (show BC w4 (w.heap.size + 1 + 1 + 1) exX (some ⟨w.heap.size + 1 + 1, 0, none⟩) 2 by rw [hw4, ← s3]; exact BC.new 2 hcin)
  have hbl : Below w.heap.size w w4 := (((hb1.trans (hb2.mono hb1.size)).trans (hb3.mono (by omega))).trans (hb4.mono (by omega)))
  have HB := hideIt hbl
  have HT := hideIt hT
  have HWE := hideIt (show w4 = (((w.alloc (.cells #[.int .i64 1, .int .i64 1, .int .i64 1] 3)).alloc (.cells #[.int .i64 1, .int .i64 2, .int .i64 0] 3)).alloc (.cells #[.slice (some ⟨w.heap.size, 0, none⟩) 3 3, .slice (some ⟨w.heap.size + 1, 0, none⟩) 3 3] 29)).alloc (.cells #[.string ⟨#[]⟩, .int .i64 8, .int .i64 3, .slice (some ⟨w.heap.size + 1 + 1, 0, none⟩) 2 2, .int .i64 0] 24) by rw [hw4, hw3, hw2, hw1])
  have HEN := hideIt (ex_enc_any (some ⟨w.heap.size + 1 + 1, 0, none⟩) w4 (HT.out.keep HB.out) HBC.out.cin)
  have HRC := hideIt (fun (W : World) (h : Below w4.heap.size w4 W) u r x hr => ex_rec_any (some ⟨w.heap.size + 1 + 1, 0, none⟩) W (HT.out.keep (HB.out.trans (h.mono HB.out.size))) (HBC.out.cin.keep h) u r x hr)
  have HWI := hideIt (fun (W : World) (h : Below w4.heap.size w4 W) => ex_wid_any (some ⟨w.heap.size + 1 + 1, 0, none⟩) W (HT.out.keep (HB.out.trans (h.mono HB.out.size))) (HBC.out.cin.keep h))
  have HBX : Hid (∀ (W : World), Below w4.heap.size w4 W → Blk W (w.heap.size + 1 + 1 + 1) 24 [.string ⟨#[]⟩, .int .i64 8, .int .i64 3, .slice (some ⟨w.heap.size + 1 + 1, 0, none⟩) 2 2, .int .i64 0]) := hideIt (fun W h => (HBC.out.keep h).box)
  have HR1 := hideIt ex_rec1
  have HR2 := hideIt ex_rec2
  have q0 : binOp .eql 32 (.int .i64 0) (.int .i64 0) = pure (.bool true) := by rw [i_eql]; rfl
  have q11 : binOp .eql 32 (.int .i64 11) (.int .i64 11) = pure (.bool true) := by rw [i_eql]; rfl
  have HS4 := hideIt (show w4.heap.size = w.heap.size + 1 + 1 + 1 + 1 by rw [hw4, World.size_alloc, s3])
  clear hw1 hw2 hw3 hw4 s1 s2 s3 hb1 hb2 hb3 hb4 r1 r2 hb hcin hbl hT
  go_enter Tryd.func11, Tryd.ntmps11
  have hst : str [2] = ⟨#[2]⟩ := rfl
  go_wp2_with (first
    | (go_at_call 16; rw [← HWE.out, ← HS4.out]; refine HEN.out.mono ?_; rintro e w5 ⟨v5, rfl, ho5, hb5⟩; obtain ⟨g5, c5, rfl⟩ := own_some ho5 (by decide); have HB5 := hideIt hb5; have HO5 := hideIt ho5; clear hb5 ho5 HEN)
    | (go_at_call 33; refine (HRC.out w5 HB5.out 1 [2] 0 HR1.out).mono ?_; rintro e w6 ⟨rfl, hb6⟩; have HB6 := hideIt (HB5.out.trans (hb6.mono HB5.out.size)); have HO6 := hideIt (own_kept HO5.out hb6); clear hb6 HR1)
    | (go_at_call 33; refine (HRC.out w6 HB6.out 2 [] 11 HR2.out).mono ?_; rintro e w7 ⟨rfl, hb7⟩; have HB7 := hideIt (HB6.out.trans (hb7.mono HB6.out.size)); have ho7 := own_kept HO6.out hb7; have d4 : w7.cell? ⟨g5, 4, none⟩ = some (.string ⟨#[5]⟩) := ho7.cells (g := g5) rfl 4 _ rfl; clear hb7 HR2 ho7)
    | (go_at_call 21; refine (HWI.out w7 HB7.out).mono ?_; rintro e w8 ⟨rfl, hb8⟩; have HB8 := hideIt (HB7.out.trans (hb8.mono HB7.out.size)); clear hb8)
    | ((with_reducible refine at_load ?_); refine wpList_get_g (by kernel_rfl) _ (.tmp 1) rfl (w.heap.size + 1 + 1 + 1) _ _ _ rfl (HBX.out _ HB7.out) Tryd.underlying24 rfl isz5 ?_)
    | ((with_reducible refine at_load ?_); refine wpList_get_g (by kernel_rfl) _ (.tmp 1) rfl (w.heap.size + 1 + 1 + 1) _ _ _ rfl (HBX.out _ HB6.out) Tryd.underlying24 rfl isz5 ?_)
    | ((with_reducible refine at_load ?_); refine wpList_get_g (by kernel_rfl) _ (.tmp 1) rfl (w.heap.size + 1 + 1 + 1) _ _ _ rfl (HBX.out _ HB5.out) Tryd.underlying24 rfl isz5 ?_))
  go_ret
  exact ⟨rfl, HB.out.trans (HB8.out.mono HB.out.size)⟩

end Go.Proofs.YtpjgmekpnlpjaaaDoor
