/-
  The reference's fit, Recover and Decode, walked.
-/
import Derived.Test.YtpjgmekpnlpjaaaDoorExpJ
namespace Go.Proofs.YtpjgmekpnlpjaaaDoor
open Go.RowKit
set_option linter.unusedVariables false
set_option linter.unusedSimpArgs false

theorem ul_app {a b : List (List UInt8)} (h : a ≠ []) : ul (a ++ b) = ul a := by
  cases a with
  | nil => exact absurd rfl h
  | cons u r => rfl
theorem alk_app {m : Nat} {a b : List (List UInt8)} (h : alk m (a ++ b) = true) : alk m a = true := by
  rw [alk_iff] at h ⊢
  intro u hu
  have h1 := h u (List.mem_append_left _ hu)
  rwa [ul_app (List.ne_nil_of_mem hu)] at h1
theorem alk_snoc {m : Nat} {a : List (List UInt8)} {u : List UInt8} : alk m (a ++ [u]) = true ↔ alk m a = true ∧ u.length = ul (a ++ [u]) ∧ u.length % (m / 8) = 0 := by
  constructor
  · intro h
    exact ⟨alk_app h, (alk_iff m _).1 h u (List.mem_append_right _ (List.mem_singleton.2 rfl))⟩
  · rintro ⟨h1, h2⟩
    rw [alk_iff] at h1 ⊢
    intro v hv
    rcases List.mem_append.1 hv with hv | hv
    · have := h1 v hv
      rwa [ul_app (List.ne_nil_of_mem hv)]
    · rw [List.mem_singleton] at hv
      rw [hv]; exact h2
theorem alk_sub {m : Nat} {a b : List (List UInt8)} (h : alk m b = true) (hab : ∀ u ∈ a, u ∈ b) : alk m a = true := by
  rw [alk_iff] at h ⊢
  intro u hu
  have h1 := h u (hab u hu)
  refine ⟨?_, h1.2⟩
  cases a with
  | nil => cases hu
  | cons v r =>
    have h2 := h v (hab v List.mem_cons_self)
    show u.length = v.length
    rw [h1.1, h2.1]
theorem presK_more (us : List (List UInt8)) (hs : List Bool) (k : Nat) : ∀ d, ∃ R, presK us hs (k + d) = presK us hs k ++ R
  | 0 => ⟨[], (List.append_nil _).symm⟩
  | d + 1 => by
    obtain ⟨R, hR⟩ := presK_more us hs k d
    show ∃ R, (if hs.getD (k + d) false = true then presK us hs (k + d) ++ [us.getD (k + d) []] else presK us hs (k + d)) = _
    split
    · exact ⟨R ++ [us.getD (k + d) []], by rw [hR, List.append_assoc]⟩
    · exact ⟨R, hR⟩
theorem presK_in {us : List (List UInt8)} {hs : List Bool} : ∀ {k i : Nat}, i < k → hs.getD i false = true → us.getD i [] ∈ presK us hs k
  | 0, i, h, _ => absurd h (Nat.not_lt_zero i)
  | k + 1, i, h, hi => by
    show _ ∈ (if hs.getD k false = true then presK us hs k ++ [us.getD k []] else presK us hs k)
    by_cases e : i = k
    · subst e
      rw [if_pos hi]
      exact List.mem_append_right _ (List.mem_singleton.2 rfl)
    · have := presK_in (us := us) (show i < k by omega) hi
      split
      · exact List.mem_append_left _ this
      · exact this
/-- The size that fit keeps. -/
def szK (us : List (List UInt8)) (hs : List Bool) (k : Nat) : Int := if presK us hs k = [] then -1 else (ul (presK us hs k) : Int)
theorem read_is {x : Cd} {m n : Nat} (h : VC x m n) {us : List (List UInt8)} {hs : List Bool} (hok : okB x hs = true) (hl : hs.length = n + x.par.length) : readB x us hs = (decide (us.length = hs.length) && alk m (presK us hs us.length)) := by
  unfold readB perB
  have hw : wC x = ((hs.length : Nat) : Int) := by
    have hv : vC x = true := by unfold okB at hok; rw [Bool.and_eq_true] at hok; exact hok.1
    unfold wC; rw [if_pos hv, h.d, hl]; omega
  rw [hw, show fC x = m from h.fn]
  congr 1
  exact decide_eq_decide.2 ⟨fun h1 => by omega, fun h1 => ⟨by have := h.pos; omega, by omega⟩⟩

set_option maxHeartbeats 1600000 in
set_option maxRecDepth 100000 in
theorem rfit_any (x : Cd) (A : Option Addr) (c : Nat) (w : World) (hx : CIn w x A) (hsm : Sm x) (us : List (List UInt8)) (hbig : ∀ u ∈ us, u.length ≤ 100000) (E : Option Addr) (ce : Nat) (hE : Sl w w.heap.size E 1 us.length (us.map sv)) (hs : List Bool) (D : Option Addr) (cd : Nat) (hD : Sl w w.heap.size D 1 hs.length (hs.map bl)) :
    Calls Tryd.prog 56 #[x.v A c, .slice E us.length ce, .slice D hs.length cd] w fun e w' => e = .returned (.bool (okB x hs && readB x us hs)) ∧ Below w.heap.size w w' := by
  obtain ⟨W, hW⟩ : ∃ W, W = w.alloc (.cells (x.cs A c).toArray 24) := ⟨_, rfl⟩
  have hbw : Below w.heap.size w W := by rw [hW]; exact below_new w _
  have HB := hideIt hbw
  have HBC := hideIt (show BC W w.heap.size x A c by rw [hW]; exact BC.new c hx)
  have HV := hideIt (rwidth_any x A c W HBC.out.cin hsm)
  have HSD := hideIt ((hD.below hbw).wide hbw.size)
  have HSE := hideIt ((hE.below hbw).wide hbw.size)
  have hq0 := i_eql 3 .i64 (wC x) 0
  have hq1 := i_neq 3 .i64 (hs.length : Int) (wC x)
  have hq2 := i_neq 3 .i64 (us.length : Int) (wC x)
  have HBG := hideIt hbig
  have HWE := hideIt hW
  have hnot := not_b
  clear hbw hx hW hD hE hsm hbig
  cases q1 : okB x hs with
  | true =>
    obtain ⟨m, n, hvc, hlen⟩ := VC.ok q1
    have hv : vC x = true := by unfold okB at q1; rw [Bool.and_eq_true] at q1; exact q1.1
    have hpos := hvc.pos
    have hwid := hvc.wid
    have hw : wC x = ((hs.length : Nat) : Int) := by unfold wC; rw [if_pos hv, hvc.d, hlen]; omega
    rw [hw] at HV hq0 hq1 hq2
    rw [decide_eq_false (show ¬ ((hs.length : Nat) : Int) = 0 by omega)] at hq0
    rw [decide_eq_false (show ¬ ((hs.length : Nat) : Int) ≠ ((hs.length : Nat) : Int) from fun h => h rfl)] at hq1
    rw [Bool.true_and, read_is hvc q1 hlen]
    by_cases hul : us.length = hs.length
    · rw [decide_eq_false (show ¬ ((us.length : Nat) : Int) ≠ ((hs.length : Nat) : Int) by omega)] at hq2
      rw [decide_eq_true hul, Bool.true_and]
      have HFM := hideIt hvc.fm
      have HFD := hideIt hvc.f
      have hN32 : hs.length ≤ 32 := by omega
      have HUL := hideIt hul
      obtain ⟨res, hres⟩ : ∃ r, r = alk m (presK us hs us.length) := ⟨_, rfl⟩
      rw [← hres]
      have HRES := hideIt hres
      clear q1 hv hw hvc hlen hul hres hpos hwid
      go_enter Tryd.func56, Tryd.ntmps56
      go_wp2_with (first
        | (go_at_call 22; rw [← HWE.out]; refine HV.out.mono ?_; rintro e w1 ⟨rfl, hb1⟩; have HB1 := hideIt hb1; clear hb1 HV))
      go_loopg [8, 9] hs.length (fun gk s8 s9 wr => ∃ k : Nat, k + gk = hs.length ∧ s8 = .int .i64 (szK us hs k) ∧ s9 = .int .i64 (k : Int) ∧ wr = w1 ∧ Aside (alk m (presK us hs k) = true))
      case atStart => exact ⟨0, by omega, rfl, rfl, rfl, rfl⟩
      case round =>
        obtain ⟨k, hk, rfl, rfl, rfl, HAL⟩ := hrel
        obtain ⟨w1, rfl⟩ : ∃ x, x = wr := ⟨wr, rfl⟩
        by_cases hlt : k < hs.length
        · have hki : (k : Int) < (hs.length : Int) := by omega
          have hinc := inc_c 3 k (by omega)
          have hku : k < us.length := by rw [HUL.out]; exact hlt
          have hkui : (k : Int) < (us.length : Int) := by omega
          obtain ⟨b2, o2, v, hA2, hb2, hv2, hc⟩ := (HSD.out.below HB1.out).at_ hlt
          rw [List.getElem?_map, List.getElem?_eq_getElem hlt] at hv2
          injection hv2 with hv2
          subst hv2 hA2
          change w1.cell? ⟨b2, o2 + k, none⟩ = some (.bool hs[k]) at hc
          have hhv : hs.getD k false = hs[k] := by simp [List.getD_eq_getElem?_getD, hlt]
          have HP := hideIt (show presK us hs (k + 1) = if hs.getD k false = true then presK us hs k ++ [us.getD k []] else presK us hs k from rfl)
          rw [hhv] at HP
          have HMO := hideIt (presK_more us hs (k + 1) (us.length - (k + 1)))
          rw [show k + 1 + (us.length - (k + 1)) = us.length by omega] at HMO
          generalize hs[k] = bk at *
          clear hb2 hhv
          cases bk with
          | false =>
            have HE := hideIt (show presK us hs (k + 1) = presK us hs k from HP.out)
            clear HMO HP
            generalize hsz : szK us hs k = sz at *
            have HSZ := hideIt hsz
            clear hsz
            go_wp2_with fail
            go_roundg (gk - 1)
            case measure => omega
            case rel => exact ⟨k + 1, by omega, by unfold szK; rw [HE.out, ← HSZ.out]; rfl, by go_num, rfl, by rw [HE.out]; exact HAL.out⟩
          | true =>
            have hgu : us.getD k [] = us[k] := by simp [List.getD_eq_getElem?_getD, hku]
            have HE := hideIt (show presK us hs (k + 1) = presK us hs k ++ [us[k]] by rw [← hgu]; exact HP.out)
            obtain ⟨b3, o3, hE3, hb3, hcs⟩ := (HSE.out.below HB1.out).strs (by omega)
            have hcu := hcs k hku
            have hsz := str_size us[k]
            have hbg := HBG.out _ (List.getElem_mem hku)
            have c1 := (HBC.out.keep HB1.out).c1
            rw [HFD.out] at c1
            subst hE3
            have HNE := hideIt (show ∀ (P : Prop), (alk m (presK us hs (k + 1)) = true → False) → res = false from fun P hP => by
              rw [HRES.out]
              obtain ⟨R, hR⟩ := HMO.out
              rw [hR]
              exact Bool.eq_false_iff.2 fun h => hP (alk_app h))
            have HSN := hideIt (alk_snoc (m := m) (a := presK us hs k) (u := us[k]))
            have HSZ1 := hideIt (show szK us hs (k + 1) = (ul (presK us hs k ++ [us[k]]) : Int) by unfold szK; rw [HE.out, if_neg (by simp)])
            have HUA := hideIt (fun h : presK us hs k ≠ [] => ul_app (b := [us[k]]) h)
            have HU0 := hideIt (fun h : presK us hs k = [] => show ul (presK us hs k ++ [us[k]]) = us[k].length by rw [h]; rfl)
            clear hcs hb3 HP hgu HMO
            generalize us[k] = u at *
            clear hku
            generalize str u = su at *
            by_cases hP : presK us hs k = []
            · have hs0 : szK us hs k = -1 := by unfold szK; rw [if_pos hP]
              have HUL0 := hideIt (HU0.out hP)
              rw [hs0]
              have hneq := neqF 3 u.length
              clear hs0 hP HUA HU0
              rcases HFM.out with rfl | rfl
              · have c18 : w1.cell? ⟨w.heap.size, 1, none⟩ = some (.int .i64 8) := c1
                clear c1
                go_wp2_with fail
                go_roundg (gk - 1)
                case measure => omega
                case rel => exact ⟨k + 1, by omega, by rw [HSZ1.out, HUL0.out], by go_num, rfl, by rw [HE.out]; exact HSN.out.2 ⟨HAL.out, HUL0.out.symm, by omega⟩⟩
              · have c18 : w1.cell? ⟨w.heap.size, 1, none⟩ = some (.int .i64 16) := c1
                clear c1
                by_cases hm2 : u.length % 2 = 1
                · have hrm := rem2_one 3 u.length hm2
                  have HM2 := hideIt hm2
                  clear hm2
                  have HF := hideIt (HNE.out True fun h => by rw [HE.out] at h; have := (HSN.out.1 h).2.2; have := HM2.out; omega)
                  go_wp2_with fail
                  go_ret
                  exact ⟨by rw [HF.out]; rfl, HB.out.trans (HB1.out.mono HB.out.size)⟩
                · have hrm := rem2_zero 3 u.length (by omega)
                  have HM2 := hideIt (show u.length % (16 / 8) = 0 by omega)
                  clear hm2
                  go_wp2_with fail
                  go_roundg (gk - 1)
                  case measure => omega
                  case rel => exact ⟨k + 1, by omega, by rw [HSZ1.out, HUL0.out], by go_num, rfl, by rw [HE.out]; exact HSN.out.2 ⟨HAL.out, HUL0.out.symm, HM2.out⟩⟩
            · obtain ⟨q, hq⟩ : ∃ q, q = ul (presK us hs k) := ⟨_, rfl⟩
              have hs0 : szK us hs k = (q : Int) := by unfold szK; rw [if_neg hP, hq]
              have HUL1 := hideIt (show ul (presK us hs k ++ [u]) = q by rw [HUA.out hP, hq])
              rw [hs0]
              have hd0 : decide ((q : Int) < 0) = false := decide_eq_false (by omega)
              clear hs0 hP HUA HU0 hq
              by_cases hlq : u.length = q
              · subst hlq
                have hneq := neqF 3 u.length
                rcases HFM.out with rfl | rfl
                · have c18 : w1.cell? ⟨w.heap.size, 1, none⟩ = some (.int .i64 8) := c1
                  clear c1
                  go_wp2_with fail
                  go_roundg (gk - 1)
                  case measure => omega
                  case rel => exact ⟨k + 1, by omega, by rw [HSZ1.out, HUL1.out], by go_num, rfl, by rw [HE.out]; exact HSN.out.2 ⟨HAL.out, HUL1.out.symm, by omega⟩⟩
                · have c18 : w1.cell? ⟨w.heap.size, 1, none⟩ = some (.int .i64 16) := c1
                  clear c1
                  by_cases hm2 : u.length % 2 = 1
                  · have hrm := rem2_one 3 u.length hm2
                    have HM2 := hideIt hm2
                    clear hm2
                    have HF := hideIt (HNE.out True fun h => by rw [HE.out] at h; have := (HSN.out.1 h).2.2; have := HM2.out; omega)
                    go_wp2_with fail
                    go_ret
                    exact ⟨by rw [HF.out]; rfl, HB.out.trans (HB1.out.mono HB.out.size)⟩
                  · have hrm := rem2_zero 3 u.length (by omega)
                    have HM2 := hideIt (show u.length % (16 / 8) = 0 by omega)
                    clear hm2
                    go_wp2_with fail
                    go_roundg (gk - 1)
                    case measure => omega
                    case rel => exact ⟨k + 1, by omega, by rw [HSZ1.out, HUL1.out], by go_num, rfl, by rw [HE.out]; exact HSN.out.2 ⟨HAL.out, HUL1.out.symm, HM2.out⟩⟩
              · have hneq := neqT 3 hlq
                have HLQ := hideIt hlq
                clear hlq
                have HF := hideIt (HNE.out True fun h => by rw [HE.out] at h; have h2 := (HSN.out.1 h).2.1; rw [HUL1.out] at h2; exact HLQ.out h2)
                go_wp2_with fail
                go_ret
                exact ⟨by rw [HF.out]; rfl, HB.out.trans (HB1.out.mono HB.out.size)⟩
        · have hki : ¬ (k : Int) < (hs.length : Int) := by omega
          have HE := hideIt (show res = true by rw [HRES.out, HUL.out, show hs.length = k by omega]; exact HAL.out)
          generalize szK us hs k = sz at *
          go_wp2_with fail
          go_ret
          exact ⟨by rw [HE.out]; rfl, HB.out.trans (HB1.out.mono HB.out.size)⟩
    · rw [decide_eq_true (show ((us.length : Nat) : Int) ≠ ((hs.length : Nat) : Int) by omega)] at hq2
      rw [decide_eq_false hul, Bool.false_and]
      clear q1 hv hw hvc hlen hul
      go_enter Tryd.func56, Tryd.ntmps56
      go_wp2_with (first
        | (go_at_call 22; rw [← HWE.out]; refine HV.out.mono ?_; rintro e w1 ⟨rfl, hb1⟩; have HB1 := hideIt hb1; clear hb1 HV))
      go_ret
      exact ⟨rfl, HB.out.trans (HB1.out.mono HB.out.size)⟩
  | false =>
    rw [Bool.false_and]
    by_cases hz : wC x = 0
    · rw [decide_eq_true hz] at hq0
      clear q1 hz
      generalize wC x = z at *
      go_enter Tryd.func56, Tryd.ntmps56
      go_wp2_with (first
        | (go_at_call 22; rw [← HWE.out]; refine HV.out.mono ?_; rintro e w1 ⟨rfl, hb1⟩; have HB1 := hideIt hb1; clear hb1 HV))
      go_ret
      exact ⟨rfl, HB.out.trans (HB1.out.mono HB.out.size)⟩
    · rw [decide_eq_false hz] at hq0
      have hne : (hs.length : Int) ≠ wC x := fun h => by
        have hv : vC x = true := by
          cases hv : vC x with
          | true => rfl
          | false => exact absurd (by unfold wC; rw [hv]; rfl) hz
        unfold okB at q1
        unfold wC at h
        rw [if_pos hv] at h
        rw [hv, h, Bool.true_and, decide_eq_true rfl] at q1
        cases q1
      rw [decide_eq_true hne] at hq1
      clear q1 hz hne
      generalize wC x = z at *
      go_enter Tryd.func56, Tryd.ntmps56
      go_wp2_with (first
        | (go_at_call 22; rw [← HWE.out]; refine HV.out.mono ?_; rintro e w1 ⟨rfl, hb1⟩; have HB1 := hideIt hb1; clear hb1 HV))
      go_ret
      exact ⟨rfl, HB.out.trans (HB1.out.mono HB.out.size)⟩

theorem own_beside {w w' : World} {B B' n n' k k' : Nat} {e e' : TypeId} {v v' : Value} {xs xs' : List Value} (h : w.ownsRow B e k v n xs) (h' : w.ownsRow B' e' k' v' n' xs') (ht : e ≠ e') {o : Obj} (hg : (w.alloc o).grownBy w' v'.ownBlock) : w'.ownsRow B e k v n xs :=
  (own_kept h (below_new w o)).kept hg (own_apart2 (own_kept h (below_new w o)) (own_kept h' (below_new w o)) ht).kept
/-- The sum of the terms of a unit that can be recovered is no error. -/
theorem rec_gd {x : Cd} {m n : Nat} (h : VC x m n) {us : List (List UInt8)} {hs : List Bool} (hl : hs.length = n + x.par.length) (hul : us.length = hs.length) (hal : alk m (presK us hs us.length) = true) {u : Nat} (hu : u < hs.length) (hr : recov x hs u) :
    Gd (m : Int) (cfs (tms (basL x hs) (cofU x hs u) (basL x hs).length)) (sms (tms (basL x hs) (cofU x hs u) (basL x hs).length) us) := by
  obtain ⟨h1, _, h3, _⟩ := coef_facts h hr
  generalize tms (basL x hs) (cofU x hs u) (basL x hs).length = T at *
  refine alk_gd (by rw [List.length_map, List.length_map]) ?_ (fun c hc => ?_) (alk_sub hal fun v hv => ?_)
  · cases T with
    | nil =>
      obtain ⟨j, hj, h0⟩ := row_some h (show u < n + x.par.length by omega)
      exact absurd (h3 j hj).symm h0
    | cons t r => simp
  · obtain ⟨t, ht, rfl⟩ := List.mem_map.1 hc
    exact vd_true (a := t.2) h.fm (h1 t ht).2.2.1
  · obtain ⟨t, ht, rfl⟩ := List.mem_map.1 hv
    have := h1 t ht
    exact presK_in (by omega) this.2.1

set_option maxHeartbeats 1600000 in
set_option maxRecDepth 100000 in
theorem rrecover_any (x : Cd) (A : Option Addr) (c : Nat) (w : World) (hx : CIn w x A) (hsm : Sm x) (us : List (List UInt8)) (hbig : ∀ u ∈ us, u.length ≤ 100000) (E : Option Addr) (ce : Nat) (hE : Sl w w.heap.size E 1 us.length (us.map sv)) (hs : List Bool) (D : Option Addr) (cd : Nat) (hD : Sl w w.heap.size D 1 hs.length (hs.map bl)) (u : Int) :
    Calls Tryd.prog 34 #[x.v A c, .slice E us.length ce, .slice D hs.length cd, .int .i64 u] w fun e w' => e = .returned (.tuple #[.string (str (recR x us hs u).1), .int .i64 (recR x us hs u).2]) ∧ Below w.heap.size w w' := by
  obtain ⟨W, hW⟩ : ∃ W, W = w.alloc (.cells (x.cs A c).toArray 24) := ⟨_, rfl⟩
  have hbw : Below w.heap.size w W := by rw [hW]; exact below_new w _
  have HB := hideIt hbw
  have HBC := hideIt (show BC W w.heap.size x A c by rw [hW]; exact BC.new c hx)
  have HSE := hideIt ((hE.below hbw).wide hbw.size)
  have HV := hideIt (rfit_any x A c W HBC.out.cin hsm us hbig E ce HSE.out hs D cd ((hD.below hbw).wide hbw.size))
  have HC := hideIt (fun (W2 : World) (h : Below W.heap.size W W2) => rcomb_any x A c W2 (HBC.out.cin.keep h) hsm hs D cd ((((hD.below hbw).wide hbw.size).below h).wide h.size) u)
  have HBG := hideIt hbig
  have HWE := hideIt hW
  have hnot := not_b
  obtain ⟨r1, r2, hr⟩ : ∃ r1 r2, recR x us hs u = (r1, r2) := ⟨_, _, rfl⟩
  rw [hr]
  dsimp only
  clear hbw hx hW hD hE hsm hbig
  cases q1 : (okB x hs && readB x us hs) with
  | true =>
    rw [q1] at HV
    rw [Bool.and_eq_true] at q1
    have hcase : (∃ ee : Int, ee ≠ 0 ∧ combR x hs u = ([], ee) ∧ r1 = [] ∧ r2 = ee) ∨ (∃ un : Nat, ∃ T : List (Nat × Nat), combR x hs u = (T, 0) ∧ (∀ t ∈ T, t.1 < us.length) ∧ T.length ≤ 32 ∧ cbE x.field (cfs T) (sms T us) = 0 ∧ r1 = cbS x.field (cfs T) (sms T us) ∧ r2 = 0) := by
      by_cases hi : idxB hs u = true
      · have e1 : combR x hs u = trmR x hs u.toNat := by unfold combR; rw [if_pos ⟨q1.1, hi⟩]
        have e2 : recR x us hs u = if (trmR x hs u.toNat).2 = 0 then (sumR x.field (trmR x hs u.toNat).1 us, 0) else ([], (trmR x hs u.toNat).2) := by unfold recR; rw [if_pos ⟨q1.1, hi, q1.2⟩]
        by_cases h2 : recov x hs u.toNat
        · have e3 : trmR x hs u.toNat = (tms (basL x hs) (cofU x hs u.toNat) (basL x hs).length, 0) := by unfold trmR; rw [if_pos h2]
          obtain ⟨m, n, hvc, hlen⟩ := VC.ok q1.1
          have hrd := q1.2
          rw [read_is hvc q1.1 hlen, Bool.and_eq_true] at hrd
          have hul := of_decide_eq_true hrd.1
          have hiu := of_decide_eq_true hi
          have hgd := rec_gd hvc hlen hul hrd.2 (show u.toNat < hs.length by omega) h2
          obtain ⟨f1, _, _, f4⟩ := coef_facts hvc h2
          rw [e3] at e1 e2
          rw [if_pos rfl, hr] at e2
          injection e2 with e4 e5
          refine .inr ⟨u.toNat, _, e1, fun t ht => by rw [hul]; exact (f1 t ht).1, f4, ?_, e4, e5⟩
          unfold cbE
          rw [hvc.f, if_pos hgd]
        · have e3 : trmR x hs u.toNat = ([], 11) := by unfold trmR; rw [if_neg h2]
          rw [e3] at e1 e2
          rw [if_neg (by decide), hr] at e2
          injection e2 with e4 e5
          exact .inl ⟨11, by decide, e1, e4, e5⟩
      · have e1 : combR x hs u = ([], 1) := by unfold combR; rw [if_neg fun h => hi h.2]
        have e2 : recR x us hs u = ([], 1) := by unfold recR; rw [if_neg fun h => hi h.2.1]
        rw [hr] at e2
        injection e2 with e4 e5
        exact .inl ⟨1, by decide, e1, e4, e5⟩
    clear hr q1
    rcases hcase with ⟨ee, hne, h1, rfl, rfl⟩ | ⟨un, T, h1, hin, hT32, hE0, rfl, rfl⟩
    · rw [h1] at HC
      have he0 : binOp .neq 32 (.int .i64 r2) (.int .i64 0) = pure (.bool true) := by rw [i_neq, decide_eq_true hne]
      clear h1 hne
      go_enter Tryd.func34, Tryd.ntmps34
      go_wp2_with (first
        | (go_at_call 56; rw [← HWE.out]; refine HV.out.mono ?_; rintro e w1 ⟨rfl, hb1⟩; have HB1 := hideIt hb1; clear hb1 HV)
        | ((with_reducible refine at_load ?_); refine wpList_ldC (by kernel_rfl) (.tmp 4) rfl (p := w.heap.size) (c := c) rfl (HBC.out.keep HB1.out).box ?_)
        | (go_at_call 27; refine (HC.out _ HB1.out).mono ?_; rintro e w2 ⟨v2, rfl, ho2, hb2⟩; have HB2 := hideIt hb2; clear hb2 ho2 HC))
      go_ret2
      exact ⟨rfl, HB.out.trans ((HB1.out.trans (HB2.out.mono HB1.out.size)).mono HB.out.size)⟩
    · rw [h1] at HC
      have he0 : binOp .neq 32 (.int .i64 0) (.int .i64 0) = pure (.bool false) := by rw [i_neq]; rfl
      have HIN := hideIt hin
      have HE0 := hideIt hE0
      have HMS := hideIt (show ∀ v ∈ sms T us, v.length ≤ 100000 from fun v hv => by
        obtain ⟨t, ht, rfl⟩ := List.mem_map.1 hv
        have := hin t ht
        rw [show us.getD t.1 [] = us[t.1] by simp [List.getD_eq_getElem?_getD, this]]
        exact HBG.out _ (List.getElem_mem _))
      have HCM := hideIt (fun (W2 : World) A ca D cd h1 h2 => rcombine_any x.field A ca (cfs T) D cd (sms T us) W2 (by rw [List.length_map]; omega) HMS.out h1 h2)
      rw [List.length_map, List.length_map, hE0] at HCM
      obtain ⟨q, hq⟩ : ∃ q, q = T.length := ⟨_, rfl⟩
      have HQ := hideIt hq
      rw [← hq] at HCM hT32
      have HC2 := hideIt (fun (W2 : World) (h : Below W.heap.size W W2) => (HC.out W2 h).mono (R' := fun e w' => ∃ B cb, e = .returned (.tuple #[.slice B q cb, .int .i64 0]) ∧ Sl w' w'.heap.size B 2 q (tcs T) ∧ Below W2.heap.size W2 w') (by
        rintro e w' ⟨v, rfl, ho, hb⟩
        dsimp only at ho
        rw [← hq] at ho
        obtain ⟨B, cb, rfl, _, _⟩ := own_form ho
        exact ⟨B, cb, rfl, Sl.of_own ho, hb⟩))
      have hc0 := hideIt (fun (W2 : World) (h : Below W.heap.size W W2) => (HBC.out.keep h).c1)
      clear h1 hin hE0 hq HC
      generalize cbS x.field (cfs T) (sms T us) = rs at *
      go_enter Tryd.func34, Tryd.ntmps34
      go_wp2_with (first
        | (go_at_call 56; rw [← HWE.out]; refine HV.out.mono ?_; rintro e w1 ⟨rfl, hb1⟩; have HB1 := hideIt hb1; clear hb1 HV)
        | ((with_reducible refine at_load ?_); refine wpList_ldC (by kernel_rfl) (.tmp 4) rfl (p := w.heap.size) (c := c) rfl (HBC.out.keep HB1.out).box ?_)
        | (go_at_call 27; refine (HC2.out _ HB1.out).mono ?_; rintro e w2 ⟨B2, cb2, rfl, hs2, hb2⟩; have HB2 := hideIt (HB1.out.trans (hb2.mono HB1.out.size)); have HS2 := hideIt hs2; clear hb2 hs2 HC2))
      go_loopg [13, 14, 15] q (fun gk s13 s14 s15 wr => ∃ k : Nat, k + gk = q ∧ s15 = .int .i64 (k : Int) ∧ Aside (Below w2.heap.size w2 wr) ∧ Aside (wr.ownsRow w2.heap.size 3 1 s13 k ((cfs (T.take k)).map iv)) ∧ Aside (wr.ownsRow w2.heap.size 9 1 s14 k ((sms (T.take k) us).map sv)))
      case atStart => exact ⟨0, by omega, rfl, Below.refl _ _, World.ownsRow_nil _ _ _ _, World.ownsRow_nil _ _ _ _⟩
      case round =>
        obtain ⟨k, hk, rfl, HLW, HO7, HO8⟩ := hrel
        obtain ⟨w5, rfl⟩ : ∃ x, x = wr := ⟨wr, rfl⟩
        obtain ⟨A7, c7, e7, _, _⟩ := own_form HO7.out
        obtain ⟨A8, c8, e8, _, _⟩ := own_form HO8.out
        subst e7 e8
        by_cases hlt : k < q
        · have hkl : k < T.length := by rw [← HQ.out]; exact hlt
          have h1 := HIN.out _ (List.getElem_mem hkl)
          obtain ⟨b, o, hA, hb, hc⟩ := (HS2.out.below HLW.out).2 (by rw [tcs_len]; omega)
          have hcu := hc _ _ (tcs_at T k hkl).1
          have hcc := hc _ _ (tcs_at T k hkl).2
          have HW5 := hideIt (HB2.out.trans (HLW.out.mono HB2.out.size))
          obtain ⟨b2, o2, hD, hb2, hcs⟩ := (HSE.out.below HW5.out).strs (by omega)
          have hcs1 := hcs _ h1
          have hgd : us.getD (T[k]).1 [] = us[(T[k]).1] := by simp [List.getD_eq_getElem?_getD, h1]
          have HN1 := hideIt (show (cfs (T.take (k + 1))).map iv = ((cfs (T.take k)) ++ [((T[k]).2 : Int)]).map iv by rw [take_snoc T k hkl]; unfold cfs; rw [List.map_append]; rfl)
          have HN2 := hideIt (show (sms (T.take (k + 1)) us).map sv = ((sms (T.take k) us) ++ [us[(T[k]).1]]).map sv by rw [take_snoc T k hkl]; unfold sms; rw [List.map_append, ← hgd]; rfl)
          have hun : ((T[k]).1 : Int) < (us.length : Int) := by omega
          have hinc := inc_c 3 k (by omega)
          have hki : (k : Int) < (q : Int) := by omega
          generalize us[(T[k]).1] = s0 at *
          generalize (T[k]).1 = tn at *
          generalize (T[k]).2 = cf at *
          rw [← Nat.add_assoc] at hcc
          subst hA hD
          have HCS := hideIt (fun (W2 : World) (h : Below w2.heap.size w5 W2) => And.intro ((h.cell (p := ⟨b, o + k * 2, none⟩) hb).trans hcu) ((h.cell (p := ⟨b2, o2 + tn, none⟩) (Nat.lt_of_lt_of_le hb2 HB2.out.size)).trans hcs1))
          clear hc hcs hgd h1 hkl hb hb2 hcu hcs1
          go_wp2_with (first
            | ((with_reducible refine at_append ?_); refine wpList_apI (y := (cf : Int)) (n := k) rfl (.tmp 38) (.tmp 44) rfl rfl HO7.out rfl (by omega) HLW.out.size ?_; intro v6 w6 HO6 HG6 HA6 HB6; have HP6 := hideIt (own_beside HO8.out HO7.out (by decide) HG6.out); have HL6 := hideIt (HLW.out.trans HB6.out); obtain ⟨g1, g2⟩ := HCS.out _ HB6.out; clear hcc)
            | ((with_reducible refine at_append ?_); refine wpList_apS (u := s0) (n := k) rfl (.tmp 46) (.tmp 55) rfl rfl HP6.out rfl (by omega) HL6.out.size ?_; intro v7 w7 HO9 HG9 HA9 HB9))
          go_roundg (gk - 1)
          case measure => omega
          case rel => exact ⟨k + 1, by omega, by go_num, HL6.out.trans HB9.out, by rw [HN1.out]; exact own_beside HO6.out HP6.out (by decide) HG9.out, by rw [HN2.out]; exact HO9.out⟩
        · have hki : ¬ (k : Int) < (q : Int) := by omega
          obtain rfl : k = q := by omega
          have ho7 := Sl.of_own HO7.out
          have ho8 := Sl.of_own HO8.out
          rw [HQ.out, List.take_length, ← HQ.out] at ho7 ho8
          have HW5 := hideIt (HB2.out.trans (HLW.out.mono HB2.out.size))
          have c1 := hc0.out w5 HW5.out
          have HCM5 := hideIt (HCM.out w5 A7 c7 A8 c8 ho7 ho8)
          clear ho7 ho8 HCM
          go_wp2_with (first
            | (go_at_call 44; refine HCM5.out.mono ?_; rintro e w6 ⟨rfl, hb6⟩; have HB6 := hideIt hb6; clear hb6 HCM5))
          go_ret2
          exact ⟨rfl, HB.out.trans ((HW5.out.trans (HB6.out.mono HW5.out.size)).mono HB.out.size)⟩
  | false =>
    rw [q1] at HV
    have e2 : recR x us hs u = ([], 1) := by
      unfold recR
      rw [if_neg fun h => by rw [h.1, h.2.2] at q1; cases q1]
    rw [hr] at e2
    injection e2 with e4 e5
    subst e4 e5
    clear hr q1 HC
    go_enter Tryd.func34, Tryd.ntmps34
    go_wp2_with (first
      | (go_at_call 56; rw [← HWE.out]; refine HV.out.mono ?_; rintro e w1 ⟨rfl, hb1⟩; have HB1 := hideIt hb1; clear hb1 HV))
    go_ret2
    exact ⟨rfl, HB.out.trans (HB1.out.mono HB.out.size)⟩

/-- What Decode answers where its arguments fit. -/
theorem dec_full {x : Cd} {m n : Nat} (h : VC x m n) {us : List (List UInt8)} {hs : List Bool} (hok : okB x hs = true) (hrd : readB x us hs = true) (hl : hs.length = n + x.par.length) (hall : ∀ u, u < hs.length → recov x hs u) : decR x us hs = ((List.range us.length).map (fun u => sumR x.field (trmR x hs u).1 us), 0) := by
  unfold decR
  rw [if_pos ⟨hok, hrd⟩, if_pos (by rw [(all_recov h hl).1 hall]; exact h.dn.symm)]
theorem dec_lost {x : Cd} {m n : Nat} (h : VC x m n) {us : List (List UInt8)} {hs : List Bool} (hok : okB x hs = true) (hrd : readB x us hs = true) (hl : hs.length = n + x.par.length) {u : Nat} (hu : u < hs.length) (hno : ¬ recov x hs u) : decR x us hs = ([], 11) := by
  unfold decR
  rw [if_pos ⟨hok, hrd⟩, if_neg (fun e => hno ((all_recov h hl).2 (e.trans h.dn) u hu))]
open Classical in
theorem rec_one {x : Cd} {us : List (List UInt8)} {hs : List Bool} (hok : okB x hs = true) (hrd : readB x us hs = true) {u : Nat} (hu : u < hs.length) : recR x us hs (u : Int) = if recov x hs u then (sumR x.field (trmR x hs u).1 us, 0) else ([], 11) := by
  have hidx : idxB hs (u : Int) = true := decide_eq_true (by omega)
  unfold recR
  rw [if_pos ⟨hok, hidx, hrd⟩, Int.toNat_natCast]
  by_cases h : recov x hs u
  · rw [if_pos h, if_pos (show (trmR x hs u).2 = 0 by unfold trmR; rw [if_pos h])]
  · rw [if_neg h, if_neg (show ¬ (trmR x hs u).2 = 0 by unfold trmR; rw [if_neg h]; decide)]
    unfold trmR
    rw [if_neg h]

set_option maxHeartbeats 1600000 in
set_option maxRecDepth 100000 in
theorem rdecode_any (x : Cd) (A : Option Addr) (c : Nat) (w : World) (hx : CIn w x A) (hsm : Sm x) (us : List (List UInt8)) (hbig : ∀ u ∈ us, u.length ≤ 100000) (E : Option Addr) (ce : Nat) (hE : Sl w w.heap.size E 1 us.length (us.map sv)) (hs : List Bool) (D : Option Addr) (cd : Nat) (hD : Sl w w.heap.size D 1 hs.length (hs.map bl)) :
    Calls Tryd.prog 36 #[x.v A c, .slice E us.length ce, .slice D hs.length cd] w (StrRes w (decR x us hs)) := by
  obtain ⟨W, hW⟩ : ∃ W, W = w.alloc (.cells (x.cs A c).toArray 24) := ⟨_, rfl⟩
  have hbw : Below w.heap.size w W := by rw [hW]; exact below_new w _
  have HB := hideIt hbw
  have HBC := hideIt (show BC W w.heap.size x A c by rw [hW]; exact BC.new c hx)
  have hE1 := (hE.below hbw).wide hbw.size
  have hD1 := (hD.below hbw).wide hbw.size
  have HV := hideIt (rfit_any x A c W HBC.out.cin hsm us hbig E ce hE1 hs D cd hD1)
  have HR := hideIt (fun (W2 : World) (h : Below W.heap.size W W2) (u : Int) => rrecover_any x A c W2 (HBC.out.cin.keep h) hsm us hbig E ce ((hE1.below h).wide h.size) hs D cd ((hD1.below h).wide h.size) u)
  have HWE := hideIt hW
  have hnot := not_b
  obtain ⟨res, hres⟩ : ∃ r, r = decR x us hs := ⟨_, rfl⟩
  rw [← hres]
  clear hbw hx hW hD hE hD1 hE1 hsm hbig
  cases q1 : (okB x hs && readB x us hs) with
  | true =>
    rw [q1] at HV
    rw [Bool.and_eq_true] at q1
    obtain ⟨m, n, hvc, hlen⟩ := VC.ok q1.1
    have hrd := q1.2
    rw [read_is hvc q1.1 hlen, Bool.and_eq_true] at hrd
    have hul := of_decide_eq_true hrd.1
    have hN32 : us.length ≤ 32 := by have := hvc.wid; omega
    have HFU := hideIt (fun h => hres.trans (dec_full hvc q1.1 q1.2 hlen h))
    have HLO := hideIt (fun u hu h => hres.trans (dec_lost hvc q1.1 q1.2 hlen (u := u) hu h))
    have HON := hideIt (fun u hu => rec_one (u := u) q1.1 q1.2 hu)
    have HUL := hideIt hul
    have he0 : binOp .neq 32 (.int .i64 0) (.int .i64 0) = pure (.bool false) := by rw [i_neq]; rfl
    have he1 : binOp .neq 32 (.int .i64 11) (.int .i64 0) = pure (.bool true) := by rw [i_neq]; rfl
    clear q1 hvc hlen hrd hul hres
    go_enter Tryd.func36, Tryd.ntmps36
    go_wp2_with (first
      | (go_at_call 56; rw [← HWE.out]; refine HV.out.mono ?_; rintro e w1 ⟨rfl, hb1⟩; have HB1 := hideIt hb1; clear hb1 HV))
    go_loopg [9, 10] us.length (fun gk s9 s10 wr => ∃ k : Nat, k + gk = us.length ∧ s10 = .int .i64 (k : Int) ∧ Aside (Below W.heap.size W wr) ∧ Aside (wr.ownsRow W.heap.size 9 1 s9 k (((List.range k).map fun u => sumR x.field (trmR x hs u).1 us).map sv)) ∧ Aside (∀ u, u < k → recov x hs u))
    case atStart => exact ⟨0, by omega, rfl, HB1.out, World.ownsRow_nil _ _ _ _, fun u hu => absurd hu (Nat.not_lt_zero u)⟩
    case round =>
      obtain ⟨k, hk, rfl, HLW, HO, HREC⟩ := hrel
      obtain ⟨w4, rfl⟩ : ∃ x, x = wr := ⟨wr, rfl⟩
      obtain ⟨A9, c9, e9, _, _⟩ := own_form HO.out
      subst e9
      by_cases hlt : k < us.length
      · have hki : (k : Int) < (us.length : Int) := by omega
        have hinc := inc_c 3 k (by omega)
        have hkh : k < hs.length := by rw [← HUL.out]; exact hlt
        have HR4 := hideIt (HR.out w4 HLW.out (k : Int))
        rw [HON.out k hkh] at HR4
        have HBK := hideIt (HBC.out.keep HLW.out)
        by_cases hr : recov x hs k
        · rw [if_pos hr] at HR4
          have HR5 := hideIt hr
          have HNX := hideIt (show ((List.range (k + 1)).map fun u => sumR x.field (trmR x hs u).1 us).map sv = ((((List.range k).map fun u => sumR x.field (trmR x hs u).1 us)) ++ [sumR x.field (trmR x hs k).1 us]).map sv by rw [List.range_succ, List.map_append]; rfl)
          clear hr hlt hkh
          generalize sumR x.field (trmR x hs k).1 us = sk at *
          go_wp2_with (first
            | ((with_reducible refine at_load ?_); refine wpList_ldC (by kernel_rfl) (.tmp 3) rfl (p := w.heap.size) (c := c) rfl HBK.out.box ?_)
            | (go_at_call 34; refine HR4.out.mono ?_; rintro e w5 ⟨rfl, hb5⟩; have HB5 := hideIt hb5; have HO5 := hideIt (own_kept HO.out hb5); have HL5 := hideIt (HLW.out.trans (hb5.mono HLW.out.size)); clear hb5 HR4)
            | ((with_reducible refine at_append ?_); refine wpList_apS (u := sk) (n := k) rfl (.tmp 36) (.tmp 38) rfl rfl HO5.out rfl (by omega) HL5.out.size ?_; intro v7 w7 HO7 HG7 HA7 HB7))
          go_roundg (gk - 1)
          case measure => omega
          case rel => exact ⟨k + 1, by omega, by go_num, HL5.out.trans HB7.out, by rw [HNX.out]; exact HO7.out, fun u hu => by
            by_cases e : u = k
            · rw [e]; exact HR5.out
            · exact HREC.out u (by omega)⟩
        · rw [if_neg hr] at HR4
          have HE := hideIt (HLO.out k hkh hr)
          clear hr hlt hkh
          go_wp2_with (first
            | ((with_reducible refine at_load ?_); refine wpList_ldC (by kernel_rfl) (.tmp 3) rfl (p := w.heap.size) (c := c) rfl HBK.out.box ?_)
            | (go_at_call 34; refine HR4.out.mono ?_; rintro e w5 ⟨rfl, hb5⟩; have HB5 := hideIt hb5; clear hb5 HR4))
          go_ret2
          rw [HE.out]
          exact StrRes.nil (HB.out.trans ((HLW.out.trans (HB5.out.mono HLW.out.size)).mono HB.out.size)) 11
      · have hki : ¬ (k : Int) < (us.length : Int) := by omega
        obtain rfl : k = us.length := by omega
        have HE := hideIt (HFU.out fun u hu => HREC.out u (by rw [HUL.out]; exact hu))
        go_wp2_with fail
        go_ret2
        rw [HE.out]
        refine ⟨_, rfl, ?_, HB.out.trans (HLW.out.mono HB.out.size)⟩
        show World.ownsRow _ _ _ _ _ (List.map _ (List.range us.length)).length _
        rw [List.length_map, List.length_range]
        exact own_base HO.out HB.out.size
  | false =>
    rw [q1] at HV
    have HE : Hid (res = ([], 1)) := hideIt (by
      rw [hres]
      unfold decR
      rw [if_neg fun h => by rw [h.1, h.2] at q1; cases q1])
    clear q1 HR hres
    go_enter Tryd.func36, Tryd.ntmps36
    go_wp2_with (first
      | (go_at_call 56; rw [← HWE.out]; refine HV.out.mono ?_; rintro e w1 ⟨rfl, hb1⟩; have HB1 := hideIt hb1; clear hb1 HV))
    go_ret2
    rw [HE.out]
    exact StrRes.nil (HB.out.trans (HB1.out.mono HB.out.size)) 1
end Go.Proofs.YtpjgmekpnlpjaaaDoor
