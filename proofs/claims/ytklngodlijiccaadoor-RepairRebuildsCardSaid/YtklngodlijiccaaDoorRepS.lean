/-
  The reference's Checks and Reads, walked.
-/
import Derived.Test.YtklngodlijiccaaDoorRepR
namespace Go.Proofs.YtklngodlijiccaaDoor
open Go.RowKit
set_option linter.unusedVariables false
set_option linter.unusedSimpArgs false

theorem chks_next (x : Cd) (u : Int) (k : Nat) : chks x u (k + 1) = if hasZ (chk x k) u = true then chks x u k ++ [chk x k] else chks x u k := by
  unfold chks
  rw [List.range_succ, List.map_append, List.filter_append]
  by_cases h : hasZ (chk x k) u = true
  · rw [if_pos h, List.map_cons, List.filter_cons, if_pos h]; rfl
  · rw [if_neg h, List.map_cons, List.filter_cons, if_neg h]; simp
theorem chks_len (x : Cd) (u : Int) (k : Nat) : (chks x u k).length ≤ k := by
  unfold chks
  have := List.length_filter_le (fun l => hasZ l u) ((List.range k).map (chk x))
  rwa [List.length_map, List.length_range] at this
theorem chk_len {x : Cd} {m n : Nat} (h : VC x m n) (i : Nat) : 0 < (chk x i).length ∧ (chk x i).length ≤ 33 := by
  rw [chk_flt h, List.length_append]
  have := flt_len (gC x (n + i)) n
  have := h.wid
  simp only [List.length_cons, List.length_nil]
  omega
set_option maxHeartbeats 1000000 in
set_option maxRecDepth 100000 in
theorem rchks_any (x : Cd) (A : Option Addr) (c : Nat) (w : World) (hx : CIn w x A) (hsm : Sm x) (u : Int) :
    Calls Tryd.prog 15 #[x.v A c, .int .i64 u] w fun e w' => ∃ v, e = .returned v ∧ RJ w' w.heap.size v (chksR x u) ∧ Below w.heap.size w w' := by
  obtain ⟨W, hW⟩ : ∃ W, W = w.alloc (.cells (x.cs A c).toArray 24) := ⟨_, rfl⟩
  have hbw : Below w.heap.size w W := by rw [hW]; exact below_new w _
  have HB := hideIt hbw
  have HBC := hideIt (show BC W w.heap.size x A c by rw [hW]; exact BC.new c hx)
  have HV := hideIt (rvalid8_any x A c W HBC.out.cin hsm)
  have HWE := hideIt hW
  have hnot := not_b
  have HR := hideIt (show chksR x u = if vC x = true ∧ 0 ≤ u then chks x u x.par.length else [] from rfl)
  clear hbw hx hW
  cases hv : vC x with
  | false =>
    rw [hv] at HV
    have HE := hideIt (HR.out.trans (if_neg (fun h => by rw [hv] at h; cases h.1)))
    clear hv HR
    go_enter Tryd.func15, Tryd.ntmps15
    go_wp2_with (first
      | ((with_reducible refine at_load ?_); refine wpList_ldC (by kernel_rfl) (.tmp 2) rfl (p := w.heap.size) (c := c) rfl (by rw [← HWE.out]; exact HBC.out.box) ?_)
      | (go_at_call 26; rw [← HWE.out]; refine HV.out.mono ?_; rintro e w1 ⟨rfl, hb1⟩; have HB1 := hideIt hb1; clear hb1 HV))
    go_ret
    exact ⟨_, rfl, by rw [HE.out]; exact RJ.nil _ _, HB.out.trans (HB1.out.mono HB.out.size)⟩
  | true =>
    rw [hv] at HV
    obtain ⟨m, n, hvc⟩ := vC_spec hv
    by_cases hu : u < 0
    · have HE := hideIt (HR.out.trans (if_neg (fun h => by have := h.2; omega)))
      clear hv HR hvc
      go_enter Tryd.func15, Tryd.ntmps15
      go_wp2_with (first
        | ((with_reducible refine at_load ?_); refine wpList_ldC (by kernel_rfl) (.tmp 2) rfl (p := w.heap.size) (c := c) rfl (by rw [← HWE.out]; exact HBC.out.box) ?_)
        | (go_at_call 26; rw [← HWE.out]; refine HV.out.mono ?_; rintro e w1 ⟨rfl, hb1⟩; have HB1 := hideIt hb1; clear hb1 HV))
      go_ret
      exact ⟨_, rfl, by rw [HE.out]; exact RJ.nil _ _, HB.out.trans (HB1.out.mono HB.out.size)⟩
    · have HE := hideIt (HR.out.trans (if_pos ⟨hv, by omega⟩))
      have HVC := hideIt hvc
      have hp8 := hsm.par
      clear hv HR hvc
      go_enter Tryd.func15, Tryd.ntmps15
      go_wp2_with (first
        | ((with_reducible refine at_load ?_); refine wpList_ldC (by kernel_rfl) (.tmp 2) rfl (p := w.heap.size) (c := c) rfl (by rw [← HWE.out]; exact HBC.out.box) ?_)
        | (go_at_call 26; rw [← HWE.out]; refine HV.out.mono ?_; rintro e w1 ⟨rfl, hb1⟩; have HB1 := hideIt hb1; clear hb1 HV))
      have HJ0 := hideIt (RJ.nil w1 W.heap.size)
      go_loopg [5, 6] x.par.length (fun gk s5 s6 wr => ∃ k : Nat, k + gk = x.par.length ∧ s6 = .int .i64 (k : Int) ∧ Aside (RJ wr W.heap.size s5 (chks x u k)) ∧ Aside (Below W.heap.size W wr))
      case atStart => exact ⟨0, by omega, rfl, HJ0.out, HB1.out⟩
      case round =>
        obtain ⟨k, hk, rfl, HJ, HL⟩ := hrel
        obtain ⟨w4, rfl⟩ : ∃ x, x = wr := ⟨wr, rfl⟩
        have HBX4 := hideIt (HBC.out.keep HL.out).box
        have c3 := (HBC.out.keep HL.out).c3
        by_cases hlt : k < x.par.length
        · have hinc := inc_c 3 k (by omega)
          have hki : (k : Int) < (x.par.length : Int) := by omega
          have HCH := hideIt (rchk_any HVC.out A c w4 (HBC.out.keep HL.out).cin k hlt)
          have hcl := chk_len HVC.out k
          have HNX := hideIt (chks_next x u k)
          have hpl := chks_len x u k
          generalize chk x k = q at *
          have HHS := hideIt (fun (W : World) (D : Option Addr) (cd : Nat) (h : Sl W W.heap.size D 1 q.length ((nI q).map iv)) => show Calls Tryd.prog 46 #[.slice D q.length cd, .int .i64 u] W (fun e w' => e = .returned (.bool (hasZ q u)) ∧ W = w') by
            have := rhas_any (nI q) (by rw [nI_len]; omega) u D cd W (by rw [nI_len]; exact h)
            rw [nI_len] at this
            exact this)
          cases hh : hasZ q u with
          | false =>
            rw [hh] at HHS HNX
            have HN := hideIt (HNX.out.trans (if_neg (by decide)))
            clear hh HNX hlt
            go_wp2_with (first
              | ((with_reducible refine at_load ?_); refine wpList_ldC (by kernel_rfl) (.tmp 2) rfl (p := w.heap.size) (c := c) rfl HBX4.out ?_)
              | (go_at_call 45; refine HCH.out.mono ?_; rintro e w6 ⟨v7, rfl, ho7, hb6⟩; obtain ⟨A7, c7, hv7, _, _⟩ := own_form ho7; subst hv7; have HS7 := hideIt (Sl.of_own ho7); have HB6 := hideIt hb6; clear ho7 hb6 HCH)
              | (go_at_call 46; refine (HHS.out _ _ _ HS7.out).mono ?_; rintro e w7 ⟨rfl, rfl⟩; clear HHS))
            go_roundg (gk - 1)
            case measure => omega
            case rel => exact ⟨k + 1, by omega, by go_num, by rw [HN.out]; exact HJ.out.keep HB6.out, HL.out.trans (HB6.out.mono HL.out.size)⟩
          | true =>
            rw [hh] at HHS HNX
            have HN := hideIt (HNX.out.trans (if_pos rfl))
            obtain ⟨pl, hpl2⟩ : ∃ l, l = chks x u k := ⟨_, rfl⟩
            rw [← hpl2] at hpl HN HJ
            obtain ⟨A3, c3v, hv3, _, _⟩ := own_form HJ.out.choose_spec.1
            subst hv3
            clear hh HNX hlt hpl2
            have hq0 := hcl.1
            go_wp2_with (first
              | ((with_reducible refine at_load ?_); refine wpList_ldC (by kernel_rfl) (.tmp 2) rfl (p := w.heap.size) (c := c) rfl HBX4.out ?_)
              | (go_at_call 45; refine HCH.out.mono ?_; rintro e w6 ⟨v7, rfl, ho7, hb6⟩; obtain ⟨g7, c7, cs7, hv7, hg7, hb7, ht7⟩ := own_blkN ho7 hq0; subst hv7; have HS7 := hideIt (Sl.of_own ho7); have HB6 := hideIt hb6; have HB7 := hideIt hb7; have HT7 := hideIt ht7; obtain ⟨vs, hvs1, hvs2⟩ := HJ.out.keep hb6; have HV1 := hideIt hvs1; have HV2 := hideIt hvs2; have HSZ := hideIt (Nat.le_trans HL.out.size hb6.size); clear ho7 hb6 hb7 ht7 hg7 hvs1 hvs2 HCH HJ)
              | (go_at_call 46; refine (HHS.out _ _ _ HS7.out).mono ?_; rintro e w7 ⟨rfl, rfl⟩; clear HHS)
              | ((with_reducible refine at_append ?_); refine wpList_apR (A := some ⟨g7, 0, none⟩) (k := q.length) (c := c7) (n := pl.length) (us := vs) rfl (.tmp 28) (.tmp 30) rfl rfl HV1.out rfl (by omega) HSZ.out ?_; intro v8 w8 HO8 HG8 HA8 HB8))
            go_roundg (gk - 1)
            case measure => omega
            case rel =>
              refine ⟨k + 1, by omega, by go_num, ?_, HL.out.trans ((HB6.out.mono HL.out.size).trans HB8.out)⟩
              rw [HN.out]
              exact RJ.snoc (b := q) HV2.out HV1.out HB7.out HT7.out HO8.out HG8.out
        · have hki : ¬ (k : Int) < (x.par.length : Int) := by omega
          obtain rfl : k = x.par.length := by omega
          go_wp2_with fail
          go_ret
          exact ⟨_, rfl, by rw [HE.out]; exact HJ.out.low HB.out.size, HB.out.trans (HL.out.mono HB.out.size)⟩
end Go.Proofs.YtklngodlijiccaaDoor
