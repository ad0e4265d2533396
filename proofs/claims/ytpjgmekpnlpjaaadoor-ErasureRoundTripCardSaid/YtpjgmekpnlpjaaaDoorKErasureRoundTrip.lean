/-
  The walk of the law: after the units that are not present were replaced by any string, Recover returns the original of every unit that is recoverable
-/
import Derived.Test.YtpjgmekpnlpjaaaDoorLwE
import Derived.Test.YtpjgmekpnlpjaaaDoorArgR
import Derived.Test.YtpjgmekpnlpjaaaDoorEreM
namespace Go.Proofs.YtpjgmekpnlpjaaaDoor.erasureRoundTrip
open Go.RowKit
set_option linter.unusedVariables false

/-- The units: what is not present is noise. -/
def unK (hs : List Bool) (S : List (List UInt8)) (z : List UInt8) (k : Nat) : List (List UInt8) := (List.range k).map fun i => if hs.getD i false = true then S.getD i [] else z
theorem unK_next (hs : List Bool) (S : List (List UInt8)) (z : List UInt8) (k : Nat) : unK hs S z (k + 1) = unK hs S z k ++ [if hs.getD k false = true then S.getD k [] else z] := by
  unfold unK
  rw [List.range_succ, List.map_append]
  rfl
theorem unK_len (hs : List Bool) (S : List (List UInt8)) (z : List UInt8) (k : Nat) : (unK hs S z k).length = k := by simp [unK]
theorem unK_at (hs : List Bool) (S : List (List UInt8)) (z : List UInt8) {k i : Nat} (h : i < k) : (unK hs S z k).getD i [] = if hs.getD i false = true then S.getD i [] else z := by
  unfold unK
  rw [List.getD_eq_getElem?_getD, List.getElem?_map, List.getElem?_range h]
  rfl
noncomputable def rcB (x : Cd) (hs : List Bool) (i : Nat) : Bool := decide ((combR x hs (i : Int)).2 = 0)
noncomputable def allK (x : Cd) (hs : List Bool) (k : Nat) : Bool := (List.range k).all (rcB x hs)
theorem allK_next (x : Cd) (hs : List Bool) (k : Nat) : allK x hs (k + 1) = (allK x hs k && rcB x hs k) := by
  unfold allK
  rw [List.range_succ, List.all_append]
  simp
theorem comb_zero {x : Cd} {hs : List Bool} (hok : okB x hs = true) {i : Nat} (hi : i < hs.length) : (combR x hs (i : Int)).2 = 0 ↔ recov x hs i := by
  unfold combR
  rw [if_pos ⟨hok, decide_eq_true (by omega)⟩, Int.toNat_natCast]
  unfold trmR
  split
  · next h => exact ⟨fun _ => h, fun _ => rfl⟩
  · next h => exact ⟨fun h0 => absurd h0 (by decide), fun h0 => absurd h0 h⟩
theorem allK_iff {x : Cd} {hs : List Bool} (hok : okB x hs = true) : allK x hs hs.length = true ↔ ∀ i, i < hs.length → recov x hs i := by
  unfold allK rcB
  rw [List.all_eq_true]
  exact ⟨fun h i hi => (comb_zero hok hi).1 (of_decide_eq_true (h i (List.mem_range.2 hi))), fun h i hi => decide_eq_true ((comb_zero hok (List.mem_range.1 hi)).2 (h i (List.mem_range.1 hi)))⟩
theorem neq_bb (b : Bool) (w : World) : (binOp .neq 4 (.bool b) (.bool b)).run Tryd.prog w = .ok (.bool false) w := by
  cases b <;> kernel_rfl
theorem getD_sv {X : List (List UInt8)} {k : Nat} (h : k < X.length) : (X.map sv)[k]? = some (.string (str (X.getD k []))) := by
  rw [List.getElem?_map, List.getElem?_eq_getElem h]
  simp [List.getD_eq_getElem?_getD, h]
theorem dec_is {w : World} {r : List (List UInt8) × Int} {X : List (List UInt8)} {ee : Int} {fn : FuncId} {args : Array Value} (h : Calls Tryd.prog fn args w (StrRes w r)) (hr : r = (X, ee)) :
    Calls Tryd.prog fn args w fun e w' => ∃ B cb, e = .returned (.tuple #[.slice B X.length cb, .int .i64 ee]) ∧ Sl w' w'.heap.size B 1 X.length (X.map sv) ∧ Below w.heap.size w w' := by
  subst hr
  refine h.mono ?_
  rintro e w' ⟨s, rfl, ho, hb⟩
  obtain ⟨B, cb, rfl, _, _⟩ := own_form ho
  exact ⟨B, cb, rfl, Sl.of_own ho, hb⟩

set_option maxHeartbeats 4000000 in
set_option maxRecDepth 100000 in
theorem walk (a0 : Rin) (A0 D0 E0 : Option Addr) (c0 d0 e0 : Nat) (w : World) (x0 : RinIn w a0 A0 D0 E0) (T1 : Tabs w) :
    Calls Tryd.prog 6 #[a0.v A0 D0 E0 c0 d0 e0] w fun e w' => e = .returned (.bool true) ∧ Below w.heap.size w w' := by
  obtain ⟨W0, hW0⟩ : ∃ W, W = w.alloc (.cells (a0.cs A0 D0 E0 c0 d0 e0).toArray 57) := ⟨_, rfl⟩
  have hb0 : Below w.heap.size w W0 := by rw [hW0]; exact below_new w _
  have HB0 := hideIt hb0
  have hbx : Blk W0 w.heap.size 57 (a0.cs A0 D0 E0 c0 d0 e0) := by rw [hW0]; exact Blk.new w _ _
  have HCI := hideIt (x0.cin.keep hb0)
  have HT := hideIt (T1.keep hb0)
  have HXD := hideIt ((x0.dat.below hb0).wide hb0.size)
  have HXE := hideIt ((x0.hav.below hb0).wide hb0.size)
  have HWE := hideIt hW0
  have HSA := hideIt (sanity_any W0 HT.out)
  have hnot := not_b
  have HPL := hideIt hbx.lt
  have HKC := hideIt (fun (W : World) (h : Below W0.heap.size W0 W) => show W.cell? ⟨w.heap.size, 0, none⟩ = some (sv a0.code.name) ∧ W.cell? ⟨w.heap.size, 1, none⟩ = some (.int .i64 a0.code.field) ∧ W.cell? ⟨w.heap.size, 2, none⟩ = some (.int .i64 a0.code.data) ∧ W.cell? ⟨w.heap.size, 3, none⟩ = some (.slice A0 a0.code.par.length c0) ∧ W.cell? ⟨w.heap.size, 4, none⟩ = some (.int .i64 a0.code.dom) from
    ⟨(hbx.kept h hbx.lt).cell 0, (hbx.kept h hbx.lt).cell 1, (hbx.kept h hbx.lt).cell 2, (hbx.kept h hbx.lt).cell 3, (hbx.kept h hbx.lt).cell 4⟩)
  have HK5 := hideIt (fun (W : World) (h : Below W0.heap.size W0 W) => show W.cell? ⟨w.heap.size, 5, none⟩ = some (.slice D0 a0.data.length d0) from (hbx.kept h hbx.lt).cell 5)
  have HK6 := hideIt (fun (W : World) (h : Below W0.heap.size W0 W) => show W.cell? ⟨w.heap.size, 6, none⟩ = some (.slice E0 a0.hs.length e0) from (hbx.kept h hbx.lt).cell 6)
  have HK7 := hideIt (fun (W : World) (h : Below W0.heap.size W0 W) => show W.cell? ⟨w.heap.size, 7, none⟩ = some (.string (str a0.noise)) from (hbx.kept h hbx.lt).cell 7)
  have HSM := hideIt (fun (W : World) (h : Below W0.heap.size W0 W) => small_any a0.code A0 c0 W (HCI.out.keep h))
  have HFW := hideIt (fun (W : World) (h : Below W0.heap.size W0 W) => (few_any a0.data x0.b1 D0 d0 W ((HXD.out.below h).wide h.size)).mono (fun e w' (hq : _ ∧ W = w') => show e = .returned (.bool (fewB a0.data)) ∧ Below W.heap.size W w' from ⟨hq.1, hq.2 ▸ Below.refl _ _⟩))
  have HWI := hideIt (fun (W : World) (h : Below W0.heap.size W0 W) => width_any a0.code A0 c0 W (HT.out.keep h) (HCI.out.keep h))
  have hsz := str_size a0.noise
  have hq1 := i_neq 3 .i64 (a0.hs.length : Int) (wC a0.code)
  have HM1 := hideIt x0.b1
  have HM2 := hideIt x0.b2
  obtain ⟨sn, hsn⟩ : ∃ s, s = str a0.noise := ⟨_, rfl⟩
  rw [← hsn] at hsz HK7
  have HSN := hideIt hsn
  clear hW0 hb0 hbx x0 T1 hsn
  show Calls Tryd.prog _ #[.agg #[sv a0.code.name, .int .i64 a0.code.field, .int .i64 a0.code.data, .slice A0 a0.code.par.length c0, .int .i64 a0.code.dom, .slice D0 a0.data.length d0, .slice E0 a0.hs.length e0, .string (str a0.noise)]] w _
  by_cases hsm : smB a0.code = true
  · rw [hsm] at HSM
    by_cases hfa : fewB a0.data = true
    · rw [hfa] at HFW
      by_cases hle : (a0.hs.length : Int) = wC a0.code
      · rw [decide_eq_false (fun h => h hle)] at hq1
        by_cases hz64 : (a0.noise.length : Int) > 64
        · have hgt : binOp .gtr 3 (.int .i64 (a0.noise.length : Int)) (.int .i64 64) = pure (.bool true) := by rw [binOp_gtr, decide_eq_true hz64]
          clear hsm hfa hle hz64
          generalize wC a0.code = wz at *
          go_enter Tryd.func6, Tryd.ntmps6
          go_wp2_with (go_at_call 11; rw [← HWE.out]; refine HSA.out.mono ?_; rintro e w1 ⟨rfl, hb1⟩; have HB1 := hideIt hb1; clear hb1 HSA)
          refine wp_region_quiet_below (w0 := W0) (B := W0.heap.size) (by kernel_rfl) (by kernel_rfl) HB1.out ?_
          try simp only [Act.put]
          try simp only [List.setIfInBounds_toArray]
          try simp only [List.set_cons_succ]
          try simp only [List.set_cons_zero]
          go_big_quiet_step ((first | (intro _; rfl) | (intro _; exact ⟨rfl, rfl⟩)))
          go_big_quiet_want
          refine quiet_run (.agg #[sv a0.code.name, .int .i64 a0.code.field, .int .i64 a0.code.data, .slice A0 a0.code.par.length c0, .int .i64 a0.code.dom]) (fun W hW => by simp [execOp, HKC.out W hW, Result.andThen, go_sem]) ?_
          go_big_quiet_on
          try simp only [Act.put]
          try simp only [List.setIfInBounds_toArray]
          try simp only [List.set_cons_succ]
          try simp only [List.set_cons_zero]
          go_big_quiet_step ((intro hb; refine (HSM.out _ hb).mono ?_; rintro x wc ⟨rfl, hb2⟩; exact ⟨rfl, hb.trans (hb2.mono hb.size)⟩))
          go_big_quiet_step ((first | (intro _; rfl) | (intro _; exact ⟨rfl, rfl⟩)))
          go_big_quiet_step ((first | (intro _; rfl) | (intro _; exact ⟨rfl, rfl⟩)))
          go_big_quiet_step ((first | (intro _; rfl) | (intro _; exact ⟨rfl, rfl⟩)))
          go_big_quiet_want
          refine quiet_run (.slice D0 a0.data.length d0) (fun W hW => by simp [execOp, HK5.out W hW, Result.andThen, go_sem]) ?_
          go_big_quiet_on
          try simp only [Act.put]
          try simp only [List.setIfInBounds_toArray]
          try simp only [List.set_cons_succ]
          try simp only [List.set_cons_zero]
          go_big_quiet_step ((intro hb; refine (HFW.out _ hb).mono ?_; rintro x wc ⟨rfl, hb2⟩; exact ⟨rfl, hb.trans (hb2.mono hb.size)⟩))
          go_big_quiet_step ((first | (intro _; rfl) | (intro _; exact ⟨rfl, rfl⟩)))
          go_big_quiet_step ((first | (intro _; rfl) | (intro _; exact ⟨rfl, rfl⟩)))
          go_big_quiet_step ((first | (intro _; rfl) | (intro _; exact ⟨rfl, rfl⟩)))
          go_big_quiet_step ((first | (intro _; rfl) | (intro _; exact ⟨rfl, rfl⟩)))
          go_big_quiet_want
          refine quiet_run (.slice E0 a0.hs.length e0) (fun W hW => by simp [execOp, HK6.out W hW, Result.andThen, go_sem]) ?_
          go_big_quiet_on
          try simp only [Act.put]
          try simp only [List.setIfInBounds_toArray]
          try simp only [List.set_cons_succ]
          try simp only [List.set_cons_zero]
          go_big_quiet_step ((first | (intro _; rfl) | (intro _; exact ⟨rfl, rfl⟩)))
          go_big_quiet_step ((first | (intro _; rfl) | (intro _; exact ⟨rfl, rfl⟩)))
          go_big_quiet_want
          refine quiet_run (.agg #[sv a0.code.name, .int .i64 a0.code.field, .int .i64 a0.code.data, .slice A0 a0.code.par.length c0, .int .i64 a0.code.dom]) (fun W hW => by simp [execOp, HKC.out W hW, Result.andThen, go_sem]) ?_
          go_big_quiet_on
          try simp only [Act.put]
          try simp only [List.setIfInBounds_toArray]
          try simp only [List.set_cons_succ]
          try simp only [List.set_cons_zero]
          go_big_quiet_step ((intro hb; refine (HWI.out _ hb).mono ?_; rintro x wc ⟨rfl, hb2⟩; exact ⟨rfl, hb.trans (hb2.mono hb.size)⟩))
          go_big_quiet_step ((first | (intro _; rfl) | (intro _; exact ⟨rfl, rfl⟩)))
          go_big_quiet_step ((first | (intro _; rfl) | (intro _; exact ⟨rfl, rfl⟩)))
          go_big_quiet_step ((first | (intro _; rfl) | (intro _; exact ⟨rfl, rfl⟩)))
          go_big_quiet_step ((first | (intro _; rfl) | (intro _; exact ⟨rfl, rfl⟩)))
          go_big_quiet_want
          refine quiet_run (.string sn) (fun W hW => by simp [execOp, HK7.out W hW, Result.andThen, go_sem]) ?_
          go_big_quiet_on
          try simp only [Act.put]
          try simp only [List.setIfInBounds_toArray]
          try simp only [List.set_cons_succ]
          try simp only [List.set_cons_zero]
          repeat (go_big_quiet_step ((first | (intro _; rfl) | (intro _; exact ⟨rfl, rfl⟩))))
          refine wpQuiet_nil ?_
          intro w2 BC
          have HB2 := hideIt BC
          clear BC
          go_wp2_with fail
          go_ret
          exact ⟨rfl, HB0.out.trans (HB2.out.mono HB0.out.size)⟩
        · have hgt : binOp .gtr 3 (.int .i64 (a0.noise.length : Int)) (.int .i64 64) = pure (.bool false) := by rw [binOp_gtr, decide_eq_false hz64]
          have hS64 := (fewB_is hfa).2
          have h24 := (fewB_is hfa).1
          have hz : a0.noise.length ≤ 64 := by omega
          rw [← hle] at hq1 HWI
          have he0 : binOp .neq 32 (.int .i64 0) (.int .i64 0) = pure (.bool false) := by rw [i_neq]; rfl
          have he1 : binOp .neq 32 (.int .i64 1) (.int .i64 0) = pure (.bool true) := by rw [i_neq]; rfl
          have he2 : binOp .eql 32 (.int .i64 1) (.int .i64 1) = pure (.bool true) := by rw [i_eql]; rfl
          have he3 : binOp .neq 32 (.int .i64 11) (.int .i64 11) = pure (.bool false) := by rw [i_neq]; rfl
          have he4 : binOp .eql 32 (.int .i64 11) (.int .i64 11) = pure (.bool true) := by rw [i_eql]; rfl
          have he5 : binOp .eql 32 (.int .i64 0) (.int .i64 0) = pure (.bool true) := by rw [i_eql]; rfl
          have hEN0 := fun (W : World) (h : Below W0.heap.size W0 W) => encode_any a0.code A0 c0 W (HT.out.keep h) (HCI.out.keep h) a0.data (by omega) (fun u hu => Nat.le_trans (hS64 u hu) (by decide)) D0 d0 ((HXD.out.below h).wide h.size)
          have hsh := enc_short a0.code hS64
          by_cases hv : vC a0.code = true ∧ (a0.data.length : Int) = a0.code.data ∧ alk a0.code.field.toNat a0.data = true
          · obtain ⟨m, n, hvc⟩ := vC_spec hv.1
            have hn : a0.data.length = n := by have := hv.2.1; rw [hvc.d] at this; omega
            have hal : alk m a0.data = true := by have := hv.2.2; rwa [hvc.fn] at this
            have hN : a0.hs.length = n + a0.code.par.length := by
              unfold wC at hle
              rw [if_pos hv.1, hvc.d] at hle
              omega
            have hok : okB a0.code a0.hs = true := by
              unfold okB
              rw [hv.1, Bool.true_and, hvc.d]
              exact decide_eq_true (by omega)
            have hN32 : a0.hs.length ≤ 32 := by rw [hN]; exact hvc.wid
            have hrt := round_trip hvc hn hal hok hN (units := unK a0.hs (a0.data ++ a0.code.par.map (fun r => cbS a0.code.field r a0.data)) a0.noise a0.hs.length) (unK_len _ _ _ _) (fun i hi hp => by rw [unK_at _ _ _ hi, if_pos hp])
            have henc : encR a0.code a0.data = (a0.data ++ a0.code.par.map (fun r => cbS a0.code.field r a0.data), 0) := by unfold encR; rw [if_pos hv]
            rw [henc] at hsh
            have hSN : (a0.data ++ a0.code.par.map (fun r => cbS a0.code.field r a0.data)).length = a0.hs.length := by rw [List.length_append, List.length_map]; omega
            dsimp only at hsh
            obtain ⟨S, hS⟩ : ∃ S, S = a0.data ++ a0.code.par.map (fun r => cbS a0.code.field r a0.data) := ⟨_, rfl⟩
            rw [← hS] at hrt henc hsh hSN
            clear hS
            have HEN := hideIt (fun (W : World) (h : Below W0.heap.size W0 W) => by
              have := dec_is (hEN0 W h) henc
              rwa [hSN] at this)
            obtain ⟨R1, R2, R3, R4, R5⟩ := hrt
            have hAI := allK_iff hok
            have HR1 := hideIt (fun i (hi : i < a0.hs.length) (h : rcB a0.code a0.hs i = true) => R1 i hi ((comb_zero hok hi).1 (of_decide_eq_true h)))
            have HR2 := hideIt (fun i (hi : i < a0.hs.length) (h : rcB a0.code a0.hs i = false) => R2 i hi (fun hr => by
              have := decide_eq_true ((comb_zero hok hi).2 hr)
              exact absurd (this.symm.trans h) (by decide)))
            have HAT := hideIt (fun h : allK a0.code a0.hs a0.hs.length = true => And.intro (R3.1 (hAI.1 h)) (R4 (R3.1 (hAI.1 h))))
            have HAF := hideIt (fun h : allK a0.code a0.hs a0.hs.length = false => show ¬ (basL a0.code a0.hs).length = nC a0.code ∧ decR a0.code (unK a0.hs S a0.noise a0.hs.length) a0.hs = ([], 11) from
              have hne : ¬ (basL a0.code a0.hs).length = nC a0.code := fun hf => by rw [hAI.2 (R3.2 hf)] at h; cases h
              ⟨hne, R5 hne⟩)
            have HUB := hideIt (show ∀ u ∈ unK a0.hs S a0.noise a0.hs.length, u.length ≤ 100000 by
              intro u hu
              unfold unK at hu
              obtain ⟨i, hi, rfl⟩ := List.mem_map.1 hu
              split
              · have hi2 := List.mem_range.1 hi
                rw [show S.getD i [] = S[i]'(by omega) by simp [List.getD_eq_getElem?_getD, show i < S.length by omega]]
                exact Nat.le_trans (hsh _ (List.getElem_mem _)) (by decide)
              · omega)
            have HRC := hideIt (fun (W : World) (h : Below W0.heap.size W0 W) (i : Nat) => show Calls Tryd.prog 29 #[a0.code.v A0 c0, .slice E0 a0.hs.length e0, .int .i64 (i : Int)] W (fun e w' => e = .returned (.bool (rcB a0.code a0.hs i)) ∧ Below W.heap.size W w') from recoverable_any a0.code A0 c0 W (HT.out.keep h) (HCI.out.keep h) a0.hs E0 e0 (by omega) ((HXE.out.below h).wide h.size) i)
            have HRV := hideIt (fun (W : World) (h : Below W0.heap.size W0 W) A c (hU : Sl W W.heap.size A 1 a0.hs.length ((unK a0.hs S a0.noise a0.hs.length).map sv)) (i : Nat) => by
              have := recover_any a0.code A0 c0 W (HT.out.keep h) (HCI.out.keep h) (unK a0.hs S a0.noise a0.hs.length) HUB.out A c (by rw [unK_len]; exact hU) a0.hs E0 e0 (by omega) ((HXE.out.below h).wide h.size) (i : Int)
              rwa [unK_len] at this)
            have HDC := hideIt (fun r ee (hr : decR a0.code (unK a0.hs S a0.noise a0.hs.length) a0.hs = (r, ee)) (W : World) (h : Below W0.heap.size W0 W) A c (hU : Sl W W.heap.size A 1 a0.hs.length ((unK a0.hs S a0.noise a0.hs.length).map sv)) => by
              have := decode_any a0.code A0 c0 W (HT.out.keep h) (HCI.out.keep h) (unK a0.hs S a0.noise a0.hs.length) HUB.out A c (by rw [unK_len]; exact hU) a0.hs E0 e0 (by omega) ((HXE.out.below h).wide h.size)
              rw [unK_len] at this
              exact dec_is this hr)
            have HDB := hideIt (fun (W : World) (h : Below W0.heap.size W0 W) => by
              have := decodable_any a0.code A0 c0 W (HT.out.keep h) (HCI.out.keep h) a0.hs E0 e0 (by omega) ((HXE.out.below h).wide h.size)
              rwa [hok, Bool.true_and] at this)
            have HST := hideIt (fun (W : World) (A B : Option Addr) c d (h1 : Sl W W.heap.size A 1 a0.hs.length (S.map sv)) (h2 : Sl W W.heap.size B 1 a0.hs.length (S.map sv)) => by
              have := sameTexts_any S S A B c d W (by rw [hSN]; exact h1) (by rw [hSN]; exact h2) (by omega)
              rw [decide_eq_true rfl, hSN] at this
              exact this)
            have HSN2 := hideIt hSN
            have HGS := hideIt (fun k (h : k < a0.hs.length) => getD_sv (X := S) (k := k) (by rw [hSN]; exact h))
            have hnbt := neq_bb true
            have hnbf := neq_bb false
            have hee : binOp .eql 3 (.int .i64 ((0 : Nat) : Int)) (.int .i64 0) = pure (.bool true) := by rw [i_eql]; rfl
            clear hsm hfa hv hvc hn hal hN hok henc hEN0 R1 R2 R3 R4 R5 hAI hle hS64 h24 hz hz64 hsh hSN
            go_enter Tryd.func6, Tryd.ntmps6
            go_wp2_with (go_at_call 11; rw [← HWE.out]; refine HSA.out.mono ?_; rintro e w1 ⟨rfl, hb1⟩; have HB1 := hideIt hb1; clear hb1 HSA)
            refine wp_region_quiet_below (w0 := W0) (B := W0.heap.size) (by kernel_rfl) (by kernel_rfl) HB1.out ?_
            try simp only [Act.put]
            try simp only [List.setIfInBounds_toArray]
            try simp only [List.set_cons_succ]
            try simp only [List.set_cons_zero]
            go_big_quiet_step ((first | (intro _; rfl) | (intro _; exact ⟨rfl, rfl⟩)))
            go_big_quiet_want
            refine quiet_run (.agg #[sv a0.code.name, .int .i64 a0.code.field, .int .i64 a0.code.data, .slice A0 a0.code.par.length c0, .int .i64 a0.code.dom]) (fun W hW => by simp [execOp, HKC.out W hW, Result.andThen, go_sem]) ?_
            go_big_quiet_on
            try simp only [Act.put]
            try simp only [List.setIfInBounds_toArray]
            try simp only [List.set_cons_succ]
            try simp only [List.set_cons_zero]
            go_big_quiet_step ((intro hb; refine (HSM.out _ hb).mono ?_; rintro x wc ⟨rfl, hb2⟩; exact ⟨rfl, hb.trans (hb2.mono hb.size)⟩))
            go_big_quiet_step ((first | (intro _; rfl) | (intro _; exact ⟨rfl, rfl⟩)))
            go_big_quiet_step ((first | (intro _; rfl) | (intro _; exact ⟨rfl, rfl⟩)))
            go_big_quiet_step ((first | (intro _; rfl) | (intro _; exact ⟨rfl, rfl⟩)))
            go_big_quiet_want
            refine quiet_run (.slice D0 a0.data.length d0) (fun W hW => by simp [execOp, HK5.out W hW, Result.andThen, go_sem]) ?_
            go_big_quiet_on
            try simp only [Act.put]
            try simp only [List.setIfInBounds_toArray]
            try simp only [List.set_cons_succ]
            try simp only [List.set_cons_zero]
            go_big_quiet_step ((intro hb; refine (HFW.out _ hb).mono ?_; rintro x wc ⟨rfl, hb2⟩; exact ⟨rfl, hb.trans (hb2.mono hb.size)⟩))
            go_big_quiet_step ((first | (intro _; rfl) | (intro _; exact ⟨rfl, rfl⟩)))
            go_big_quiet_step ((first | (intro _; rfl) | (intro _; exact ⟨rfl, rfl⟩)))
            go_big_quiet_step ((first | (intro _; rfl) | (intro _; exact ⟨rfl, rfl⟩)))
            go_big_quiet_step ((first | (intro _; rfl) | (intro _; exact ⟨rfl, rfl⟩)))
            go_big_quiet_want
            refine quiet_run (.slice E0 a0.hs.length e0) (fun W hW => by simp [execOp, HK6.out W hW, Result.andThen, go_sem]) ?_
            go_big_quiet_on
            try simp only [Act.put]
            try simp only [List.setIfInBounds_toArray]
            try simp only [List.set_cons_succ]
            try simp only [List.set_cons_zero]
            go_big_quiet_step ((first | (intro _; rfl) | (intro _; exact ⟨rfl, rfl⟩)))
            go_big_quiet_step ((first | (intro _; rfl) | (intro _; exact ⟨rfl, rfl⟩)))
            go_big_quiet_want
            refine quiet_run (.agg #[sv a0.code.name, .int .i64 a0.code.field, .int .i64 a0.code.data, .slice A0 a0.code.par.length c0, .int .i64 a0.code.dom]) (fun W hW => by simp [execOp, HKC.out W hW, Result.andThen, go_sem]) ?_
            go_big_quiet_on
            try simp only [Act.put]
            try simp only [List.setIfInBounds_toArray]
            try simp only [List.set_cons_succ]
            try simp only [List.set_cons_zero]
            go_big_quiet_step ((intro hb; refine (HWI.out _ hb).mono ?_; rintro x wc ⟨rfl, hb2⟩; exact ⟨rfl, hb.trans (hb2.mono hb.size)⟩))
            go_big_quiet_step ((first | (intro _; rfl) | (intro _; exact ⟨rfl, rfl⟩)))
            go_big_quiet_step ((first | (intro _; rfl) | (intro _; exact ⟨rfl, rfl⟩)))
            go_big_quiet_step ((first | (intro _; rfl) | (intro _; exact ⟨rfl, rfl⟩)))
            go_big_quiet_step ((first | (intro _; rfl) | (intro _; exact ⟨rfl, rfl⟩)))
            go_big_quiet_want
            refine quiet_run (.string sn) (fun W hW => by simp [execOp, HK7.out W hW, Result.andThen, go_sem]) ?_
            go_big_quiet_on
            try simp only [Act.put]
            try simp only [List.setIfInBounds_toArray]
            try simp only [List.set_cons_succ]
            try simp only [List.set_cons_zero]
            repeat (go_big_quiet_step ((first | (intro _; rfl) | (intro _; exact ⟨rfl, rfl⟩))))
            refine wpQuiet_nil ?_
            intro w2 BC
            have HB2 := hideIt BC
            clear BC
            obtain ⟨q0, q1, q2, q3, q4⟩ := HKC.out _ HB2.out; have q5 := HK5.out _ HB2.out; have q6 := HK6.out _ HB2.out; have q7 := HK7.out _ HB2.out
            clear hq1 hgt hsz
            go_wp2_with (first
              | (go_at_call 16; refine (HEN.out _ HB2.out).mono ?_; rintro e w3 ⟨B3, b3, rfl, hs3, hb3⟩; have HB3 := hideIt (HB2.out.trans (hb3.mono HB2.out.size)); have HS3 := hideIt hs3; clear hs3 hb3 HEN))
            clear q0 q1 q2 q3 q4 q5 q6 q7
            go_loopg [6, 7, 8] a0.hs.length (fun gk s6 s7 s8 wr => ∃ k : Nat, k + gk = a0.hs.length ∧ s7 = .int .i64 (k : Int) ∧ Aside (Below w3.heap.size w3 wr) ∧ Aside (wr.ownsRow w3.heap.size 9 1 s6 k ((unK a0.hs S a0.noise k).map sv)))
            case atStart => exact ⟨0, by omega, rfl, Below.refl _ _, World.ownsRow_nil _ _ _ _⟩
            case round =>
              obtain ⟨k, hk, rfl, HLW, HO⟩ := hrel
              obtain ⟨w4, rfl⟩ : ∃ x, x = wr := ⟨wr, rfl⟩
              obtain ⟨A6, c6, e6, _, _⟩ := own_form HO.out
              subst e6
              have HB4 := hideIt (HB3.out.trans (HLW.out.mono HB3.out.size))
              by_cases hlt : k < a0.hs.length
              · obtain ⟨bE, oE, vE, hE, hbE, hvE, hcE⟩ := (HXE.out.below HB4.out).at_ hlt
                rw [List.getElem?_map, List.getElem?_eq_getElem hlt] at hvE
                injection hvE with hvE
                obtain ⟨bS, oS, vS, hS, hbS, hvS, hcS⟩ := (HS3.out.below HLW.out).at_ hlt
                rw [HGS.out k hlt] at hvS
                injection hvS with hvS
                have HNX := hideIt (unK_next a0.hs S a0.noise k)
                have hgh : a0.hs.getD k false = a0.hs[k] := by simp [List.getD_eq_getElem?_getD, hlt]
                rw [hgh] at HNX
                subst hE hS hvE hvS
                obtain ⟨q0, q1, q2, q3, q4⟩ := HKC.out _ HB4.out; have q5 := HK5.out _ HB4.out; have q6 := HK6.out _ HB4.out; have q7 := HK7.out _ HB4.out
                have hinc := inc_c 3 k (by omega)
                have hki : (k : Int) < (a0.hs.length : Int) := by omega
                change w4.cell? ⟨bE, oE + k, none⟩ = some (.bool a0.hs[k]) at hcE
                generalize S.getD k [] = sk at *
                generalize a0.hs[k] = bk at *
                clear hbE hbS hgh
                cases bk with
                | true =>
                  rw [if_pos rfl] at HNX
                  go_wp2_with (first
                    | ((with_reducible refine at_append ?_); refine wpList_apS (u := sk) (n := k) rfl (.tmp 75) (.tmp 77) rfl rfl HO.out rfl (by omega) HLW.out.size ?_; intro v5 w5 HO5 HG5 HA5 HB5))
                  go_roundg (gk - 1)
                  case measure => omega
                  case rel => exact ⟨k + 1, by omega, by go_num, HLW.out.trans HB5.out, by rw [HNX.out]; exact HO5.out⟩
                | false =>
                  rw [if_neg (by decide)] at HNX
                  rw [HSN.out] at q7
                  go_wp2_with (first
                    | ((with_reducible refine at_append ?_); refine wpList_apS (u := a0.noise) (n := k) rfl (.tmp 75) (.tmp 77) rfl rfl HO.out rfl (by omega) HLW.out.size ?_; intro v5 w5 HO5 HG5 HA5 HB5))
                  go_roundg (gk - 1)
                  case measure => omega
                  case rel => exact ⟨k + 1, by omega, by go_num, HLW.out.trans HB5.out, by rw [HNX.out]; exact HO5.out⟩
              · have hki : ¬ (k : Int) < (a0.hs.length : Int) := by omega
                have hke : k = a0.hs.length := by omega
                rw [hke] at HO
                rw [hke] at hki ⊢
                have HSU := hideIt (Sl.of_own HO.out)
                have HS4 := hideIt ((HS3.out.below HLW.out).wide HLW.out.size)
                clear HO hke
                go_wp2_with fail
                go_loopg [2, 9, 10, 11, 12, 13] a0.hs.length (fun gk s2 s9 s10 s11 s12 s13 wr => ∃ i : Nat, i + gk = a0.hs.length ∧ s2 = .bool false ∧ s9 = .bool (allK a0.code a0.hs i) ∧ s10 = .int .i64 (i : Int) ∧ Aside (Below w4.heap.size w4 wr))
                case atStart => exact ⟨0, by omega, rfl, rfl, rfl, Below.refl _ _⟩
                case round =>
                  obtain ⟨i, hi, rfl, rfl, rfl, HL5⟩ := hrel
                  obtain ⟨w5, rfl⟩ : ∃ x, x = wr := ⟨wr, rfl⟩
                  have HB5 := hideIt (HB4.out.trans (HL5.out.mono HB4.out.size))
                  obtain ⟨q0, q1, q2, q3, q4⟩ := HKC.out _ HB5.out; have q5 := HK5.out _ HB5.out; have q6 := HK6.out _ HB5.out; have q7 := HK7.out _ HB5.out
                  by_cases hlt2 : i < a0.hs.length
                  · obtain ⟨bE, oE, vE, hE, hbE, hvE, hcE⟩ := HXE.out.at_ hlt2
                    rw [List.getElem?_map, List.getElem?_eq_getElem hlt2] at hvE
                    injection hvE with hvE
                    obtain ⟨bS, oS, vS, hS, hbS, hvS, hcS⟩ := HS4.out.at_ hlt2
                    rw [HGS.out i hlt2] at hvS
                    injection hvS with hvS
                    have HNA := hideIt (allK_next a0.code a0.hs i)
                    have hgh : a0.hs.getD i false = a0.hs[i] := by simp [List.getD_eq_getElem?_getD, hlt2]
                    subst hE hS hvE hvS
                    have hinc := inc_c 3 i (by omega)
                    have hii : (i : Int) < (a0.hs.length : Int) := by omega
                    change W0.cell? ⟨bE, oE + i, none⟩ = some (.bool a0.hs[i]) at hcE
                    have hA := HRC.out _ HB5.out i
                    have hns : binOp .neq 9 (.string (str (S.getD i []))) (.string (str (S.getD i []))) = pure (.bool false) := by rw [s_neq, decide_eq_false (fun h => h rfl)]
                    have HBS := hideIt hbS
                    have HBE := hideIt hbE
                    cases hrc : rcB a0.code a0.hs i with
                    | true =>
                      have hr1 := HR1.out i hlt2 hrc
                      have HVI := hideIt (fun (W : World) (h : Below W0.heap.size W0 W) hU => by
                        have := HRV.out W h A6 c6 hU i
                        rw [hr1] at this
                        exact this)
                      rw [hrc] at hA HNA
                      have HA := hideIt hA
                      have HCS := hideIt hcS
                      have HCE := hideIt hcE
                      clear hA hcS hcE hbS hbE hgh hrc hr1
                      generalize allK a0.code a0.hs i = av at *
                      generalize S.getD i [] = si at *
                      generalize a0.hs[i] = bi at *
                      clear hlt2
                      cases av with
                      | true =>
                      go_wp2_with (first
                        | (go_at_call 29; refine HA.out.mono ?_; rintro e w6 ⟨rfl, hb6⟩; have HB6 := hideIt (HB5.out.trans (hb6.mono HB5.out.size)); have HL6 := hideIt (HL5.out.trans (hb6.mono HL5.out.size)); clear q0 q1 q2 q3 q4 q5 q6 q7; obtain ⟨q0, q1, q2, q3, q4⟩ := HKC.out _ HB6.out; have q5 := HK5.out _ HB6.out; have q6 := HK6.out _ HB6.out; have q7 := HK7.out _ HB6.out; clear hb6 HA)
                        | (go_at_call 33; refine (HVI.out _ HB6.out ((HSU.out.below HL6.out).wide HL6.out.size)).mono ?_; rintro e w7 ⟨rfl, hb7⟩; have HB7 := hideIt (HB6.out.trans (hb7.mono HB6.out.size)); have HL7 := hideIt (HL6.out.trans (hb7.mono HL6.out.size)); clear q0 q1 q2 q3 q4 q5 q6 q7; obtain ⟨q0, q1, q2, q3, q4⟩ := HKC.out _ HB7.out; have q5 := HK5.out _ HB7.out; have q6 := HK6.out _ HB7.out; have q7 := HK7.out _ HB7.out; have ccS := (HL7.out.cell (p := ⟨bS, oS + i, none⟩) HBS.out).trans HCS.out; have ccE := (HB7.out.cell (p := ⟨bE, oE + i, none⟩) HBE.out).trans HCE.out; clear hb7 HVI))
                      go_roundg (gk - 1)
                      case measure => omega
                      case rel => exact ⟨i + 1, by omega, rfl, by rw [HNA.out]; rfl, by go_num, HL7.out⟩
                      | false =>
                      go_wp2_with (first
                        | (go_at_call 29; refine HA.out.mono ?_; rintro e w6 ⟨rfl, hb6⟩; have HB6 := hideIt (HB5.out.trans (hb6.mono HB5.out.size)); have HL6 := hideIt (HL5.out.trans (hb6.mono HL5.out.size)); clear q0 q1 q2 q3 q4 q5 q6 q7; obtain ⟨q0, q1, q2, q3, q4⟩ := HKC.out _ HB6.out; have q5 := HK5.out _ HB6.out; have q6 := HK6.out _ HB6.out; have q7 := HK7.out _ HB6.out; clear hb6 HA)
                        | (go_at_call 33; refine (HVI.out _ HB6.out ((HSU.out.below HL6.out).wide HL6.out.size)).mono ?_; rintro e w7 ⟨rfl, hb7⟩; have HB7 := hideIt (HB6.out.trans (hb7.mono HB6.out.size)); have HL7 := hideIt (HL6.out.trans (hb7.mono HL6.out.size)); clear q0 q1 q2 q3 q4 q5 q6 q7; obtain ⟨q0, q1, q2, q3, q4⟩ := HKC.out _ HB7.out; have q5 := HK5.out _ HB7.out; have q6 := HK6.out _ HB7.out; have q7 := HK7.out _ HB7.out; have ccS := (HL7.out.cell (p := ⟨bS, oS + i, none⟩) HBS.out).trans HCS.out; have ccE := (HB7.out.cell (p := ⟨bE, oE + i, none⟩) HBE.out).trans HCE.out; clear hb7 HVI))
                      go_roundg (gk - 1)
                      case measure => omega
                      case rel => exact ⟨i + 1, by omega, rfl, by rw [HNA.out]; rfl, by go_num, HL7.out⟩
                    | false =>
                      obtain ⟨hr1, hr2⟩ := HR2.out i hlt2 hrc
                      rw [← hgh, hr2] at hcE
                      obtain ⟨rr, hrr⟩ : ∃ r, r = (recR a0.code (unK a0.hs S a0.noise a0.hs.length) a0.hs (i : Int)).1 := ⟨_, rfl⟩
                      have HVI := hideIt (fun (W : World) (h : Below W0.heap.size W0 W) hU => by
                        have := HRV.out W h A6 c6 hU i
                        rw [hr1, ← hrr] at this
                        exact this)
                      rw [hrc] at hA HNA
                      have HA := hideIt hA
                      have HCS := hideIt hcS
                      have HCE := hideIt hcE
                      clear hA hcS hcE hbS hbE hgh hrc hr1 hr2 hrr hlt2
                      generalize allK a0.code a0.hs i = av at *
                      generalize S.getD i [] = si at *
                      cases av with
                      | true =>
                      go_wp2_with (first
                        | (go_at_call 29; refine HA.out.mono ?_; rintro e w6 ⟨rfl, hb6⟩; have HB6 := hideIt (HB5.out.trans (hb6.mono HB5.out.size)); have HL6 := hideIt (HL5.out.trans (hb6.mono HL5.out.size)); clear q0 q1 q2 q3 q4 q5 q6 q7; obtain ⟨q0, q1, q2, q3, q4⟩ := HKC.out _ HB6.out; have q5 := HK5.out _ HB6.out; have q6 := HK6.out _ HB6.out; have q7 := HK7.out _ HB6.out; clear hb6 HA)
                        | (go_at_call 33; refine (HVI.out _ HB6.out ((HSU.out.below HL6.out).wide HL6.out.size)).mono ?_; rintro e w7 ⟨rfl, hb7⟩; have HB7 := hideIt (HB6.out.trans (hb7.mono HB6.out.size)); have HL7 := hideIt (HL6.out.trans (hb7.mono HL6.out.size)); clear q0 q1 q2 q3 q4 q5 q6 q7; obtain ⟨q0, q1, q2, q3, q4⟩ := HKC.out _ HB7.out; have q5 := HK5.out _ HB7.out; have q6 := HK6.out _ HB7.out; have q7 := HK7.out _ HB7.out; have ccS := (HL7.out.cell (p := ⟨bS, oS + i, none⟩) HBS.out).trans HCS.out; have ccE := (HB7.out.cell (p := ⟨bE, oE + i, none⟩) HBE.out).trans HCE.out; clear hb7 HVI))
                      go_roundg (gk - 1)
                      case measure => omega
                      case rel => exact ⟨i + 1, by omega, rfl, by rw [HNA.out]; rfl, by go_num, HL7.out⟩
                      | false =>
                      go_wp2_with (first
                        | (go_at_call 29; refine HA.out.mono ?_; rintro e w6 ⟨rfl, hb6⟩; have HB6 := hideIt (HB5.out.trans (hb6.mono HB5.out.size)); have HL6 := hideIt (HL5.out.trans (hb6.mono HL5.out.size)); clear q0 q1 q2 q3 q4 q5 q6 q7; obtain ⟨q0, q1, q2, q3, q4⟩ := HKC.out _ HB6.out; have q5 := HK5.out _ HB6.out; have q6 := HK6.out _ HB6.out; have q7 := HK7.out _ HB6.out; clear hb6 HA)
                        | (go_at_call 33; refine (HVI.out _ HB6.out ((HSU.out.below HL6.out).wide HL6.out.size)).mono ?_; rintro e w7 ⟨rfl, hb7⟩; have HB7 := hideIt (HB6.out.trans (hb7.mono HB6.out.size)); have HL7 := hideIt (HL6.out.trans (hb7.mono HL6.out.size)); clear q0 q1 q2 q3 q4 q5 q6 q7; obtain ⟨q0, q1, q2, q3, q4⟩ := HKC.out _ HB7.out; have q5 := HK5.out _ HB7.out; have q6 := HK6.out _ HB7.out; have q7 := HK7.out _ HB7.out; have ccS := (HL7.out.cell (p := ⟨bS, oS + i, none⟩) HBS.out).trans HCS.out; have ccE := (HB7.out.cell (p := ⟨bE, oE + i, none⟩) HBE.out).trans HCE.out; clear hb7 HVI))
                      go_roundg (gk - 1)
                      case measure => omega
                      case rel => exact ⟨i + 1, by omega, rfl, by rw [HNA.out]; rfl, by go_num, HL7.out⟩
                  · have hii : ¬ (i : Int) < (a0.hs.length : Int) := by omega
                    have hie : i = a0.hs.length := by omega
                    have HSU5 := hideIt ((HSU.out.below HL5.out).wide HL5.out.size)
                    have HS5 := hideIt ((HS4.out.below HL5.out).wide HL5.out.size)
                    rw [hie]
                    cases hav : allK a0.code a0.hs a0.hs.length with
                    | true =>
                      obtain ⟨hf, hd⟩ := HAT.out hav
                      have HDCI := hideIt (by have := HDC.out S 0 hd; rw [HSN2.out] at this; exact this)
                      have HDBI := HDB
                      rw [decide_eq_true hf] at HDBI
                      clear hav hf hd hie HDB HDC
                      go_wp2_with (first
                        | (go_at_call 35; refine (HDCI.out _ HB5.out _ _ HSU5.out).mono ?_; rintro e w6 ⟨B7, b7, rfl, hs6, hb6⟩; have HB6 := hideIt (HB5.out.trans (hb6.mono HB5.out.size)); have HD6 := hideIt hs6; have HS6 := hideIt ((HS5.out.below hb6).wide hb6.size); clear q0 q1 q2 q3 q4 q5 q6 q7; obtain ⟨q0, q1, q2, q3, q4⟩ := HKC.out _ HB6.out; have q5 := HK5.out _ HB6.out; have q6 := HK6.out _ HB6.out; have q7 := HK7.out _ HB6.out; clear hs6 hb6 HDCI)
                        | (go_at_call 31; refine (HDBI.out _ HB6.out).mono ?_; rintro e w7 ⟨rfl, hb7⟩; have HB7 := hideIt (HB6.out.trans (hb7.mono HB6.out.size)); have HD7 := hideIt ((HD6.out.below hb7).wide hb7.size); have HS7 := hideIt ((HS6.out.below hb7).wide hb7.size); clear hb7 HDBI)
                        | (go_at_call 23; refine (HST.out _ _ _ _ _ HD7.out HS7.out).mono ?_; rintro e w8 ⟨rfl, nq, rfl⟩; clear HST))
                      go_ret
                      exact ⟨rfl, HB0.out.trans ((below_drewN HB7.out nq).mono HB0.out.size)⟩
                    | false =>
                      obtain ⟨hf, hd⟩ := HAF.out hav
                      have HDCI := hideIt (HDC.out [] 11 hd)
                      have HDBI := HDB
                      rw [decide_eq_false hf] at HDBI
                      clear hav hf hd hie HDB HDC
                      go_wp2_with (first
                        | (go_at_call 35; refine (HDCI.out _ HB5.out _ _ HSU5.out).mono ?_; rintro e w6 ⟨B7, b7, rfl, hs6, hb6⟩; have HB6 := hideIt (HB5.out.trans (hb6.mono HB5.out.size)); clear q0 q1 q2 q3 q4 q5 q6 q7; obtain ⟨q0, q1, q2, q3, q4⟩ := HKC.out _ HB6.out; have q5 := HK5.out _ HB6.out; have q6 := HK6.out _ HB6.out; have q7 := HK7.out _ HB6.out; clear hs6 hb6 HDCI)
                        | (go_at_call 31; refine (HDBI.out _ HB6.out).mono ?_; rintro e w7 ⟨rfl, hb7⟩; have HB7 := hideIt (HB6.out.trans (hb7.mono HB6.out.size)); clear hb7 HDBI))
                      go_ret
                      exact ⟨rfl, HB0.out.trans (HB7.out.mono HB0.out.size)⟩
          · have henc : encR a0.code a0.data = ([], 1) := by unfold encR; rw [if_neg hv]
            have HEN := hideIt (fun (W : World) (h : Below W0.heap.size W0 W) => dec_is (hEN0 W h) henc)
            clear hsm hfa hv henc hEN0 hsh hS64 h24 hz hle hz64
            go_enter Tryd.func6, Tryd.ntmps6
            go_wp2_with (go_at_call 11; rw [← HWE.out]; refine HSA.out.mono ?_; rintro e w1 ⟨rfl, hb1⟩; have HB1 := hideIt hb1; clear hb1 HSA)
            refine wp_region_quiet_below (w0 := W0) (B := W0.heap.size) (by kernel_rfl) (by kernel_rfl) HB1.out ?_
            try simp only [Act.put]
            try simp only [List.setIfInBounds_toArray]
            try simp only [List.set_cons_succ]
            try simp only [List.set_cons_zero]
            go_big_quiet_step ((first | (intro _; rfl) | (intro _; exact ⟨rfl, rfl⟩)))
            go_big_quiet_want
            refine quiet_run (.agg #[sv a0.code.name, .int .i64 a0.code.field, .int .i64 a0.code.data, .slice A0 a0.code.par.length c0, .int .i64 a0.code.dom]) (fun W hW => by simp [execOp, HKC.out W hW, Result.andThen, go_sem]) ?_
            go_big_quiet_on
            try simp only [Act.put]
            try simp only [List.setIfInBounds_toArray]
            try simp only [List.set_cons_succ]
            try simp only [List.set_cons_zero]
            go_big_quiet_step ((intro hb; refine (HSM.out _ hb).mono ?_; rintro x wc ⟨rfl, hb2⟩; exact ⟨rfl, hb.trans (hb2.mono hb.size)⟩))
            go_big_quiet_step ((first | (intro _; rfl) | (intro _; exact ⟨rfl, rfl⟩)))
            go_big_quiet_step ((first | (intro _; rfl) | (intro _; exact ⟨rfl, rfl⟩)))
            go_big_quiet_step ((first | (intro _; rfl) | (intro _; exact ⟨rfl, rfl⟩)))
            go_big_quiet_want
            refine quiet_run (.slice D0 a0.data.length d0) (fun W hW => by simp [execOp, HK5.out W hW, Result.andThen, go_sem]) ?_
            go_big_quiet_on
            try simp only [Act.put]
            try simp only [List.setIfInBounds_toArray]
            try simp only [List.set_cons_succ]
            try simp only [List.set_cons_zero]
            go_big_quiet_step ((intro hb; refine (HFW.out _ hb).mono ?_; rintro x wc ⟨rfl, hb2⟩; exact ⟨rfl, hb.trans (hb2.mono hb.size)⟩))
            go_big_quiet_step ((first | (intro _; rfl) | (intro _; exact ⟨rfl, rfl⟩)))
            go_big_quiet_step ((first | (intro _; rfl) | (intro _; exact ⟨rfl, rfl⟩)))
            go_big_quiet_step ((first | (intro _; rfl) | (intro _; exact ⟨rfl, rfl⟩)))
            go_big_quiet_step ((first | (intro _; rfl) | (intro _; exact ⟨rfl, rfl⟩)))
            go_big_quiet_want
            refine quiet_run (.slice E0 a0.hs.length e0) (fun W hW => by simp [execOp, HK6.out W hW, Result.andThen, go_sem]) ?_
            go_big_quiet_on
            try simp only [Act.put]
            try simp only [List.setIfInBounds_toArray]
            try simp only [List.set_cons_succ]
            try simp only [List.set_cons_zero]
            go_big_quiet_step ((first | (intro _; rfl) | (intro _; exact ⟨rfl, rfl⟩)))
            go_big_quiet_step ((first | (intro _; rfl) | (intro _; exact ⟨rfl, rfl⟩)))
            go_big_quiet_want
            refine quiet_run (.agg #[sv a0.code.name, .int .i64 a0.code.field, .int .i64 a0.code.data, .slice A0 a0.code.par.length c0, .int .i64 a0.code.dom]) (fun W hW => by simp [execOp, HKC.out W hW, Result.andThen, go_sem]) ?_
            go_big_quiet_on
            try simp only [Act.put]
            try simp only [List.setIfInBounds_toArray]
            try simp only [List.set_cons_succ]
            try simp only [List.set_cons_zero]
            go_big_quiet_step ((intro hb; refine (HWI.out _ hb).mono ?_; rintro x wc ⟨rfl, hb2⟩; exact ⟨rfl, hb.trans (hb2.mono hb.size)⟩))
            go_big_quiet_step ((first | (intro _; rfl) | (intro _; exact ⟨rfl, rfl⟩)))
            go_big_quiet_step ((first | (intro _; rfl) | (intro _; exact ⟨rfl, rfl⟩)))
            go_big_quiet_step ((first | (intro _; rfl) | (intro _; exact ⟨rfl, rfl⟩)))
            go_big_quiet_step ((first | (intro _; rfl) | (intro _; exact ⟨rfl, rfl⟩)))
            go_big_quiet_want
            refine quiet_run (.string sn) (fun W hW => by simp [execOp, HK7.out W hW, Result.andThen, go_sem]) ?_
            go_big_quiet_on
            try simp only [Act.put]
            try simp only [List.setIfInBounds_toArray]
            try simp only [List.set_cons_succ]
            try simp only [List.set_cons_zero]
            repeat (go_big_quiet_step ((first | (intro _; rfl) | (intro _; exact ⟨rfl, rfl⟩))))
            refine wpQuiet_nil ?_
            intro w2 BC
            have HB2 := hideIt BC
            clear BC
            obtain ⟨q0, q1, q2, q3, q4⟩ := HKC.out _ HB2.out; have q5 := HK5.out _ HB2.out; have q6 := HK6.out _ HB2.out; have q7 := HK7.out _ HB2.out
            go_wp2_with (first
              | (go_at_call 16; refine (HEN.out _ HB2.out).mono ?_; rintro e w3 ⟨B3, b3, rfl, hs3, hb3⟩; have HB3 := hideIt (HB2.out.trans (hb3.mono HB2.out.size)); clear hs3 hb3 HEN))
            go_ret
            exact ⟨rfl, HB0.out.trans (HB3.out.mono HB0.out.size)⟩
      · rw [decide_eq_true (show (a0.hs.length : Int) ≠ wC a0.code from hle)] at hq1
        clear hsm hfa hle
        generalize wC a0.code = wz at *
        go_enter Tryd.func6, Tryd.ntmps6
        go_wp2_with (go_at_call 11; rw [← HWE.out]; refine HSA.out.mono ?_; rintro e w1 ⟨rfl, hb1⟩; have HB1 := hideIt hb1; clear hb1 HSA)
        refine wp_region_quiet_below (w0 := W0) (B := W0.heap.size) (by kernel_rfl) (by kernel_rfl) HB1.out ?_
        try simp only [Act.put]
        try simp only [List.setIfInBounds_toArray]
        try simp only [List.set_cons_succ]
        try simp only [List.set_cons_zero]
        go_big_quiet_step ((first | (intro _; rfl) | (intro _; exact ⟨rfl, rfl⟩)))
        go_big_quiet_want
        refine quiet_run (.agg #[sv a0.code.name, .int .i64 a0.code.field, .int .i64 a0.code.data, .slice A0 a0.code.par.length c0, .int .i64 a0.code.dom]) (fun W hW => by simp [execOp, HKC.out W hW, Result.andThen, go_sem]) ?_
        go_big_quiet_on
        try simp only [Act.put]
        try simp only [List.setIfInBounds_toArray]
        try simp only [List.set_cons_succ]
        try simp only [List.set_cons_zero]
        go_big_quiet_step ((intro hb; refine (HSM.out _ hb).mono ?_; rintro x wc ⟨rfl, hb2⟩; exact ⟨rfl, hb.trans (hb2.mono hb.size)⟩))
        go_big_quiet_step ((first | (intro _; rfl) | (intro _; exact ⟨rfl, rfl⟩)))
        go_big_quiet_step ((first | (intro _; rfl) | (intro _; exact ⟨rfl, rfl⟩)))
        go_big_quiet_step ((first | (intro _; rfl) | (intro _; exact ⟨rfl, rfl⟩)))
        go_big_quiet_want
        refine quiet_run (.slice D0 a0.data.length d0) (fun W hW => by simp [execOp, HK5.out W hW, Result.andThen, go_sem]) ?_
        go_big_quiet_on
        try simp only [Act.put]
        try simp only [List.setIfInBounds_toArray]
        try simp only [List.set_cons_succ]
        try simp only [List.set_cons_zero]
        go_big_quiet_step ((intro hb; refine (HFW.out _ hb).mono ?_; rintro x wc ⟨rfl, hb2⟩; exact ⟨rfl, hb.trans (hb2.mono hb.size)⟩))
        go_big_quiet_step ((first | (intro _; rfl) | (intro _; exact ⟨rfl, rfl⟩)))
        go_big_quiet_step ((first | (intro _; rfl) | (intro _; exact ⟨rfl, rfl⟩)))
        go_big_quiet_step ((first | (intro _; rfl) | (intro _; exact ⟨rfl, rfl⟩)))
        go_big_quiet_step ((first | (intro _; rfl) | (intro _; exact ⟨rfl, rfl⟩)))
        go_big_quiet_want
        refine quiet_run (.slice E0 a0.hs.length e0) (fun W hW => by simp [execOp, HK6.out W hW, Result.andThen, go_sem]) ?_
        go_big_quiet_on
        try simp only [Act.put]
        try simp only [List.setIfInBounds_toArray]
        try simp only [List.set_cons_succ]
        try simp only [List.set_cons_zero]
        go_big_quiet_step ((first | (intro _; rfl) | (intro _; exact ⟨rfl, rfl⟩)))
        go_big_quiet_step ((first | (intro _; rfl) | (intro _; exact ⟨rfl, rfl⟩)))
        go_big_quiet_want
        refine quiet_run (.agg #[sv a0.code.name, .int .i64 a0.code.field, .int .i64 a0.code.data, .slice A0 a0.code.par.length c0, .int .i64 a0.code.dom]) (fun W hW => by simp [execOp, HKC.out W hW, Result.andThen, go_sem]) ?_
        go_big_quiet_on
        try simp only [Act.put]
        try simp only [List.setIfInBounds_toArray]
        try simp only [List.set_cons_succ]
        try simp only [List.set_cons_zero]
        go_big_quiet_step ((intro hb; refine (HWI.out _ hb).mono ?_; rintro x wc ⟨rfl, hb2⟩; exact ⟨rfl, hb.trans (hb2.mono hb.size)⟩))
        go_big_quiet_step ((first | (intro _; rfl) | (intro _; exact ⟨rfl, rfl⟩)))
        repeat (go_big_quiet_step ((first | (intro _; rfl) | (intro _; exact ⟨rfl, rfl⟩))))
        refine wpQuiet_nil ?_
        intro w2 BC
        have HB2 := hideIt BC
        clear BC
        go_wp2_with fail
        go_ret
        exact ⟨rfl, HB0.out.trans (HB2.out.mono HB0.out.size)⟩
    · rw [Bool.eq_false_iff.2 hfa] at HFW
      clear hsm hfa hq1
      go_enter Tryd.func6, Tryd.ntmps6
      go_wp2_with (go_at_call 11; rw [← HWE.out]; refine HSA.out.mono ?_; rintro e w1 ⟨rfl, hb1⟩; have HB1 := hideIt hb1; clear hb1 HSA)
      refine wp_region_quiet_below (w0 := W0) (B := W0.heap.size) (by kernel_rfl) (by kernel_rfl) HB1.out ?_
      try simp only [Act.put]
      try simp only [List.setIfInBounds_toArray]
      try simp only [List.set_cons_succ]
      try simp only [List.set_cons_zero]
      go_big_quiet_step ((first | (intro _; rfl) | (intro _; exact ⟨rfl, rfl⟩)))
      go_big_quiet_want
      refine quiet_run (.agg #[sv a0.code.name, .int .i64 a0.code.field, .int .i64 a0.code.data, .slice A0 a0.code.par.length c0, .int .i64 a0.code.dom]) (fun W hW => by simp [execOp, HKC.out W hW, Result.andThen, go_sem]) ?_
      go_big_quiet_on
      try simp only [Act.put]
      try simp only [List.setIfInBounds_toArray]
      try simp only [List.set_cons_succ]
      try simp only [List.set_cons_zero]
      go_big_quiet_step ((intro hb; refine (HSM.out _ hb).mono ?_; rintro x wc ⟨rfl, hb2⟩; exact ⟨rfl, hb.trans (hb2.mono hb.size)⟩))
      go_big_quiet_step ((first | (intro _; rfl) | (intro _; exact ⟨rfl, rfl⟩)))
      go_big_quiet_step ((first | (intro _; rfl) | (intro _; exact ⟨rfl, rfl⟩)))
      go_big_quiet_step ((first | (intro _; rfl) | (intro _; exact ⟨rfl, rfl⟩)))
      go_big_quiet_want
      refine quiet_run (.slice D0 a0.data.length d0) (fun W hW => by simp [execOp, HK5.out W hW, Result.andThen, go_sem]) ?_
      go_big_quiet_on
      try simp only [Act.put]
      try simp only [List.setIfInBounds_toArray]
      try simp only [List.set_cons_succ]
      try simp only [List.set_cons_zero]
      go_big_quiet_step ((intro hb; refine (HFW.out _ hb).mono ?_; rintro x wc ⟨rfl, hb2⟩; exact ⟨rfl, hb.trans (hb2.mono hb.size)⟩))
      repeat (go_big_quiet_step ((first | (intro _; rfl) | (intro _; exact ⟨rfl, rfl⟩))))
      refine wpQuiet_nil ?_
      intro w2 BC
      have HB2 := hideIt BC
      clear BC
      go_wp2_with fail
      go_ret
      exact ⟨rfl, HB0.out.trans (HB2.out.mono HB0.out.size)⟩
  · rw [Bool.eq_false_iff.2 hsm] at HSM
    clear hsm hq1
    go_enter Tryd.func6, Tryd.ntmps6
    go_wp2_with (go_at_call 11; rw [← HWE.out]; refine HSA.out.mono ?_; rintro e w1 ⟨rfl, hb1⟩; have HB1 := hideIt hb1; clear hb1 HSA)
    refine wp_region_quiet_below (w0 := W0) (B := W0.heap.size) (by kernel_rfl) (by kernel_rfl) HB1.out ?_
    try simp only [Act.put]
    try simp only [List.setIfInBounds_toArray]
    try simp only [List.set_cons_succ]
    try simp only [List.set_cons_zero]
    go_big_quiet_step ((first | (intro _; rfl) | (intro _; exact ⟨rfl, rfl⟩)))
    go_big_quiet_want
    refine quiet_run (.agg #[sv a0.code.name, .int .i64 a0.code.field, .int .i64 a0.code.data, .slice A0 a0.code.par.length c0, .int .i64 a0.code.dom]) (fun W hW => by simp [execOp, HKC.out W hW, Result.andThen, go_sem]) ?_
    go_big_quiet_on
    try simp only [Act.put]
    try simp only [List.setIfInBounds_toArray]
    try simp only [List.set_cons_succ]
    try simp only [List.set_cons_zero]
    go_big_quiet_step ((intro hb; refine (HSM.out _ hb).mono ?_; rintro x wc ⟨rfl, hb2⟩; exact ⟨rfl, hb.trans (hb2.mono hb.size)⟩))
    repeat (go_big_quiet_step ((first | (intro _; rfl) | (intro _; exact ⟨rfl, rfl⟩))))
    refine wpQuiet_nil ?_
    intro w2 BC
    have HB2 := hideIt BC
    clear BC
    go_wp2_with fail
    go_ret
    exact ⟨rfl, HB0.out.trans (HB2.out.mono HB0.out.size)⟩

end Go.Proofs.YtpjgmekpnlpjaaaDoor.erasureRoundTrip
