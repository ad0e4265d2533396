/-
  The comparisons of the specification: SameInts, SameTexts.
  The reference's Generator, walked.
  The reference's Encode, walked.
  Encoding is linear.
  Decode, walked.
  Units as combinations of data units: what a recoverable unit is (for the round trip).
-/
import Derived.Test.YtpjgmekpnlpjaaaDoorEreA
import Derived.Test.YtpjgmekpnlpjaaaDoorEraJ
import Derived.Test.YtpjgmekpnlpjaaaDoorEraH
import Derived.Test.YtpjgmekpnlpjaaaDoorLwE
namespace Go.Proofs.YtpjgmekpnlpjaaaDoor
open Go.RowKit
set_option linter.unusedVariables false
set_option linter.unusedSimpArgs false

theorem s_neq (T : TypeId) (a b : List UInt8) : binOp .neq T (.string (str a)) (.string (str b)) = pure (.bool (decide (a ≠ b))) := by
  have h : decide (a ≠ b) = !(a == b) := by rw [Bool.eq_iff_iff, decide_eq_true_iff, Bool.not_eq_true', beq_eq_false_iff_ne]
  rw [h, binOp_string_neq, Lib.toList_data, Lib.toList_data, str_list, str_list]
theorem ret_b8 {a b : Bool} (h : a = b) : Ending.returned (.bool a) = Ending.returned (.bool b) := by rw [h]

set_option maxHeartbeats 400000 in
set_option maxRecDepth 100000 in
theorem sameInts_any (xs ys : List Int) (A A' : Option Addr) (c c' : Nat) (w : World) (hx : Sl w w.heap.size A 1 xs.length (xs.map iv)) (hy : Sl w w.heap.size A' 1 ys.length (ys.map iv)) (hlx : xs.length ≤ 100000) :
    Calls Tryd.prog 18 #[.slice A xs.length c, .slice A' ys.length c'] w fun e w' => e = .returned (.bool (decide (xs = ys))) ∧ ∃ n, w' = w.drewN n := by
  have HX := hideIt hx
  have HY := hideIt hy
  clear hx hy
  by_cases hl : xs.length = ys.length
  · have Hl := hideIt hl
    have ht : binOp .neq 3 (.int .i64 (xs.length : Int)) (.int .i64 (ys.length : Int)) = pure (.bool false) := by rw [i_neq, decide_eq_false (by omega)]
    clear hl
    go_enter Tryd.func18, Tryd.ntmps18
    go_wp2_with fail
    go_loopg [4, 5] xs.length (fun g s4 s5 wr => ∃ k : Nat, g + k = xs.length ∧ s4 = .bool false ∧ s5 = .int .i64 k ∧ Aside (xs.take k = ys.take k ∧ ∃ n, wr = w.drewN n))
    case atStart => exact ⟨0, by omega, rfl, rfl, by simp, 0, rfl⟩
    case round =>
      obtain ⟨k, hg, rfl, rfl, HA⟩ := hrel
      obtain ⟨n0, hn0⟩ := HA.out.2
      have HT := hideIt HA.out.1
      clear HA
      by_cases hk : k < xs.length
      · have hk' : k < ys.length := by have := Hl.out; omega
        obtain ⟨b, off, u, rfl, hb, hu, hc⟩ := HX.out.at_ hk
        obtain ⟨b', off', u', rfl, hb', hu', hc'⟩ := HY.out.at_ hk'
        rw [List.getElem?_map, List.getElem?_eq_getElem hk] at hu
        rw [List.getElem?_map, List.getElem?_eq_getElem hk'] at hu'
        injection hu with hu
        injection hu' with hu'
        subst hu hu'
        have hc1 : wr.cell? ⟨b, off + k, none⟩ = some (.int .i64 xs[k]) := by rw [hn0]; exact hc
        have hc2 : wr.cell? ⟨b', off' + k, none⟩ = some (.int .i64 ys[k]) := by rw [hn0]; exact hc'
        have HN := hideIt hn0
        have hki : (k : Int) < (xs.length : Int) := by omega
        have hki2 : (k : Int) < (ys.length : Int) := by omega
        have hinc := inc_c 3 k (by omega)
        have HTX := hideIt (take_snoc xs k hk)
        have HTY := hideIt (take_snoc ys k hk')
        by_cases he : xs[k] = ys[k]
        · have HE := hideIt he
          have hne : binOp .neq 3 (.int .i64 xs[k]) (.int .i64 ys[k]) = pure (.bool false) := by rw [i_neq, decide_eq_false (fun h => h he)]
          clear he hn0 hc hc' hb hb'
          go_wp2_with fail
          go_quiet (fail)
          go_wp2_with fail
          go_roundg (gk - 1)
          case measure => omega
          case rel => exact ⟨k + 1, by omega, rfl, by go_num, by rw [HTX.out, HTY.out, HT.out, HE.out], by rw [HN.out]; exact ⟨_, World.drewN_drewN _ _ _⟩⟩
        · have HE := hideIt he
          have hne : binOp .neq 3 (.int .i64 xs[k]) (.int .i64 ys[k]) = pure (.bool true) := by rw [i_neq, decide_eq_true he]
          clear he hn0 hc hc' hb hb'
          go_wp2_with fail
          go_quiet (fail)
          go_wp2_with fail
          go_ret
          exact ⟨ret_b (decide_eq_false fun h => HE.out (by subst h; rfl)).symm, by rw [HN.out]; exact ⟨_, World.drewN_drewN _ _ _⟩⟩
      · have hki : ¬ (k : Int) < (xs.length : Int) := by omega
        go_wp2_with fail
        go_ret
        have hkl : k = xs.length := by omega
        have := HT.out
        rw [hkl, List.take_length, Hl.out, List.take_length] at this
        exact ⟨ret_b (decide_eq_true this).symm, n0, rfl⟩
  · have ht : binOp .neq 3 (.int .i64 (xs.length : Int)) (.int .i64 (ys.length : Int)) = pure (.bool true) := by rw [i_neq, decide_eq_true (by omega)]
    have Hl := hideIt hl
    clear hl
    go_enter Tryd.func18, Tryd.ntmps18
    go_wp2_with fail
    go_ret
    exact ⟨ret_b (decide_eq_false fun h => Hl.out (by rw [h])).symm, 0, rfl⟩

set_option maxHeartbeats 400000 in
set_option maxRecDepth 100000 in
theorem sameTexts_any (xs ys : List (List UInt8)) (A A' : Option Addr) (c c' : Nat) (w : World) (hx : Sl w w.heap.size A 1 xs.length (xs.map sv)) (hy : Sl w w.heap.size A' 1 ys.length (ys.map sv)) (hlx : xs.length ≤ 100000) :
    Calls Tryd.prog 23 #[.slice A xs.length c, .slice A' ys.length c'] w fun e w' => e = .returned (.bool (decide (xs = ys))) ∧ ∃ n, w' = w.drewN n := by
  have HX := hideIt hx
  have HY := hideIt hy
  clear hx hy
  by_cases hl : xs.length = ys.length
  · have Hl := hideIt hl
    have ht : binOp .neq 3 (.int .i64 (xs.length : Int)) (.int .i64 (ys.length : Int)) = pure (.bool false) := by rw [i_neq, decide_eq_false (by omega)]
    clear hl
    go_enter Tryd.func23, Tryd.ntmps23
    go_wp2_with fail
    go_loopg [4, 5] xs.length (fun g s4 s5 wr => ∃ k : Nat, g + k = xs.length ∧ s4 = .bool false ∧ s5 = .int .i64 k ∧ Aside (xs.take k = ys.take k ∧ ∃ n, wr = w.drewN n))
    case atStart => exact ⟨0, by omega, rfl, rfl, by simp, 0, rfl⟩
    case round =>
      obtain ⟨k, hg, rfl, rfl, HA⟩ := hrel
      obtain ⟨n0, hn0⟩ := HA.out.2
      have HT := hideIt HA.out.1
      clear HA
      by_cases hk : k < xs.length
      · have hk' : k < ys.length := by have := Hl.out; omega
        obtain ⟨b, off, u, rfl, hb, hu, hc⟩ := HX.out.at_ hk
        obtain ⟨b', off', u', rfl, hb', hu', hc'⟩ := HY.out.at_ hk'
        rw [List.getElem?_map, List.getElem?_eq_getElem hk] at hu
        rw [List.getElem?_map, List.getElem?_eq_getElem hk'] at hu'
        injection hu with hu
        injection hu' with hu'
        subst hu hu'
        have hc1 : wr.cell? ⟨b, off + k, none⟩ = some (.string (str xs[k])) := by rw [hn0]; exact hc
        have hc2 : wr.cell? ⟨b', off' + k, none⟩ = some (.string (str ys[k])) := by rw [hn0]; exact hc'
        have HN := hideIt hn0
        have hki : (k : Int) < (xs.length : Int) := by omega
        have hki2 : (k : Int) < (ys.length : Int) := by omega
        have hinc := inc_c 3 k (by omega)
        have HTX := hideIt (take_snoc xs k hk)
        have HTY := hideIt (take_snoc ys k hk')
        by_cases he : xs[k] = ys[k]
        · have HE := hideIt he
          have hne : binOp .neq 9 (.string (str xs[k])) (.string (str ys[k])) = pure (.bool false) := by rw [s_neq, decide_eq_false (fun h => h he)]
          clear he hn0 hc hc' hb hb'
          go_wp2_with fail
          go_quiet (fail)
          go_wp2_with fail
          go_roundg (gk - 1)
          case measure => omega
          case rel => exact ⟨k + 1, by omega, rfl, by go_num, by rw [HTX.out, HTY.out, HT.out, HE.out], by rw [HN.out]; exact ⟨_, World.drewN_drewN _ _ _⟩⟩
        · have HE := hideIt he
          have hne : binOp .neq 9 (.string (str xs[k])) (.string (str ys[k])) = pure (.bool true) := by rw [s_neq, decide_eq_true he]
          clear he hn0 hc hc' hb hb'
          go_wp2_with fail
          go_quiet (fail)
          go_wp2_with fail
          go_ret
          exact ⟨ret_b (decide_eq_false fun h => HE.out (by subst h; rfl)).symm, by rw [HN.out]; exact ⟨_, World.drewN_drewN _ _ _⟩⟩
      · have hki : ¬ (k : Int) < (xs.length : Int) := by omega
        go_wp2_with fail
        go_ret
        have hkl : k = xs.length := by omega
        have := HT.out
        rw [hkl, List.take_length, Hl.out, List.take_length] at this
        exact ⟨ret_b (decide_eq_true this).symm, n0, rfl⟩
  · have ht : binOp .neq 3 (.int .i64 (xs.length : Int)) (.int .i64 (ys.length : Int)) = pure (.bool true) := by rw [i_neq, decide_eq_true (by omega)]
    have Hl := hideIt hl
    clear hl
    go_enter Tryd.func23, Tryd.ntmps23
    go_wp2_with fail
    go_ret
    exact ⟨ret_b (decide_eq_false fun h => Hl.out (by rw [h])).symm, 0, rfl⟩

/-- The first k rows. -/
def rowsK (x : Cd) (n k : Nat) : List Int := nl (k * n) fun i => gC x (i / n) (i % n)
theorem rowsK_next (x : Cd) (n k : Nat) (hn : 0 < n) : rowsK x n (k + 1) = rowsK x n k ++ nl n (gC x k) := by
  unfold rowsK
  have e1 : (k + 1) * n = k * n + n := by rw [Nat.add_mul, Nat.one_mul]
  refine List.ext_getElem (by rw [nl_len, List.length_append, nl_len, nl_len, e1]) fun i h1 h2 => ?_
  rw [nl_len] at h1
  rw [nl_get]
  by_cases hi : i < k * n
  · rw [List.getElem_append_left (by rw [nl_len]; exact hi), nl_get]
  · rw [List.getElem_append_right (by rw [nl_len]; omega)]
    obtain ⟨j, rfl⟩ : ∃ j, i = k * n + j := ⟨i - k * n, by omega⟩
    have hj : j < n := by omega
    simp only [nl_len, Nat.add_sub_cancel_left]
    rw [ix_div hj, ix_mod hj, nl_get]
theorem rrow_own {x : Cd} {m n : Nat} (hvc : VC x m n) (A : Option Addr) (c : Nat) (w : World) (hx : CIn w x A) (u : Nat) (hu : u < n + x.par.length) :
    Calls Tryd.prog 38 #[x.v A c, .int .i64 (u : Int)] w fun e w' => ∃ b cb, e = .returned (.slice (some ⟨b, 0, none⟩) n cb) ∧ w'.ownsRow w.heap.size 3 1 (.slice (some ⟨b, 0, none⟩) n cb) n ((nl n (gC x u)).map iv) ∧ Below w.heap.size w w' := by
  refine (rrow_any hvc A c w hx u hu).mono ?_
  rintro e w' ⟨v, rfl, ho, hb⟩
  rw [nl_len] at ho
  rcases ho.2 with ⟨_, h0⟩ | ⟨g, cap, cur, hv, _⟩
  · have := hvc.pos; omega
  · subst hv
    exact ⟨g, cap, rfl, ho, hb⟩

set_option maxHeartbeats 500000 in
set_option maxRecDepth 100000 in
theorem rgen_any (x : Cd) (A : Option Addr) (c : Nat) (w : World) (hx : CIn w x A) (hsm : Sm x) :
    Calls Tryd.prog 15 #[x.v A c] w (MRes w (genR x)) := by
  obtain ⟨W, hW⟩ : ∃ W, W = w.alloc (.cells (x.cs A c).toArray 24) := ⟨_, rfl⟩
  have hbw : Below w.heap.size w W := by rw [hW]; exact below_new w _
  have hWs : W.heap.size = w.heap.size + 1 := by rw [hW]; simp
  have HBC0 := show BC W w.heap.size x A c by rw [hW]; exact BC.new c hx
  obtain ⟨W2, hW2⟩ : ∃ W2, W2 = W.alloc (.cells (mtC 0 0 0 (.slice none 0 0)).toArray 31) := ⟨_, rfl⟩
  have hbw2 : Below w.heap.size w W2 := by rw [hW2]; exact la7 hbw
  have HB := hideIt hbw2
  have HBC := hideIt (show BC W2 w.heap.size x A c by rw [hW2]; exact HBC0.keep (below_new W _))
  have HPR := hideIt (show Blk W2 (w.heap.size + 1) 31 (mtC 0 0 0 (.slice none 0 0)) by rw [hW2, ← hWs]; exact Blk.new W 31 (mtC 0 0 0 (.slice none 0 0)))
  have HV := hideIt (rwidth_any x A c W2 HBC.out.cin hsm)
  have hnot := not_b
  have HPL := hideIt (show w.heap.size ≤ w.heap.size + 1 by omega)
  have HWE := hideIt (show W2 = (w.alloc (.cells (x.cs A c).toArray 24)).alloc (.cells (mtC 0 0 0 (.slice none 0 0)).toArray 31) by rw [hW2, hW])
  clear hW hW2 hbw hbw2 hWs HBC0 hx
  cases q1 : vC x with
  | true =>
    obtain ⟨m, n, hvc⟩ := vC_spec q1
    have hw : wC x = ((n + x.par.length : Nat) : Int) := by unfold wC; rw [if_pos q1, hvc.d]; push_cast; rfl
    rw [hw] at HV
    have HR := hideIt (show genR x = (mkM m (n + x.par.length) n (gC x), 0) by unfold genR genM; rw [if_pos q1, hvc.fn, hvc.dn])
    have HN32 := hideIt hvc.wid
    have hN0 := hvc.pos
    have hN32 := hvc.wid
    have hn32 : n ≤ 32 := by omega
    obtain ⟨N, hN⟩ : ∃ N, N = n + x.par.length := ⟨_, rfl⟩
    have HRO := hideIt (fun (W : World) (h : Below W2.heap.size W2 W) u (hu : u < N) => rrow_own hvc A c W (HBC.out.cin.keep h) u (by rw [← hN]; exact hu))
    have HD0 := hideIt hvc.d
    have HF0 := hideIt hvc.f
    have HC2 := hideIt (fun (W : World) (h : Below W2.heap.size W2 W) => show W.cell? ⟨w.heap.size, 2, none⟩ = some (.int .i64 (n : Int)) by rw [← HD0.out]; exact (HBC.out.keep h).c2)
    have HC1 := hideIt (fun (W : World) (h : Below W2.heap.size W2 W) => show W.cell? ⟨w.heap.size, 1, none⟩ = some (.int .i64 (m : Int)) by rw [← HF0.out]; exact (HBC.out.keep h).c1)
    have hne := i_eql 3 .i64 (N : Int) 0
    rw [decide_eq_false (by omega)] at hne
    rw [← hN] at HV HR hN32
    clear q1 hvc hw hN
    go_enter Tryd.func15, Tryd.ntmps15
    go_wp2_with (first
      | (go_at_call 22; rw [← HWE.out]; refine HV.out.mono ?_; rintro e w1 ⟨rfl, hb1⟩; have HB1 := hideIt hb1; have c11 := HC1.out _ hb1; have c12 := HC2.out _ hb1; clear hb1 HV))
    clear c11 c12
    go_loopg [6] N (fun gk s6 wr => ∃ (k : Nat) (v : Value), k + gk = N ∧ s6 = .int .i64 (k : Int) ∧ Aside (Below w1.heap.size w1 wr) ∧ Aside (Blk wr w1.heap.size 31 (mtC (m : Int) (N : Int) (n : Int) v)) ∧ Aside (wr.ownsRow (w1.heap.size + 1) 3 1 v (k * n) ((rowsK x n k).map iv)))
    case atStart => exact ⟨0, .slice none 0 0, by omega, rfl, below_new w1 _, Blk.new w1 31 (mtC (m : Int) (N : Int) (n : Int) (.slice none 0 0)), by
      have : rowsK x n 0 = [] := by unfold rowsK; rw [Nat.zero_mul]; rfl
      rw [this, Nat.zero_mul]
      exact World.ownsRow_nil _ _ _ _⟩
    case round =>
      obtain ⟨k, v, hk, rfl, HLW, HBX, HO⟩ := hrel
      obtain ⟨w4, rfl⟩ : ∃ x, x = wr := ⟨wr, rfl⟩
      obtain ⟨A5, c5, hv5, _, _⟩ := own_form HO.out
      subst hv5
      have HW4 := hideIt (HB1.out.trans (HLW.out.mono HB1.out.size))
      by_cases hlt : k < N
      · have HTK := hideIt (rowsK_next x n k hN0)
        have hkn : k * n ≤ 32 * 32 := Nat.mul_le_mul (by omega) (by omega)
        have hinc := inc_c 3 k (by omega)
        have hji : (k : Int) < (N : Int) := by omega
        have HKN := hideIt (show (k + 1) * n = k * n + n by rw [Nat.add_mul, Nat.one_mul])
        have HR4 := hideIt (fun W (h : Below w4.heap.size w4 W) => HRO.out W (HW4.out.trans (h.mono HW4.out.size)) k hlt)
        have HBK := hideIt (HBC.out.keep HW4.out).box
        have HLT := hideIt (show w.heap.size < w1.heap.size ∧ w1.heap.size + 1 ≤ w4.heap.size from ⟨Nat.lt_of_lt_of_le HBC.out.box.lt HB1.out.size, HBX.out.lt⟩)
        generalize k * n = kn at *
        have c3 : w4.cell? ⟨w1.heap.size, 3, none⟩ = some (.slice A5 kn c5) := HBX.out.cell 3
        clear hlt
        go_wp2_with fail
        refine loads_begin_n 8 [(6, fun W => W.cell? ⟨w1.heap.size, 3, none⟩ = some (.slice A5 kn c5)), (6, fun W => Blk W w.heap.size 24 (x.cs A c))] rfl (by kernel_rfl) ?_
        refine wpAnyL_move (oi := ⟨some 23, _, _, _, _, _⟩) 0 ?_ rfl (by kernel_rfl) (by kernel_rfl) (by kernel_rfl) (by kernel_rfl) (fun _ _ _ h => h) (by kernel_rfl) ?_ ((Hooks.add c3 (Hooks.add HBK.out (Hooks.nil _ _)))) ?_
        rotate_left
        · intro W'; go_simp; first | done | with_reducible rfl
        try simp only [Act.put]
        try simp only [List.setIfInBounds_toArray]
        try simp only [List.set_cons_succ]
        try simp only [List.set_cons_zero]
        refine wpAnyL_take (oi := ⟨some 24, _, _, _, _, _⟩) 1 6 (.slice A5 kn c5) _ rfl (by kernel_rfl) (by kernel_rfl) (by kernel_rfl) (by kernel_rfl) (by kernel_rfl) (by kernel_rfl) (.head _) (fun _ _ _ h => h) (by kernel_rfl) (fun W' hW' => by (try dsimp only at hW'); go_simp) (Hooks.add c3 (Hooks.add HBK.out (Hooks.nil _ _))) ?_
        try simp only [Act.put]
        try simp only [List.setIfInBounds_toArray]
        try simp only [List.set_cons_succ]
        try simp only [List.set_cons_zero]
        refine wpAnyL_take (oi := ⟨some 25, _, _, _, _, _⟩) 2 6 (x.v A c) _ rfl (by kernel_rfl) (by kernel_rfl) (by kernel_rfl) (by kernel_rfl) (by kernel_rfl) (by kernel_rfl) (.tail _ (.head _)) (fun _ _ _ h => h) (by kernel_rfl) (fun W' hW' => exec_load_blk (cs := x.cs A c) rfl rfl hW' _ Tryd.underlying24 rfl isz5) (Hooks.add c3 (Hooks.add HBK.out (Hooks.nil _ _))) ?_
        try simp only [Act.put]
        try simp only [List.setIfInBounds_toArray]
        try simp only [List.set_cons_succ]
        try simp only [List.set_cons_zero]
        refine wpAnyL_move (oi := ⟨some 26, _, _, _, _, _⟩) 3 ?_ rfl (by kernel_rfl) (by kernel_rfl) (by kernel_rfl) (by kernel_rfl) (fun _ _ _ h => h) (by kernel_rfl) ?_ ((Hooks.add c3 (Hooks.add HBK.out (Hooks.nil _ _)))) ?_
        rotate_left
        · intro W'; go_simp; first | done | with_reducible rfl
        try simp only [Act.put]
        try simp only [List.setIfInBounds_toArray]
        try simp only [List.set_cons_succ]
        try simp only [List.set_cons_zero]
        refine wpAnyL_one (o := ⟨some 27, _, _, _, _, _⟩) 4 (by kernel_rfl) rfl (fun K hK => ?_)
        go_wp2_with (first
          | (go_at_call 38; refine (HR4.out _ (Below.refl w4.heap.size w4).drew).mono ?_; rintro e w7 ⟨b7, c7, rfl, ho7, hb7⟩))
        have hb47 : Below w4.heap.size w4 w7 := (Below.refl w4.heap.size w4).drew.trans hb7
        have HO7 := hideIt ho7
        have HP7 := hideIt (own_kept HO.out hb47)
        have c37 : w7.cell? ⟨w1.heap.size, 3, none⟩ = some (.slice A5 kn c5) := (HBX.out.kept hb47 HBX.out.lt).cell 3
        have HBX7 := hideIt (HBX.out.kept hb47 HBX.out.lt)
        have HBK7 := hideIt (HBK.out.kept hb47 HBK.out.lt)
        have HL7 := hideIt (HLW.out.trans (hb47.mono HLW.out.size))
        have HS7 := hideIt (show w1.heap.size + 1 ≤ w7.heap.size from Nat.le_trans HLT.out.2 hb47.size)
        have HC7 := hideIt (fun j u (hu : ((nl n (gC x k)).map iv)[j]? = some u) => ho7.cells (g := b7) rfl j u hu)
        refine hK _ _ (Hooks.add c37 (Hooks.add HBK7.out (Hooks.nil _ _))) ?_
        clear hK K ho7 hb7 hb47 c3 HBX HBK HR4
        try simp only [Act.put]
        try simp only [List.setIfInBounds_toArray]
        try simp only [List.set_cons_succ]
        try simp only [List.set_cons_zero]
        refine wpAnyL_one (o := ⟨some 28, _, _, _, _, _⟩) 5 (by kernel_rfl) rfl (fun K hK => ?_)
        go_wp2_with (first
          | ((with_reducible refine at_append ?_); refine wpList_apG (z := .int .i64 0) (size := 1) (bytes := 8) (n := kn) (m := n) (news := (nl n (gC x k)).map iv) Tryd.underlying29 (by kernel_rfl) rfl (by decide) (by decide) rfl (.tmp 24) (.tmp 27) rfl rfl HP7.out rfl (by rw [List.length_map, nl_len, Nat.mul_one]) (fun j u h => HC7.out j u h) (iv_one _) (by omega) HS7.out ?_; intro v8 w8 HO8 HG8 HA8 HB8))
        have HBX8 := hideIt (HBX7.out.kept HB8.out (Nat.lt_succ_self _))
        have HBK8 := hideIt (HBK7.out.kept HB8.out (Nat.lt_succ_of_lt HLT.out.1))
        have HL8 := hideIt (HL7.out.trans (HB8.out.mono (Nat.le_succ _)))
        have c38 : w8.cell? ⟨w1.heap.size, 3, none⟩ = some (.slice A5 kn c5) := HBX8.out.cell 3
        have cfr : w8.frozen? ⟨w1.heap.size, 3, none⟩ = false := HBX8.out.free 3
        obtain ⟨A8, c8, hv8, _, _⟩ := own_form HO8.out
        subst hv8
        refine hK _ _ (Hooks.add c38 (Hooks.add HBK8.out (Hooks.nil _ _))) ?_
        clear hK K c37 HBX7 HBK7 HA8
        try simp only [Act.put]
        try simp only [List.setIfInBounds_toArray]
        try simp only [List.set_cons_succ]
        try simp only [List.set_cons_zero]
        refine loads_tail 6 (by kernel_rfl) (by kernel_rfl) (by kernel_rfl) (by kernel_rfl) ?_
        simp only [List.drop_succ_cons, List.drop_zero]
        go_wp2_with fail
        go_roundg (gk - 1)
        case measure => omega
        case rel =>
          refine ⟨k + 1, .slice A8 (kn + n) c8, by omega, by go_num, below_set HL8.out (Nat.le_refl _) _ _, HBX8.out.store 3 (.slice A8 (kn + n) c8), ?_⟩
          rw [HKN.out, HTK.out, List.map_append]
          exact own_set HO8.out HBX8.out (by decide) _ _
      · have hji : ¬ (k : Int) < (N : Int) := by omega
        have hke : k = N := by omega
        subst hke
        have HPR4 := hideIt (HPR.out.kept HW4.out HPR.out.lt)
        have HLL := hideIt (show w.heap.size ≤ w1.heap.size + 1 by have := HB.out.size; have := HB1.out.size; omega)

        go_wp2_with (first
          | ((with_reducible refine at_load ?_); refine wpList_ldM rfl (.tmp 5) rfl w1.heap.size _ _ _ _ rfl HBX.out ?_)
          | ((with_reducible refine at_store ?_); refine wpList_stM rfl (.tmp 2) (.tmp 30) rfl (w.heap.size + 1) _ _ _ _ _ _ _ _ rfl rfl rfl HPR4.out ?_; intro w8 HT8 HB8))
        refine bodyPost_ret (results_two rfl _ _ (w.heap.size + 1) _ _ _ rfl HB8.out Tryd.underlying31 rfl isz4) rfl ?_
        rw [HR.out]
        refine ⟨_, rfl, ?_, HT8.out.below (HB.out.trans (HW4.out.mono HB.out.size)) HPL.out⟩
        show w8.ownsRow _ _ _ _ (mkM m k n (gC x)).l.length ((mkM m k n (gC x)).l.map iv)
        rw [mk_len]
        exact own_base (own_turned HO.out HPR4.out (by decide) HT8.out) HLL.out
  | false =>
    have hw : wC x = 0 := by unfold wC; rw [if_neg (by rw [q1]; decide)]
    rw [hw] at HV
    have HR : Hid (genR x = (zeroM, 1)) := hideIt (by unfold genR; rw [if_neg (by rw [q1]; decide)])
    have hne : binOp .eql 3 (.int .i64 0) (.int .i64 0) = pure (.bool true) := by rw [i_eql]; rfl
    clear q1 hw
    go_enter Tryd.func15, Tryd.ntmps15
    go_wp2_with (first
      | (go_at_call 22; rw [← HWE.out]; refine HV.out.mono ?_; rintro e w1 ⟨rfl, hb1⟩; have HB1 := hideIt hb1; have HPR1 := hideIt (HPR.out.kept hb1 HPR.out.lt); clear hb1 HV)
      | ((with_reducible refine at_store ?_); refine wpList_stM rfl (.tmp 2) (.tmp 11) rfl (w.heap.size + 1) 0 0 0 0 0 0 (.slice none 0 0) (.slice none 0 0) rfl rfl rfl HPR1.out ?_; intro w8 HT8 HB8))
    refine bodyPost_ret (results_two rfl _ _ (w.heap.size + 1) _ _ _ rfl HB8.out Tryd.underlying31 rfl isz4) rfl ?_
    rw [HR.out]
    exact MRes.bad (HT8.out.below (HB.out.trans (HB1.out.mono HB.out.size)) HPL.out) 1

theorem alk_iff (m : Nat) (us : List (List UInt8)) : alk m us = true ↔ ∀ u ∈ us, u.length = ul us ∧ u.length % (m / 8) = 0 := by
  unfold alk
  rw [List.all_eq_true]
  exact ⟨fun h u hu => of_decide_eq_true (h u hu), fun h u hu => decide_eq_true (h u hu)⟩

set_option maxHeartbeats 600000 in
set_option maxRecDepth 100000 in
theorem renc_any (x : Cd) (A : Option Addr) (c : Nat) (w : World) (hx : CIn w x A) (hsm : Sm x) (us : List (List UInt8)) (hl : us.length ≤ 24) (hbig : ∀ u ∈ us, u.length ≤ 64) (D : Option Addr) (cd : Nat) (hs : Sl w w.heap.size D 1 us.length (us.map sv)) :
    Calls Tryd.prog 17 #[x.v A c, .slice D us.length cd] w (StrRes w (encR x us)) := by
  obtain ⟨W, hW⟩ : ∃ W, W = w.alloc (.cells (x.cs A c).toArray 24) := ⟨_, rfl⟩
  have hbw : Below w.heap.size w W := by rw [hW]; exact below_new w _
  have HB := hideIt hbw
  have HBC := hideIt (show BC W w.heap.size x A c by rw [hW]; exact BC.new c hx)
  have HV := hideIt (rvalid8_any x A c W HBC.out.cin hsm)
  have hq := i_neq 3 .i64 (us.length : Int) x.data
  have hnot := not_b
  have HSL := hideIt ((hs.below hbw).wide hbw.size)
  have HWE := hideIt hW
  have HBG := hideIt hbig
  clear hbw hx hs hW hbig
  cases q1 : vC x with
  | true =>
    rw [q1] at HV
    obtain ⟨m, n, hvc⟩ := vC_spec q1
    by_cases q2 : (us.length : Int) = x.data
    · rw [decide_eq_false fun h => h q2] at hq
      have h0 : 0 < us.length := by have := hvc.pos; have := hvc.d; omega
      have HVC := hideIt hvc
      have HFM := hideIt hvc.f
      have HRT := hideIt (fun h : ∀ u ∈ us, u.length = ul us ∧ u.length % (m / 8) = 0 => show encR x us = (us ++ x.par.map (fun r => cbS x.field r us), 0) by
        unfold encR
        rw [if_pos ⟨q1, q2, by rw [hvc.f, Int.toNat_natCast]; exact (alk_iff m us).2 h⟩])
      have HRF := hideIt (fun u (hu : u ∈ us) (h : ¬ (u.length = ul us ∧ u.length % (m / 8) = 0)) => show encR x us = ([], 1) by
        unfold encR
        rw [if_neg (fun h2 => h ((alk_iff m us).1 (by have := h2.2.2; rwa [hvc.f, Int.toNat_natCast] at this) u hu))])
      obtain ⟨b1, o1, hA1, hbb1, hcc1⟩ := HSL.out.2 (by rw [List.length_map]; exact h0)
      have HC1 := hideIt (fun (W2 : World) (h : Below W.heap.size W W2) j u (hu : (us.map sv)[j]? = some u) => show W2.cell? ((⟨b1, o1, none⟩ : Addr).add j) = some u by rw [addr_add, h.cell (p := ⟨b1, o1 + j, none⟩) hbb1]; exact hcc1 j u hu)
      have HU0 := hideIt (ul_zero us h0)
      have hp31 : x.par.length ≤ 31 := by have := hvc.wid; have := hvc.pos; omega
      subst hA1
      clear q1 q2 hvc hbb1 hcc1
      go_enter Tryd.func17, Tryd.ntmps17
      go_wp2_with (first
        | (go_at_call 20; rw [← HWE.out]; refine HV.out.mono ?_; rintro e w1 ⟨rfl, hb1⟩; have HB1 := hideIt hb1; have c2 := (HBC.out.keep hb1).c2; clear hb1 HV)
        | ((with_reducible refine at_append ?_); refine wpList_apG (base := w1.heap.size) (z := .string ⟨#[]⟩) (size := 1) (bytes := 16) (n := 0) (m := us.length) (news := us.map sv) Tryd.underlying25 (by kernel_rfl) rfl (by decide) (by decide) rfl (.tmp 23) (.tmp 24) rfl rfl (World.ownsRow_lit (base := w1.heap.size) (e := 9) (size := 1) w1 #[] 0 (Nat.le_refl _) (by decide) rfl) rfl (by simp) (fun j u hu => HC1.out _ (HB1.out.trans ((below_new w1 (.cells #[] 9)).mono HB1.out.size)) j u hu) (fun u hu => by obtain ⟨y, _, rfl⟩ := List.mem_map.1 hu; rfl) (by omega) (by simp) ?_; intro v5 w5 HO5 HG5 HA5 HB5; rw [Nat.zero_add] at HO5; have ho5 : w5.ownsRow w1.heap.size 9 1 v5 us.length (us.map sv) := HO5.out; have HP5 := hideIt ho5; have HL5 := hideIt ((below_new w1 (.cells #[] 9)).trans HB5.out); clear ho5 HO5 HA5))
      clear c2
      have HW5 := hideIt (HB1.out.trans (HL5.out.mono HB1.out.size))
      go_loopg [4, 5, 8] us.length (fun gk s4 s5 s8 wr => ∃ i : Nat, i + gk = us.length ∧ s4 = .slice none 0 0 ∧ s5 = .int .i64 0 ∧ s8 = .int .i64 (i : Int) ∧ Aside (Below w5.heap.size w5 wr) ∧ Aside (∀ u ∈ us.take i, u.length = ul us ∧ u.length % (m / 8) = 0))
      case atStart => exact ⟨0, by omega, rfl, rfl, rfl, Below.refl _ _, fun u hu => by simp at hu⟩
      case round =>
        obtain ⟨i, hi, rfl, rfl, rfl, HLW, HGO⟩ := hrel
        obtain ⟨w6, rfl⟩ : ∃ x, x = wr := ⟨wr, rfl⟩
        have HW6 := hideIt (HW5.out.trans (HLW.out.mono HW5.out.size))
        have HBC6 := hideIt (HBC.out.keep HW6.out)
        by_cases hlt : i < us.length
        · have ccu := HC1.out _ HW6.out i _ (show (us.map sv)[i]? = some (sv us[i]) by rw [List.getElem?_map, List.getElem?_eq_getElem hlt]; rfl)
          have ccz := HC1.out _ HW6.out 0 _ (show (us.map sv)[0]? = some (sv us[0]) by rw [List.getElem?_map, List.getElem?_eq_getElem h0]; rfl)
          rw [addr_add] at ccu ccz
          rw [Nat.add_zero] at ccz
          have c1 := HBC6.out.c1
          rw [HFM.out] at c1
          have HMEM := hideIt (List.getElem_mem hlt)
          have HTK := hideIt (take_snoc us i hlt)
          have hsz := str_size us[i]
          have hsz0 := str_size us[0]
          have HU1 := hideIt HU0.out
          have hinc := inc_c 3 i (by omega)
          have hii : (i : Int) < (us.length : Int) := by omega
          have h0i : (0 : Int) < (us.length : Int) := by omega
          have hb64 := HBG.out _ (List.getElem_mem hlt)
          have hne := i_neq 3 .i64 (us[i].length : Int) (us[0].length : Int)
          have hrem := nrem 3 us[i].length 2 (by decide)
          have hm16 := i_eql 3 .i64 (m : Int) 16
          have hodd := i_eql 3 .i64 ((us[i].length % 2 : Nat) : Int) 1
          change w6.cell? ⟨b1, o1 + i, none⟩ = some (.string (str us[i])) at ccu
          change w6.cell? ⟨b1, o1, none⟩ = some (.string (str us[0])) at ccz
          generalize us[i] = u at *
          generalize us[0] = z at *
          generalize str u = su at *
          generalize str z = sz at *
          by_cases hle : u.length = z.length
          · rw [decide_eq_false (show ¬ (u.length : Int) ≠ (z.length : Int) by omega)] at hne
            rcases HVC.out.fm with hm | hm
            · rw [decide_eq_false (by omega)] at hm16
              have HN := hideIt (show ∀ v ∈ us.take (i + 1), v.length = ul us ∧ v.length % (m / 8) = 0 by
                intro v hv
                rw [HTK.out] at hv
                rcases List.mem_append.1 hv with hv | hv
                · exact HGO.out v hv
                · rw [List.mem_singleton] at hv
                  subst hv
                  exact ⟨hle.trans HU1.out, by rw [hm]; omega⟩)
              clear hle hm hlt hrem hodd hb64
              go_wp2_with fail
              go_quiet (fail)
              go_wp2_with fail
              go_roundg (gk - 1)
              case measure => omega
              case rel => exact ⟨i + 1, by omega, rfl, rfl, by go_num, below_drewN HLW.out _, HN.out⟩
            · rw [decide_eq_true (by omega)] at hm16
              by_cases hpar : u.length % 2 = 1
              · have hrem1 : binOp .rem 3 (.int .i64 (u.length : Int)) (.int .i64 2) = pure (.int .i64 1) := by rw [show (2 : Int) = ((2 : Nat) : Int) from rfl, hrem, hpar]; rfl
                have he11 : binOp .eql 3 (.int .i64 1) (.int .i64 1) = pure (.bool true) := by rw [i_eql]; rfl
                have HE := hideIt (HRF.out u HMEM.out (fun h => by have := h.2; rw [hm] at this; omega))
                clear hle hm hlt hpar hb64 hrem hodd
                go_wp2_with fail
                go_quiet (fail)
                go_wp2_with fail
                go_ret2
                rw [HE.out]
                exact StrRes.nil (below_drewN (HB.out.trans (HW6.out.mono HB.out.size)) _) 1
              · have hrem1 : binOp .rem 3 (.int .i64 (u.length : Int)) (.int .i64 2) = pure (.int .i64 0) := by rw [show (2 : Int) = ((2 : Nat) : Int) from rfl, hrem, show u.length % 2 = 0 by omega]; rfl
                have he11 : binOp .eql 3 (.int .i64 0) (.int .i64 1) = pure (.bool false) := by rw [i_eql]; rfl
                have HN := hideIt (show ∀ v ∈ us.take (i + 1), v.length = ul us ∧ v.length % (m / 8) = 0 by
                  intro v hv
                  rw [HTK.out] at hv
                  rcases List.mem_append.1 hv with hv | hv
                  · exact HGO.out v hv
                  · rw [List.mem_singleton] at hv
                    subst hv
                    exact ⟨hle.trans HU1.out, by rw [hm]; omega⟩)
                clear hle hm hlt hpar hb64 hrem hodd
                go_wp2_with fail
                go_quiet (fail)
                go_wp2_with fail
                go_roundg (gk - 1)
                case measure => omega
                case rel => exact ⟨i + 1, by omega, rfl, rfl, by go_num, below_drewN HLW.out _, HN.out⟩
          · rw [decide_eq_true (show (u.length : Int) ≠ (z.length : Int) by omega)] at hne
            have HE := hideIt (HRF.out u HMEM.out (fun h => hle (h.1.trans HU1.out.symm)))
            clear hle hlt hrem hodd hm16 hb64
            go_wp2_with fail
            go_quiet (fail)
            go_wp2_with fail
            go_ret2
            rw [HE.out]
            exact StrRes.nil (below_drewN (HB.out.trans (HW6.out.mono HB.out.size)) _) 1
        · have hii : ¬ (i : Int) < (us.length : Int) := by omega
          have HR := hideIt (HRT.out (by have := HGO.out; rwa [List.take_of_length_le (by omega)] at this))
          have HP6 := hideIt (own_kept HP5.out HLW.out)
          clear HRT HRF HGO
          go_wp2_with fail
          go_loopg [7, 9, 10, 11] x.par.length (fun g s7 s9 s10 s11 wr => ∃ j : Nat, j + g = x.par.length ∧ s9 = .int .i64 (j : Int) ∧ Aside (Below w1.heap.size w1 wr) ∧ Aside (wr.ownsRow w1.heap.size 9 1 s7 (us.length + j) ((us ++ (x.par.take j).map (fun r => cbS x.field r us)).map sv)))
          case atStart => exact ⟨0, by omega, rfl, HL5.out.trans (HLW.out.mono HL5.out.size), by have := HP6.out; simpa [Aside] using this⟩
          case round =>
            obtain ⟨j, hj, rfl, HLJ, HO⟩ := hrel
            obtain ⟨A7, c7, rfl, _, _⟩ := own_form HO.out
            obtain ⟨w7, rfl⟩ : ∃ x, x = wr := ⟨wr, rfl⟩
            have HW7 := hideIt (HB1.out.trans (HLJ.out.mono HB1.out.size))
            have HBC7 := hideIt (HBC.out.keep HW7.out)
            have c37 := HBC7.out.c3
            by_cases hlt2 : j < x.par.length
            · obtain ⟨b, o, A', c', hA, hb, hcell, hsl⟩ := HBC7.out.cin.pm.row hlt2
              have hr100 : (x.par[j]).length ≤ 100000 := by have := (HVC.out.row _ (List.getElem_mem hlt2)).1; have := HVC.out.wid; omega
              have HTK := hideIt (take_snoc x.par j hlt2)
              have c1 := HBC7.out.c1
              subst hA
              have HCM := hideIt (fun W2 (h : Below w7.heap.size w7 W2) => rcombine_any x.field A' c' (x.par[j]) (some ⟨b1, o1, none⟩) cd us W2 hr100 (fun u hu => Nat.le_trans (HBG.out u hu) (by decide)) ((hsl.below h).wide h.size) ((HSL.out.below (HW7.out.trans (h.mono HW7.out.size))).wide (HW7.out.trans (h.mono HW7.out.size)).size))
              have hinc := inc_c 3 j (by omega)
              have hji : (j : Int) < (x.par.length : Int) := by omega
              have HKC := hideIt (fun W2 (h : Below w7.heap.size w7 W2) => show W2.cell? ⟨w.heap.size, 1, none⟩ = some (.int .i64 x.field) ∧ W2.cell? ⟨w.heap.size, 3, none⟩ = some (.slice (some ⟨b, o, none⟩) x.par.length c) ∧ W2.cell? ⟨b, o + j, none⟩ = some (.slice A' (x.par[j]).length c') from
                ⟨(h.cell (p := ⟨w.heap.size, 1, none⟩) HBC7.out.box.lt).trans c1, (h.cell (p := ⟨w.heap.size, 3, none⟩) HBC7.out.box.lt).trans c37, (h.cell (p := ⟨b, o + j, none⟩) hb).trans hcell⟩)
              generalize x.par[j] = l at *
              clear hsl hb hr100
              obtain ⟨cc1, cc3, ccl⟩ := HKC.out w7 (Below.refl _ _)
              clear c1 c37 hcell
              go_wp2_with fail
              refine loads_begin_n 14 [(12, fun W => W.cell? ⟨w.heap.size, 1, none⟩ = some (.int .i64 x.field)), (12, fun W => W.cell? ⟨w.heap.size, 3, none⟩ = some (.slice (some ⟨b, o, none⟩) x.par.length c)), (12, fun W => W.cell? ⟨b, o + j, none⟩ = some (.slice A' l.length c'))] rfl (by kernel_rfl) ?_
              refine wpAnyL_move (oi := ⟨some 64, _, _, _, _, _⟩) 0 ?_ rfl (by kernel_rfl) (by kernel_rfl) (by kernel_rfl) (by kernel_rfl) (fun _ _ _ h => h) (by kernel_rfl) ?_ ((Hooks.add cc1 (Hooks.add cc3 (Hooks.add ccl (Hooks.nil _ _))))) ?_
              rotate_left
              · intro W'; go_simp; first | done | with_reducible rfl
              try simp only [Act.put]
              try simp only [List.setIfInBounds_toArray]
              try simp only [List.set_cons_succ]
              try simp only [List.set_cons_zero]
              refine wpAnyL_take (oi := ⟨some 65, _, _, _, _, _⟩) 1 12 (.int .i64 x.field) _ rfl (by kernel_rfl) (by kernel_rfl) (by kernel_rfl) (by kernel_rfl) (by kernel_rfl) (by kernel_rfl) (.head _) (fun _ _ _ h => h) (by kernel_rfl) (fun W' hW' => by (try dsimp only at hW'); go_simp) (Hooks.add cc1 (Hooks.add cc3 (Hooks.add ccl (Hooks.nil _ _)))) ?_
              try simp only [Act.put]
              try simp only [List.setIfInBounds_toArray]
              try simp only [List.set_cons_succ]
              try simp only [List.set_cons_zero]
              refine wpAnyL_move (oi := ⟨some 66, _, _, _, _, _⟩) 2 ?_ rfl (by kernel_rfl) (by kernel_rfl) (by kernel_rfl) (by kernel_rfl) (fun _ _ _ h => h) (by kernel_rfl) ?_ ((Hooks.add cc1 (Hooks.add cc3 (Hooks.add ccl (Hooks.nil _ _))))) ?_
              rotate_left
              · intro W'; go_simp; first | done | with_reducible rfl
              try simp only [Act.put]
              try simp only [List.setIfInBounds_toArray]
              try simp only [List.set_cons_succ]
              try simp only [List.set_cons_zero]
              refine wpAnyL_take (oi := ⟨some 67, _, _, _, _, _⟩) 3 12 (.slice (some ⟨b, o, none⟩) x.par.length c) _ rfl (by kernel_rfl) (by kernel_rfl) (by kernel_rfl) (by kernel_rfl) (by kernel_rfl) (by kernel_rfl) (.tail _ (.head _)) (fun _ _ _ h => h) (by kernel_rfl) (fun W' hW' => by (try dsimp only at hW'); go_simp) (Hooks.add cc1 (Hooks.add cc3 (Hooks.add ccl (Hooks.nil _ _)))) ?_
              try simp only [Act.put]
              try simp only [List.setIfInBounds_toArray]
              try simp only [List.set_cons_succ]
              try simp only [List.set_cons_zero]
              refine wpAnyL_move (oi := ⟨some 68, _, _, _, _, _⟩) 4 ?_ rfl (by kernel_rfl) (by kernel_rfl) (by kernel_rfl) (by kernel_rfl) (fun _ _ _ h => h) (by kernel_rfl) ?_ ((Hooks.add cc1 (Hooks.add cc3 (Hooks.add ccl (Hooks.nil _ _))))) ?_
              rotate_left
              · intro W'; go_simp; first | done | with_reducible rfl
              try simp only [Act.put]
              try simp only [List.setIfInBounds_toArray]
              try simp only [List.set_cons_succ]
              try simp only [List.set_cons_zero]
              refine wpAnyL_move (oi := ⟨some 69, _, _, _, _, _⟩) 5 ?_ rfl (by kernel_rfl) (by kernel_rfl) (by kernel_rfl) (by kernel_rfl) (fun _ _ _ h => h) (by kernel_rfl) ?_ ((Hooks.add cc1 (Hooks.add cc3 (Hooks.add ccl (Hooks.nil _ _))))) ?_
              rotate_left
              · intro W'; go_simp; first | done | with_reducible rfl
              try simp only [Act.put]
              try simp only [List.setIfInBounds_toArray]
              try simp only [List.set_cons_succ]
              try simp only [List.set_cons_zero]
              refine wpAnyL_take (oi := ⟨some 70, _, _, _, _, _⟩) 6 12 (.slice A' l.length c') _ rfl (by kernel_rfl) (by kernel_rfl) (by kernel_rfl) (by kernel_rfl) (by kernel_rfl) (by kernel_rfl) (.tail _ (.tail _ (.head _))) (fun _ _ _ h => h) (by kernel_rfl) (fun W' hW' => by (try dsimp only at hW'); go_simp) (Hooks.add cc1 (Hooks.add cc3 (Hooks.add ccl (Hooks.nil _ _)))) ?_
              try simp only [Act.put]
              try simp only [List.setIfInBounds_toArray]
              try simp only [List.set_cons_succ]
              try simp only [List.set_cons_zero]
              refine wpAnyL_move (oi := ⟨some 71, _, _, _, _, _⟩) 7 ?_ rfl (by kernel_rfl) (by kernel_rfl) (by kernel_rfl) (by kernel_rfl) (fun _ _ _ h => h) (by kernel_rfl) ?_ ((Hooks.add cc1 (Hooks.add cc3 (Hooks.add ccl (Hooks.nil _ _))))) ?_
              rotate_left
              · intro W'; go_simp; first | done | with_reducible rfl
              try simp only [Act.put]
              try simp only [List.setIfInBounds_toArray]
              try simp only [List.set_cons_succ]
              try simp only [List.set_cons_zero]
              refine wpAnyL_one (o := ⟨some 72, _, _, _, _, _⟩) 8 (by kernel_rfl) rfl (fun K hK => ?_)
              go_wp2_with (first
                | (go_at_call 44; refine (HCM.out _ (Below.refl w7.heap.size w7).drew).mono ?_; rintro e w8 ⟨rfl, hb8⟩))
              have HB8 := hideIt (show Below w7.heap.size w7 w8 from (Below.refl w7.heap.size w7).drew.trans hb8)
              obtain ⟨dd1, dd3, ddl⟩ := HKC.out w8 HB8.out
              refine hK _ _ (Hooks.add dd1 (Hooks.add dd3 (Hooks.add ddl (Hooks.nil _ _)))) ?_
              clear hK K hb8
              have HO8 := hideIt (own_kept HO.out HB8.out)
              refine wpAnyL_move (oi := ⟨some 63, _, _, _, _, _⟩) 9 ?_ rfl (by kernel_rfl) (by kernel_rfl) (by kernel_rfl) (by kernel_rfl) (fun _ _ _ h => h) (by kernel_rfl) ?_ ((Hooks.add dd1 (Hooks.add dd3 (Hooks.add ddl (Hooks.nil _ _))))) ?_
              rotate_left
              · intro W'; go_simp; first | done | with_reducible rfl
              try simp only [Act.put]
              try simp only [List.setIfInBounds_toArray]
              try simp only [List.set_cons_succ]
              try simp only [List.set_cons_zero]
              refine wpAnyL_move (oi := ⟨some 73, _, _, _, _, _⟩) 10 ?_ rfl (by kernel_rfl) (by kernel_rfl) (by kernel_rfl) (by kernel_rfl) (fun _ _ _ h => h) (by kernel_rfl) ?_ ((Hooks.add dd1 (Hooks.add dd3 (Hooks.add ddl (Hooks.nil _ _))))) ?_
              rotate_left
              · intro W'; go_simp; first | done | with_reducible rfl
              try simp only [Act.put]
              try simp only [List.setIfInBounds_toArray]
              try simp only [List.set_cons_succ]
              try simp only [List.set_cons_zero]
              refine wpAnyL_move (oi := ⟨some 74, _, _, _, _, _⟩) 11 ?_ rfl (by kernel_rfl) (by kernel_rfl) (by kernel_rfl) (by kernel_rfl) (fun _ _ _ h => h) (by kernel_rfl) ?_ ((Hooks.add dd1 (Hooks.add dd3 (Hooks.add ddl (Hooks.nil _ _))))) ?_
              rotate_left
              · intro W'; go_simp; first | done | with_reducible rfl
              try simp only [Act.put]
              try simp only [List.setIfInBounds_toArray]
              try simp only [List.set_cons_succ]
              try simp only [List.set_cons_zero]
              refine loads_tail 12 (by kernel_rfl) (by kernel_rfl) (by kernel_rfl) (by kernel_rfl) ?_
              simp only [List.drop_succ_cons, List.drop_zero]
              clear cc1 cc3 ccl dd1 dd3 ddl HCM HKC
              go_wp2_with (first
                | ((with_reducible refine at_append ?_); refine wpList_apS (n := us.length + j) rfl (.tmp 75) (.tmp 77) rfl rfl HO8.out rfl (by omega) (Nat.le_trans HLJ.out.size HB8.out.size) ?_; intro v9 w9 HO9 HG9 HA9 HB9))
              go_roundg (gk - 1)
              case measure => omega
              case rel => exact ⟨j + 1, by omega, by go_num, HLJ.out.trans ((HB8.out.mono HLJ.out.size).trans HB9.out), by
                have e : us ++ (x.par.take (j + 1)).map (fun r => cbS x.field r us) = us ++ (x.par.take j).map (fun r => cbS x.field r us) ++ [cbS x.field l us] := by rw [HTK.out, List.map_append, ← List.append_assoc]; rfl
                show World.ownsRow _ _ _ _ _ _ ((us ++ (x.par.take (j + 1)).map (fun r => cbS x.field r us)).map sv)
                rw [e]; exact HO9.out⟩
            · have hji : ¬ (j : Int) < (x.par.length : Int) := by omega
              go_wp2_with fail
              go_ret2
              rw [HR.out]
              refine ⟨_, rfl, ?_, HB.out.trans (HW7.out.mono HB.out.size)⟩
              show w7.ownsRow w.heap.size _ 1 (.slice A7 (us.length + j) c7) _ _
              have := own_base HO.out (Nat.le_trans HB.out.size HB1.out.size)
              rw [List.take_of_length_le (by omega)] at this
              rw [List.length_append, List.length_map, show us.length + x.par.length = us.length + j by omega]
              exact this
    · rw [decide_eq_true q2] at hq
      have HR : Hid (encR x us = ([], 1)) := hideIt (by unfold encR; rw [if_neg (fun h => q2 h.2.1)])
      clear q1 q2 hvc
      go_enter Tryd.func17, Tryd.ntmps17
      go_wp2_with (first
        | (go_at_call 20; rw [← HWE.out]; refine HV.out.mono ?_; rintro e w1 ⟨rfl, hb1⟩; have HB1 := hideIt hb1; have c2 := (HBC.out.keep hb1).c2; clear hb1 HV))
      go_ret2
      rw [HR.out]
      exact StrRes.nil (HB.out.trans (HB1.out.mono HB.out.size)) 1
  | false =>
    rw [q1] at HV
    have HR : Hid (encR x us = ([], 1)) := hideIt (by unfold encR; rw [if_neg (fun h => by rw [q1] at h; exact absurd h.1 (by decide))])
    clear q1
    go_enter Tryd.func17, Tryd.ntmps17
    go_wp2_with (first
      | (go_at_call 20; rw [← HWE.out]; refine HV.out.mono ?_; rintro e w1 ⟨rfl, hb1⟩; have HB1 := hideIt hb1; clear hb1 HV))
    go_ret2
    rw [HR.out]
    exact StrRes.nil (HB.out.trans (HB1.out.mono HB.out.size)) 1

theorem alk_eq (m : Nat) (us : List (List UInt8)) : alk m us = (us.map List.length).all fun n => decide (n = (us.map List.length).headD 0 ∧ n % (m / 8) = 0) := by
  unfold alk ul
  cases us with
  | nil => rfl
  | cons u r => simp [List.all_map, Function.comp_def]
theorem zip_len {a b : List (List UInt8)} (hl : a.map List.length = b.map List.length) : (List.zipWith xr a b).map List.length = a.map List.length := by
  have hab : a.length = b.length := by simpa using congrArg List.length hl
  refine List.ext_getElem (by simp; omega) fun i h1 h2 => ?_
  simp only [List.length_map, List.length_zipWith] at h1 h2
  simp only [List.getElem_map, List.getElem_zipWith]
  have : (a.map List.length)[i]'(by simp; omega) = (b.map List.length)[i]'(by simp; omega) := by simp only [hl]
  simp only [List.getElem_map] at this
  exact xr_len _ _ this
theorem xr_zz (n : Nat) : xr (List.replicate n 0) (List.replicate n 0) = List.replicate n 0 := by
  unfold xr
  rw [List.zipWith_replicate]
  simp
theorem alk_gd {m : Nat} {r : List Int} {a : List (List UInt8)} (hr : r.length = a.length) (h0 : 0 < r.length) (hv : ∀ c ∈ r, vd (m : Int) c = true) (hal : alk m a = true) : Gd (m : Int) r a := by
  unfold alk at hal
  rw [List.all_eq_true] at hal
  have h := fun u hu => of_decide_eq_true (hal u hu)
  refine ⟨h0, hr, hv, fun u hu => (h u hu).1, ?_⟩
  rw [Int.toNat_natCast]
  have h1 := h a[0] (List.getElem_mem (by omega))
  rw [← h1.1]
  exact h1.2
theorem cbS_is {m : Nat} {r : List Int} {a : List (List UInt8)} (h : Gd (m : Int) r a) : cbS (m : Int) r a = cmbF m (List.replicate (ul a) 0) ((r.map Int.toNat).zip a) := by
  unfold cbS
  rw [if_pos h, Int.toNat_natCast]
  unfold cmbK prs
  rw [List.take_of_length_le (by simp; omega)]
theorem cbS_len {m : Nat} (hm : Fm m) {r : List Int} {a : List (List UInt8)} (h : Gd (m : Int) r a) : (cbS (m : Int) r a).length = ul a := by
  unfold cbS
  rw [if_pos h, Int.toNat_natCast]
  have h5 := h.2.2.2.2
  rw [Int.toNat_natCast] at h5
  exact cmbK_len hm r a h.2.2.2.1 h5 _
theorem ul_map (a : List (List UInt8)) : ul a = (a.map List.length).headD 0 := by
  unfold ul
  cases a <;> rfl
theorem cbS_add {m : Nat} (hm : Fm m) {r : List Int} {a b : List (List UInt8)} (hr : r.length = a.length) (h0 : 0 < r.length) (hv : ∀ c ∈ r, vd (m : Int) c = true) (hal : alk m a = true) (hl : a.map List.length = b.map List.length) :
    cbS (m : Int) r (List.zipWith xr a b) = xr (cbS (m : Int) r a) (cbS (m : Int) r b) ∧ (cbS (m : Int) r a).length = (cbS (m : Int) r b).length := by
  have hab : a.length = b.length := by simpa using congrArg List.length hl
  have hz := zip_len hl
  have hzl : (List.zipWith xr a b).length = a.length := by simp; omega
  have ga := alk_gd hr h0 hv hal
  have gb := alk_gd (hr.trans hab) h0 hv (by rw [alk_eq, ← hl, ← alk_eq]; exact hal)
  have gz := alk_gd (hr.trans hzl.symm) h0 hv (by rw [alk_eq, hz, ← alk_eq]; exact hal)
  have ub : ul b = ul a := by rw [ul_map, ul_map, hl]
  have uz : ul (List.zipWith xr a b) = ul a := by rw [ul_map, ul_map, hz]
  have h5 := ga.2.2.2.2
  rw [Int.toNat_natCast] at h5
  refine ⟨?_, by rw [cbS_len hm ga, cbS_len hm gb, ub]⟩
  rw [cbS_is ga, cbS_is gb, cbS_is gz, ub, uz]
  have := cmb_add hm (ul a) (r.map Int.toNat) a b (List.replicate (ul a) 0) (List.replicate (ul a) 0) (by unfold whl; rw [List.length_replicate]; exact h5) (by simp) (by simp) (by simp; omega) (by simp; omega) ga.2.2.2.1 (fun u hu => by rw [← ub]; exact gb.2.2.2.1 u hu)
  rw [xr_zz] at this
  exact this
/-- The units of the exclusive or of two lists of data units. -/
theorem enc_lin (x : Cd) {a b : List (List UInt8)} (hl : a.map List.length = b.map List.length) :
    (encR x a).2 = (encR x (List.zipWith xr a b)).2 ∧ (encR x b).2 = (encR x (List.zipWith xr a b)).2 ∧ (encR x (List.zipWith xr a b)).1 = List.zipWith xr (encR x a).1 (encR x b).1 ∧ (encR x a).1.map List.length = (encR x b).1.map List.length := by
  have hab : a.length = b.length := by simpa using congrArg List.length hl
  have hz := zip_len hl
  have hzl : (List.zipWith xr a b).length = a.length := by simp; omega
  have eb : alk (fC x) b = alk (fC x) a := by rw [alk_eq, ← hl, ← alk_eq]
  have ez : alk (fC x) (List.zipWith xr a b) = alk (fC x) a := by rw [alk_eq, hz, ← alk_eq]
  unfold encR
  rw [show alk x.field.toNat b = alk x.field.toNat a from eb, show alk x.field.toNat (List.zipWith xr a b) = alk x.field.toNat a from ez, hzl, ← hab]
  by_cases h : vC x = true ∧ (a.length : Int) = x.data ∧ alk x.field.toNat a = true
  · rw [if_pos h, if_pos h, if_pos h]
    obtain ⟨m, n, hvc⟩ := vC_spec h.1
    have han : a.length = n := by have := h.2.1; rw [hvc.d] at this; omega
    have hal : alk m a = true := by have := h.2.2; rw [hvc.fn] at this; exact this
    have key : ∀ r ∈ x.par, cbS x.field r (List.zipWith xr a b) = xr (cbS x.field r a) (cbS x.field r b) ∧ (cbS x.field r a).length = (cbS x.field r b).length := fun r hr => by
      obtain ⟨q1, q2, _⟩ := hvc.row r hr
      have hp := hvc.pos
      rw [hvc.f] at q2 ⊢
      exact cbS_add hvc.fm (q1.trans han.symm) (by omega) q2 hal hl
    refine ⟨rfl, rfl, ?_, ?_⟩
    · show List.zipWith xr a b ++ _ = List.zipWith xr (a ++ _) (b ++ _)
      rw [List.zipWith_append hab]
      congr 1
      refine List.ext_getElem (by simp) fun i h1 h2 => ?_
      simp only [List.length_map] at h1
      simp only [List.getElem_map, List.getElem_zipWith]
      exact (key _ (List.getElem_mem h1)).1
    · show (a ++ _).map List.length = (b ++ _).map List.length
      rw [List.map_append, List.map_append, hl, List.map_map, List.map_map]
      congr 1
      exact List.map_congr_left fun r hr => (key r hr).2
  · rw [if_neg h, if_neg h, if_neg h]
    exact ⟨rfl, rfl, rfl, rfl⟩
theorem enc_short (x : Cd) {a : List (List UInt8)} (ha : ∀ u ∈ a, u.length ≤ 64) : ∀ u ∈ (encR x a).1, u.length ≤ 64 := by
  intro u hu
  unfold encR at hu
  split at hu
  · next h =>
    rcases List.mem_append.1 hu with hu | hu
    · exact ha u hu
    · obtain ⟨r, hr, rfl⟩ := List.mem_map.1 hu
      obtain ⟨m, n, hvc⟩ := vC_spec h.1
      have han : a.length = n := by have := h.2.1; rw [hvc.d] at this; omega
      obtain ⟨q1, q2, _⟩ := hvc.row r hr
      have hp := hvc.pos
      have hal : alk m a = true := by have := h.2.2; rw [hvc.fn] at this; exact this
      rw [hvc.f] at q2 ⊢
      rw [cbS_len hvc.fm (alk_gd (q1.trans han.symm) (by omega) q2 hal), ← ul_zero a (by omega)]
      exact ha _ (List.getElem_mem _)
  · cases hu
theorem enc_len (x : Cd) (A : Option Addr) (c : Nat) (w : World) (hT : Tabs w) (hx : CIn w x A) (us : List (List UInt8)) (hl : us.length ≤ 50000) (hbig : ∀ u ∈ us, u.length ≤ 100000) (D : Option Addr) (cd : Nat) (hs : Sl w w.heap.size D 1 us.length (us.map sv)) (X : List (List UInt8)) (N : Nat) (ee : Int) (h1 : (encR x us).1 = X) (h2 : X.length = N) (h3 : (encR x us).2 = ee) :
    Calls Tryd.prog 16 #[x.v A c, .slice D us.length cd] w fun e w' => ∃ B cb, e = .returned (.tuple #[.slice B N cb, .int .i64 ee]) ∧ w'.ownsRow w.heap.size 9 1 (.slice B N cb) N (X.map sv) ∧ Below w.heap.size w w' := by
  have h := encode_any x A c w hT hx us hl hbig D cd hs
  refine h.mono ?_
  rintro e w' ⟨v, rfl, ho, hb⟩
  rw [h1, h2] at ho
  rw [h3]
  obtain ⟨B, cb, rfl, _, _⟩ := own_form ho
  exact ⟨B, cb, rfl, ho, hb⟩

theorem wpList_mkS (w : World) {ops : Array Oper} {rest : List Oper} {o : Oper} {a : Act} {Q : Exit → Act → World → Prop} (hg : o.guard = none) (l c : Operand) (hop : o.op = Op.makeSlice 25 l c)
    (n : Nat) (hl : a.eval l = .int .i64 (n : Int)) (hc : a.eval c = .int .i64 (n : Int)) (hn : n ≤ 100000)
    (hK : ∀ w', Hid (Blk w' w.heap.size 9 ((List.replicate n ([] : List UInt8)).map sv)) → Hid (Below w.heap.size w w') → wpList Tryd.prog ops Q rest (a.put o.dst (.slice (some ⟨w.heap.size, 0, none⟩) n n)) w') :
    wpList Tryd.prog ops Q (o :: rest) a w := by
  obtain ⟨i0, hi, hz0, hz1, hz2⟩ := info_parts (show (Tryd.prog.info? 9).map (fun i => (i.zero, i.size, i.bytes)) = some (some (Value.string ⟨#[]⟩), 1, 16) by kernel_rfl)
  refine wpList_make_full w hg l c 25 hop w.heap.size 9 i0 (.string ⟨#[]⟩) 1 Tryd.underlying25 hi hz0 hz1 .i64 .i64 (n : Int) (n : Int) n hl hc rfl rfl (by rw [hz2]; omega) (by unfold maxLen; omega) (Nat.le_refl _) ?_
  intro w2 hown hgr
  have hb := (own_blk hown).1
  rw [Nat.mul_one, show (madeCells (Value.string ⟨#[]⟩).cells n).toList = List.replicate n (.string ⟨#[]⟩) from toList_madeCells_one _ n, show List.replicate n (Value.string ⟨#[]⟩) = (List.replicate n ([] : List UInt8)).map sv by rw [List.map_replicate]; rfl] at hb
  exact hK w2 hb ((Below.refl w.heap.size w).grown hgr (Nat.le_refl _) (by simp))

/-- The units that have been computed. -/
noncomputable def dcK (x : Cd) (us : List (List UInt8)) (hs : List Bool) (k : Nat) : List (List UInt8) := (List.range us.length).map fun u => if u < k then sumR x.field (trmR x hs u).1 us else []
theorem dcK_len (x : Cd) (us : List (List UInt8)) (hs : List Bool) (k : Nat) : (dcK x us hs k).length = us.length := by simp [dcK]
theorem dcK_zero (x : Cd) (us : List (List UInt8)) (hs : List Bool) : dcK x us hs 0 = List.replicate us.length [] := by
  unfold dcK
  simp only [Nat.not_lt_zero, if_false]
  rw [List.map_const', List.length_range]
theorem dcK_set (x : Cd) (us : List (List UInt8)) (hs : List Bool) (k : Nat) (h : k < us.length) : ((dcK x us hs k).map sv).set k (sv (sumR x.field (trmR x hs k).1 us)) = (dcK x us hs (k + 1)).map sv := by
  refine List.ext_getElem? fun j => ?_
  by_cases hj : j < us.length
  · by_cases e : j = k
    · subst e
      rw [List.getElem?_set_self (by rw [List.length_map, dcK_len]; exact h)]
      simp [dcK, hj]
    · rw [List.getElem?_set_ne (Ne.symm e)]
      unfold dcK
      simp only [List.getElem?_map, List.getElem?_range hj, Option.map_some]
      by_cases h1 : j < k
      · rw [if_pos h1, if_pos (by omega)]
      · rw [if_neg h1, if_neg (by omega)]
  · rw [List.getElem?_eq_none (by rw [List.length_set, List.length_map, dcK_len]; omega), List.getElem?_eq_none (by rw [List.length_map, dcK_len]; omega)]

set_option maxHeartbeats 600000 in
set_option maxRecDepth 100000 in
theorem decode_any (x : Cd) (A : Option Addr) (c : Nat) (w : World) (hT : Tabs w) (hx : CIn w x A) (us : List (List UInt8)) (hbig : ∀ u ∈ us, u.length ≤ 100000) (E : Option Addr) (ce : Nat) (hE : Sl w w.heap.size E 1 us.length (us.map sv)) (hs : List Bool) (D : Option Addr) (cd : Nat) (hl : hs.length ≤ 100000) (hD : Sl w w.heap.size D 1 hs.length (hs.map bl)) :
    Calls Tryd.prog 35 #[x.v A c, .slice E us.length ce, .slice D hs.length cd] w (StrRes w (decR x us hs)) := by
  obtain ⟨W, hW⟩ : ∃ W, W = w.alloc (.cells (x.cs A c).toArray 24) := ⟨_, rfl⟩
  have hbw : Below w.heap.size w W := by rw [hW]; exact below_new w _
  have HB := hideIt hbw
  have HBC := hideIt (show BC W w.heap.size x A c by rw [hW]; exact BC.new c hx)
  have HV := hideIt (basisOf_any x A c W (hT.keep hbw) HBC.out.cin hs D cd hl ((hD.below hbw).wide hbw.size))
  have HWE := hideIt hW
  have HT := hideIt (hT.keep hbw)
  have hnot := not_b
  have heq : binOp .neq 32 (.int .i64 0) (.int .i64 0) = pure (.bool false) := by rw [i_neq]; rfl
  have heq1 : binOp .neq 32 (.int .i64 1) (.int .i64 0) = pure (.bool true) := by rw [i_neq]; rfl
  have HSE := hideIt ((hE.below hbw).wide hbw.size)
  have HSD := hideIt ((hD.below hbw).wide hbw.size)
  have HBG := hideIt hbig
  obtain ⟨r, hr⟩ : ∃ r, r = decR x us hs := ⟨_, rfl⟩
  rw [← hr]
  have HR := hideIt hr
  unfold decR at HR
  clear hbw hT hx hW hD hr hE hbig
  cases q1 : okB x hs with
  | true =>
    rw [q1] at HV
    obtain ⟨m, n, hvc, hlen⟩ := VC.ok q1
    change Hid (Calls _ _ _ W fun e w' => BasOk W x x.field.toNat x.data.toNat hs e w') at HV
    rw [hvc.fn, hvc.dn] at HV
    have HRD := hideIt (fun (W2 : World) (h : Below W.heap.size W W2) => readable_any x A c W2 (HT.out.keep h) (HBC.out.cin.keep h) us HBG.out E ce ((HSE.out.below h).wide h.size) hs D cd ((HSD.out.below h).wide h.size) q1)
    have HVC := hideIt hvc
    cases q3 : readB x us hs with
    | true =>
      rw [q3] at HRD
      have HF := hideIt (fun (W : World) p (g r v : Value) A c (hb : Blk W p 74 (baC (m : Int) ((n + x.par.length : Nat) : Int) (n : Int) g (.slice A (basL x hs).length c) r v)) => isFull_any p m (n + x.par.length) n (basL x hs).length g r v A c W hb)
      by_cases q4 : (basL x hs).length = n
      · rw [decide_eq_true q4] at HF
        have HR2 := hideIt (show r = (dcK x us hs us.length, 0) by
          rw [HR.out, if_pos ⟨q1, q3⟩, if_pos (by show _ = x.data.toNat; rw [hvc.dn]; exact q4)]
          unfold dcK
          congr 1
          refine List.map_congr_left fun u hu => ?_
          rw [if_pos (List.mem_range.1 hu)])
        have HM := hideIt (fun k t (h : t ∈ (trmR x hs k).1) => show t.1 < us.length by rw [read_len q1 q3]; exact trmR_mem q1 h)
        have hul : us.length ≤ 32 := by rw [read_len q1 q3, hlen]; exact hvc.wid
        have HULN := hideIt (show us.length = n + x.par.length by rw [read_len q1 q3, hlen])
        have HTL := hideIt (fun k => show (trmR x hs k).1.length ≤ 1000 by
          have h1 := trmR_len x hs k
          have := hvc.wid
          omega)
        have HBX := hideIt (fun (W2 : World) (h : Below W.heap.size W W2) => (HBC.out.keep h).c1)
        clear q1 q3 q4 hvc hlen HR
        go_enter Tryd.func35, Tryd.ntmps35
        go_wp2_with (first
          | ((with_reducible refine at_load ?_); refine wpList_ldC (by kernel_rfl) (.tmp 3) rfl (p := w.heap.size) (c := c) rfl (HBC.out.keep HB2.out).box ?_)
          | (go_at_call 48; rw [← HWE.out]; refine HV.out.mono ?_; rintro e w1 ⟨⟨gA, gc, uA, uc, rA, rc, pA, pc, pv, Q, rfl, hrd, hm, hcap, ho⟩, hb1⟩; have HBB := hideIt (BB.new (W := w1) (uc := uc) (rc := rc) (pc := pc) hrd hm hcap); have HB2 := hideIt (la7 (o := .cells (baC (m : Int) ((n : Int) + (x.par.length : Int)) (n : Int) (.slice gA ((n + x.par.length) * n) gc) (.slice uA (basL x hs).length uc) (.slice rA (basL x hs).length rc) (.slice pA pv.length pc)).toArray 74) hb1); clear hb1 hrd hm hcap ho HV)
          | (go_at_call 54; refine (HRD.out _ HB2.out).mono ?_; rintro e w3 ⟨rfl, hb3⟩; have HB3 := hideIt (HB2.out.trans (hb3.mono HB2.out.size)); have HBB3 := hideIt (HBB.out.keep hb3); clear hb3 HRD)
          | (go_at_call 53; refine (HF.out _ _ _ _ _ _ _ HBB3.out.box).mono ?_; rintro e w4 ⟨rfl, hb4⟩; have HB4 := hideIt (HB3.out.trans (hb4.mono HB3.out.size)); have HBB4 := hideIt (HBB3.out.keep hb4); clear hb4)
          | ((with_reducible refine at_make ?_); refine wpList_mkS _ rfl (.tmp 32) (.tmp 32) rfl us.length rfl rfl (by omega) ?_; intro w5 HG5 HB5))
        have HVK := hideIt (fun k (h : k < us.length) => show k < n + x.par.length by rw [← HULN.out]; exact h)
        go_loopg [11, 12, 13, 36] us.length (fun gk s11 s12 s13 s36 wr => ∃ k : Nat, k + gk = us.length ∧ s36 = .int .i64 (k : Int) ∧ Aside (Below w4.heap.size w4 wr) ∧ Aside (Blk wr w4.heap.size 9 ((dcK x us hs k).map sv)))
        case atStart => exact ⟨0, by omega, rfl, HB5.out, by rw [dcK_zero]; exact HG5.out⟩
        case round =>
          obtain ⟨k, hk, rfl, HLW, HG⟩ := hrel
          obtain ⟨w6, rfl⟩ : ∃ x, x = wr := ⟨wr, rfl⟩
          have HB6 := hideIt (HB4.out.trans (HLW.out.mono HB4.out.size))
          by_cases hlt : k < us.length
          · have HBB6 := hideIt (HBB4.out.keep HLW.out)
            have HTE := hideIt (terms_any HVC.out hs HBB6.out.rd k (HVK.out k hlt) _ HBB6.out.cap w6 (HT.out.keep HB6.out) HBB6.out.box HBB6.out.mem)
            have HSU := hideIt (fun (W2 : World) (h : Below W.heap.size W W2) A ca ht => sum_any x.field (trmR x hs k).1 us (HTL.out k) (HM.out k) HBG.out (by omega) A ca E ce W2 (HT.out.keep h) ht ((HSE.out.below h).wide h.size))
            have HST := hideIt (dcK_set x us hs k hlt)
            obtain ⟨vv, hvv⟩ : ∃ v, ((dcK x us hs k).map sv)[k]? = some v := ⟨_, List.getElem?_eq_getElem (by rw [List.length_map, dcK_len]; exact hlt)⟩
            have HVV := hideIt hvv
            have hinc := inc_c 3 k (by omega)
            have hki : (k : Int) < (us.length : Int) := by omega
            obtain ⟨L, ee, htr⟩ : ∃ L ee, trmR x hs k = (L, ee) := ⟨_, _, rfl⟩
            rw [htr] at HTE HSU HST
            dsimp only at HTE HSU HST
            generalize sumR x.field L us = sr at *
            change Hid (Calls _ _ _ w6 fun e w' => ∃ v, e = .returned (.tuple #[v, .int .i64 ee]) ∧ w'.ownsRow w6.heap.size 63 2 v L.length (tcs L) ∧ Below w6.heap.size w6 w') at HTE
            clear hlt hvv htr
            go_wp2_with (first
              | (go_at_call 51; refine HTE.out.mono ?_; rintro e w7 ⟨v7, rfl, ho7, hb7⟩; obtain ⟨A7, c7, rfl, _, _⟩ := own_form ho7; have HB7 := hideIt (HB6.out.trans (hb7.mono HB6.out.size)); have HS7 := hideIt (Sl.of_own ho7); have HL7 := hideIt (HLW.out.trans (hb7.mono HLW.out.size)); have HG7 := hideIt (HG.out.kept hb7 HG.out.lt); have c17 := HBX.out _ HB7.out; clear hb7 ho7 HTE)
              | (go_at_call 55; refine (HSU.out _ HB7.out _ _ HS7.out).mono ?_; rintro e w8 ⟨rfl, hb8⟩; have HL8 := hideIt (HL7.out.trans (hb8.mono HL7.out.size)); have HG8 := hideIt (HG7.out.kept hb8 HG7.out.lt); have cfr := HG8.out.free k; have cce := (HG8.out.cell k).trans HVV.out; clear hb8 HSU))
            go_roundg (gk - 1)
            case measure => omega
            case rel => exact ⟨k + 1, by omega, by go_num, below_set HL8.out (Nat.le_refl _) _ _, by
              have := HG8.out.store k (sv sr)
              rw [HST.out] at this
              exact this⟩
          · have hki : ¬ (k : Int) < (us.length : Int) := by omega
            have hke : k = us.length := by omega
            go_wp2_with fail
            go_ret2
            rw [HR2.out]
            refine ⟨_, rfl, ?_, HB.out.trans (HB6.out.mono HB.out.size)⟩
            show w6.ownsRow w.heap.size 9 1 _ (dcK x us hs us.length).length ((dcK x us hs us.length).map sv)
            rw [dcK_len]
            refine own_of_blk ?_ (Nat.le_trans HB.out.size HB4.out.size) (by rw [List.length_map, dcK_len]) (by unfold maxLen; omega)
            rw [← hke]
            exact HG.out
      · rw [decide_eq_false q4] at HF
        have HR2 := hideIt (show r = ([], 11) by
          rw [HR.out, if_pos ⟨q1, q3⟩, if_neg (by show ¬ _ = x.data.toNat; rw [hvc.dn]; exact q4)])
        clear q1 q3 q4 hvc hlen HR
        go_enter Tryd.func35, Tryd.ntmps35
        go_wp2_with (first
          | ((with_reducible refine at_load ?_); refine wpList_ldC (by kernel_rfl) (.tmp 3) rfl (p := w.heap.size) (c := c) rfl (HBC.out.keep HB2.out).box ?_)
          | (go_at_call 48; rw [← HWE.out]; refine HV.out.mono ?_; rintro e w1 ⟨⟨gA, gc, uA, uc, rA, rc, pA, pc, pv, Q, rfl, hrd, hm, hcap, ho⟩, hb1⟩; have HBB := hideIt (BB.new (W := w1) (uc := uc) (rc := rc) (pc := pc) hrd hm hcap); have HB2 := hideIt (la7 (o := .cells (baC (m : Int) ((n : Int) + (x.par.length : Int)) (n : Int) (.slice gA ((n + x.par.length) * n) gc) (.slice uA (basL x hs).length uc) (.slice rA (basL x hs).length rc) (.slice pA pv.length pc)).toArray 74) hb1); clear hb1 hrd hm hcap ho HV)
          | (go_at_call 54; refine (HRD.out _ HB2.out).mono ?_; rintro e w3 ⟨rfl, hb3⟩; have HB3 := hideIt (HB2.out.trans (hb3.mono HB2.out.size)); have HBB3 := hideIt (HBB.out.keep hb3); clear hb3 HRD)
          | (go_at_call 53; refine (HF.out _ _ _ _ _ _ _ HBB3.out.box).mono ?_; rintro e w4 ⟨rfl, hb4⟩; have HB4 := hideIt (HB3.out.trans (hb4.mono HB3.out.size)); have HBB4 := hideIt (HBB3.out.keep hb4); clear hb4))
        go_ret2
        rw [HR2.out]
        exact StrRes.nil (HB.out.trans (HB4.out.mono HB.out.size)) 11
    | false =>
      rw [q3] at HRD
      have HR2 := hideIt (show r = ([], 1) by rw [HR.out, if_neg (fun h => by rw [q3] at h; exact absurd h.2 (by decide))])
      clear q1 q3 hvc hlen HR
      go_enter Tryd.func35, Tryd.ntmps35
      go_wp2_with (first
        | ((with_reducible refine at_load ?_); refine wpList_ldC (by kernel_rfl) (.tmp 3) rfl (p := w.heap.size) (c := c) rfl (HBC.out.keep HB2.out).box ?_)
        | (go_at_call 48; rw [← HWE.out]; refine HV.out.mono ?_; rintro e w1 ⟨⟨gA, gc, uA, uc, rA, rc, pA, pc, pv, Q, rfl, hrd, hm, hcap, ho⟩, hb1⟩; have HBB := hideIt (BB.new (W := w1) (uc := uc) (rc := rc) (pc := pc) hrd hm hcap); have HB2 := hideIt (la7 (o := .cells (baC (m : Int) ((n : Int) + (x.par.length : Int)) (n : Int) (.slice gA ((n + x.par.length) * n) gc) (.slice uA (basL x hs).length uc) (.slice rA (basL x hs).length rc) (.slice pA pv.length pc)).toArray 74) hb1); clear hb1 hrd hm hcap ho HV)
        | (go_at_call 54; refine (HRD.out _ HB2.out).mono ?_; rintro e w3 ⟨rfl, hb3⟩; have HB3 := hideIt (HB2.out.trans (hb3.mono HB2.out.size)); have HBB3 := hideIt (HBB.out.keep hb3); clear hb3 HRD))
      go_ret2
      rw [HR2.out]
      exact StrRes.nil (HB.out.trans (HB3.out.mono HB.out.size)) 1
  | false =>
    rw [q1] at HV
    have HR2 := hideIt (show r = ([], 1) by rw [HR.out, if_neg (fun h => by rw [q1] at h; exact absurd h.1 (by decide))])
    clear q1 HR
    go_enter Tryd.func35, Tryd.ntmps35
    go_wp2_with (first
      | (go_at_call 48; rw [← HWE.out]; refine HV.out.mono ?_; rintro e w1 ⟨rfl, hb1⟩; have HB1 := hideIt hb1; clear hb1 HV))
    go_ret2
    rw [HR2.out]
    exact StrRes.nil (la7 (HB.out.trans (HB1.out.mono HB.out.size))) 1

theorem sc_add {m : Nat} (hm : Fm m) (a b : Nat) (l : List UInt8) (h : whl m l) : sc m (a ^^^ b) l = xr (sc m a l) (sc m b l) := by
  rcases hm with rfl | rfl
  · rw [sc8_eq, sc8_eq, sc8_eq]
    clear h
    induction l with
    | nil => rfl
    | cons u l ih =>
      rw [List.map_cons, List.map_cons, List.map_cons, xr_cons, ih, mulR, ofNat_xor]
  · revert h
    refine pairs (P := fun l => sc 16 (a ^^^ b) l = xr (sc 16 a l) (sc 16 b l)) rfl ?_ l
    intro u v l _ ih
    rw [sc16_cons, sc16_cons, sc16_cons, xr_cons, xr_cons, ih, mulR, ofNat_xor, div256_xor, ofNat_xor]
theorem sc_mul {m : Nat} (hm : Fm m) {c d : Nat} (hc : c < 2 ^ m) (hd : d < 2 ^ m) (l : List UInt8) (h : whl m l) : sc m c (sc m d l) = sc m (mul m d c) l := by
  rcases hm with rfl | rfl
  · rw [sc8_eq, sc8_eq, sc8_eq, List.map_map]
    apply List.map_congr_left
    intro u _
    have hu := u.toNat_lt
    have e : mul 8 u.toNat d < 256 := mul_lt (m := 8) (Or.inl rfl) d hu
    show UInt8.ofNat (mul 8 (UInt8.ofNat (mul 8 u.toNat d)).toNat c) = _
    rw [UInt8.toNat_ofNat', Nat.mod_eq_of_lt e, mul_assoc (Or.inl rfl) hu hd hc]
  · revert h
    refine pairs (P := fun l => sc 16 c (sc 16 d l) = sc 16 (mul 16 d c) l) rfl ?_ l
    intro u v l _ ih
    have hs := sym_lt u v
    have e : mul 16 (256 * u.toNat + v.toNat) d < 65536 := mul_lt (m := 16) (Or.inr rfl) d hs
    rw [sc16_cons, sc16_cons, sc16_cons, ih, byte_of _ e, mul_assoc (Or.inr rfl) hs hd hc]
theorem sc_one {m : Nat} (hm : Fm m) (l : List UInt8) (h : whl m l) : sc m 1 l = l := by
  rcases hm with rfl | rfl
  · rw [sc8_eq]
    conv => rhs; rw [← List.map_id l]
    apply List.map_congr_left
    intro u _
    rw [mul_oneR (Or.inl rfl)]
    apply UInt8.toNat_inj.1
    rw [UInt8.toNat_ofNat']
    have := u.toNat_lt
    show u.toNat % 256 = u.toNat
    omega
  · revert h
    refine pairs (P := fun l => sc 16 1 l = l) rfl ?_ l
    intro u v l _ ih
    have h1 := u.toNat_lt
    have h2 := v.toNat_lt
    rw [sc16_cons, ih, mul_oneR (Or.inr rfl)]
    congr 1
    · apply UInt8.toNat_inj.1
      rw [UInt8.toNat_ofNat']
      omega
    · congr 1
      apply UInt8.toNat_inj.1
      rw [UInt8.toNat_ofNat']
      omega
theorem sc_nil {m : Nat} (hm : Fm m) (l : List UInt8) (h : whl m l) : sc m 0 l = List.replicate l.length 0 := by
  rcases hm with rfl | rfl
  · rw [sc8_eq]
    refine List.ext_getElem (by simp) fun i h1 h2 => ?_
    rw [List.getElem_map, List.getElem_replicate, mul_zeroR]
    rfl
  · revert h
    refine pairs (P := fun l => sc 16 0 l = List.replicate l.length 0) rfl ?_ l
    intro u v l _ ih
    rw [sc16_cons, ih, mul_zeroR]
    rfl
theorem xr_comm (a b : List UInt8) : xr a b = xr b a := by
  unfold xr
  exact List.zipWith_comm_of_comm fun x y => UInt8.xor_comm x y
theorem xr_zeroR (l : List UInt8) : xr l (List.replicate l.length 0) = l := by rw [xr_comm, xr_zero]

/-- The combination of n units of s bytes. -/
def lc (m s : Nat) (a : Nat → Nat) (d : Nat → List UInt8) : Nat → List UInt8
  | 0 => List.replicate s 0
  | k + 1 => xr (lc m s a d k) (sc m (a k) (d k))
section
variable {m s n : Nat} {d : Nat → List UInt8} (hm : Fm m) (hs : s % (m / 8) = 0) (hd : ∀ k, k < n → (d k).length = s)
include hm hs hd
theorem lc_len (a : Nat → Nat) : ∀ k, k ≤ n → (lc m s a d k).length = s
  | 0, _ => by show (List.replicate s 0).length = s; simp
  | k + 1, hk => by
    have h1 := lc_len a k (by omega)
    have h2 := hd k (by omega)
    have h3 : (sc m (a k) (d k)).length = s := by rw [sc_len hm _ _ (by unfold whl; rw [h2]; exact hs), h2]
    show (xr _ _).length = s
    rw [xr_len _ _ (h1.trans h3.symm), h1]
/-- Adding a multiple of a combination. -/
theorem lc_step (a g : Nat → Nat) {c : Nat} (hc : c < 2 ^ m) (hg : ∀ j, g j < 2 ^ m) : ∀ k, k ≤ n → xr (lc m s a d k) (sc m c (lc m s g d k)) = lc m s (fun j => a j ^^^ mul m c (g j)) d k
  | 0, _ => by
    show xr (List.replicate s 0) (sc m c (List.replicate s 0)) = List.replicate s 0
    rw [sc_zero hm c s (by unfold whl; rw [List.length_replicate]; exact hs), xr_zz]
  | k + 1, hk => by
    have ih := lc_step a g hc hg k (by omega)
    have h1 := lc_len hm hs hd g k (by omega)
    have h2 := hd k (by omega)
    have hw : whl m (d k) := by unfold whl; rw [h2]; exact hs
    have h3 : (sc m (g k) (d k)).length = s := by rw [sc_len hm _ _ hw, h2]
    show xr (xr (lc m s a d k) (sc m (a k) (d k))) (sc m c (xr (lc m s g d k) (sc m (g k) (d k)))) = xr (lc m s (fun j => a j ^^^ mul m c (g j)) d k) (sc m (a k ^^^ mul m c (g k)) (d k))
    rw [sc_xr hm c _ _ (by unfold whl; rw [h1]; exact hs) (h1.trans h3.symm), xr_four, ih, sc_mul hm hc (hg k) _ hw, sc_add hm _ _ _ hw, mul_comm hm (hg k) hc]
/-- A combination with the coefficients of one unit. -/
theorem lc_unit (u : Nat) : ∀ k, k ≤ n → lc m s (fun j => if u = j then 1 else 0) d k = if u < k then d u else List.replicate s 0
  | 0, _ => by rw [if_neg (Nat.not_lt_zero _)]; rfl
  | k + 1, hk => by
    have ih := lc_unit u k (by omega)
    have h2 := hd k (by omega)
    have hw : whl m (d k) := by unfold whl; rw [h2]; exact hs
    show xr (lc m s (fun j => if u = j then 1 else 0) d k) (sc m (if u = k then 1 else 0) (d k)) = _
    rw [ih]
    by_cases e : u = k
    · subst e
      rw [if_neg (Nat.lt_irrefl _), if_pos rfl, if_pos (Nat.lt_succ_self _), sc_one hm _ hw, ← h2, xr_zero]
    · rw [if_neg e, sc_nil hm _ hw, h2]
      by_cases h : u < k
      · rw [if_pos h, if_pos (by omega), ← hd u (by omega), xr_zeroR]
      · rw [if_neg h, if_neg (by omega), xr_zz]
omit hm hs hd in
theorem lc_congr {a b : Nat → Nat} (h : ∀ j, j < n → a j = b j) : ∀ k, k ≤ n → lc m s a d k = lc m s b d k
  | 0, _ => rfl
  | k + 1, hk => by
    show xr (lc m s a d k) (sc m (a k) (d k)) = xr (lc m s b d k) (sc m (b k) (d k))
    rw [lc_congr h k (by omega), h k (by omega)]
theorem lc_none : ∀ k, k ≤ n → lc m s (fun _ => 0) d k = List.replicate s 0
  | 0, _ => rfl
  | k + 1, hk => by
    have h2 := hd k (by omega)
    show xr (lc m s (fun _ => 0) d k) (sc m 0 (d k)) = _
    rw [lc_none k (by omega), sc_nil hm _ (by unfold whl; rw [h2]; exact hs), h2, xr_zz]
/-- A sum of combinations. -/
theorem lc_sum (G : Mx) (hG : ∀ i j, G i j < 2 ^ m) : ∀ (L : List (Nat × Nat)) (a : Nat → Nat), (∀ t ∈ L, t.2 < 2 ^ m) → cmbF m (lc m s a d n) (L.map fun t => (t.2, lc m s (G t.1) d n)) = lc m s (fun j => L.foldl (fun x t => x ^^^ mul m t.2 (G t.1 j)) (a j)) d n
  | [], _, _ => rfl
  | t :: L, a, h => by
    show cmbF m (xr (lc m s a d n) (sc m t.2 (lc m s (G t.1) d n))) (L.map fun t => (t.2, lc m s (G t.1) d n)) = _
    rw [lc_step hm hs hd a (G t.1) (h t List.mem_cons_self) (hG t.1) n (Nat.le_refl _), lc_sum G hG L _ fun u hu => h u (List.mem_cons_of_mem _ hu)]
    rfl
end
/-- A combination, as the program computes it. -/
theorem cbS_lc {m : Nat} {r : List Int} {us : List (List UInt8)} (h : Gd (m : Int) r us) : cbS (m : Int) r us = lc m (ul us) (fun j => (r.getD j 0).toNat) (fun j => us.getD j []) us.length := by
  unfold cbS
  rw [if_pos h, Int.toNat_natCast]
  have key : ∀ k, k ≤ us.length → cmbK m r us k = lc m (ul us) (fun j => (r.getD j 0).toNat) (fun j => us.getD j []) k := by
    intro k
    induction k with
    | zero => intro _; rfl
    | succ k ih =>
      intro hk
      have hkr : k < r.length := by have := h.2.1; omega
      rw [cmbK_next m r us h.2.1 k (by omega), ih (by omega)]
      show _ = xr _ (sc m ((r.getD k 0).toNat) (us.getD k []))
      rw [show r.getD k 0 = r[k] by simp [List.getD_eq_getElem?_getD, hkr], show us.getD k [] = us[k] by simp [List.getD_eq_getElem?_getD, show k < us.length by omega]]
  exact key _ (Nat.le_refl _)
/-- The sum of the rows of some terms. -/
def fsum (m : Nat) (G : Mx) (L : List (Nat × Nat)) : Nat → Nat := fun j => L.foldl (fun a t => a ^^^ mul m t.2 (G t.1 j)) 0
theorem fsum_snoc (m : Nat) (G : Mx) (L : List (Nat × Nat)) (t : Nat × Nat) (j : Nat) : fsum m G (L ++ [t]) j = fsum m G L j ^^^ mul m t.2 (G t.1 j) := by
  unfold fsum
  rw [List.foldl_append]
  rfl
theorem fsum_tms (m : Nat) (G : Mx) (B : List Nat) (c : Nat → Nat) (j : Nat) : ∀ p, fsum m G (tms B c p) j = sm p fun k => mul m (c k) (G (B.getD k 0) j)
  | 0 => rfl
  | p + 1 => by
    show fsum m G (if c p = 0 then tms B c p else tms B c p ++ [(B.getD p 0, c p)]) j = (sm p fun k => mul m (c k) (G (B.getD k 0) j)) ^^^ mul m (c p) (G (B.getD p 0) j)
    split
    · next h => rw [h, mul_zeroL, Nat.xor_zero]; exact fsum_tms m G B c j p
    · rw [fsum_snoc, fsum_tms m G B c j p]
theorem fsum_lt {m : Nat} (hm : Fm m) (G : Mx) (j : Nat) (L : List (Nat × Nat)) (h : ∀ t ∈ L, t.2 < 2 ^ m) : fsum m G L j < 2 ^ m := by
  have key : ∀ (L : List (Nat × Nat)) (a : Nat), a < 2 ^ m → (∀ t ∈ L, t.2 < 2 ^ m) → L.foldl (fun a t => a ^^^ mul m t.2 (G t.1 j)) a < 2 ^ m := by
    intro L
    induction L with
    | nil => intro a ha _; exact ha
    | cons t r ih => intro a ha h; exact ih _ (Nat.xor_lt_two_pow ha (mul_lt hm _ (h t List.mem_cons_self))) fun u hu => h u (List.mem_cons_of_mem _ hu)
  exact key L 0 (Nat.two_pow_pos m) h
theorem tms_inc {B : List Nat} {c : Nat → Nat} (hB : ∀ i l, i < l → l < B.length → B.getD i 0 < B.getD l 0) : ∀ p, p ≤ B.length → (tms B c p).Pairwise fun a b => a.1 < b.1
  | 0, _ => List.Pairwise.nil
  | p + 1, h => by
    show (if c p = 0 then tms B c p else tms B c p ++ [(B.getD p 0, c p)]).Pairwise _
    split
    · exact tms_inc hB p (by omega)
    · refine List.pairwise_append.2 ⟨tms_inc hB p (by omega), List.pairwise_singleton _ _, fun a ha b hb => ?_⟩
      rw [List.mem_singleton] at hb
      subst hb
      obtain ⟨i, hi, rfl, _⟩ := tms_mem ha
      exact hB i p hi (by omega)
theorem coef_facts {x : Cd} {m n : Nat} (h : VC x m n) {hs : List Bool} {u : Nat} (hr : recov x hs u) :
    (∀ t ∈ tms (basL x hs) (cofU x hs u) (basL x hs).length, t.1 < hs.length ∧ hs.getD t.1 false = true ∧ t.2 < 2 ^ m ∧ t.2 ≠ 0) ∧ (tms (basL x hs) (cofU x hs u) (basL x hs).length).Pairwise (fun a b => a.1 < b.1) ∧ (∀ j, j < n → fsum m (gC x) (tms (basL x hs) (cofU x hs u) (basL x hs).length) j = gC x u j) ∧ (tms (basL x hs) (cofU x hs u) (basL x hs).length).length ≤ 32 := by
  have hd := (recov_vc h hs u).1 hr
  have hc := cof_spec hd
  rw [cofU_vc h]
  have hbs : ∀ i, i < (basL x hs).length → (basL x hs).getD i 0 < hs.length ∧ hs.getD ((basL x hs).getD i 0) false = true := fun i hi => by
    rw [basL_vc h] at hi ⊢
    exact bas_at hi
  have hinc : ∀ i l, i < l → l < (basL x hs).length → (basL x hs).getD i 0 < (basL x hs).getD l 0 := fun i l h1 h2 => by
    rw [basL_vc h] at h2 ⊢
    exact bas_inc _ i l h1 h2
  refine ⟨fun t ht => ?_, tms_inc hinc _ (Nat.le_refl _), fun j hj => ?_, ?_⟩
  · obtain ⟨i, hi, rfl, h0⟩ := tms_mem ht
    exact ⟨(hbs i hi).1, (hbs i hi).2, hc.1 i, h0⟩
  · rw [fsum_tms]
    exact (hc.2.1 j hj).symm
  · have h1 := tms_len (basL x hs) (cof m n (basL x hs).length (sel (gC x) (basL x hs)) (gC x u)) (basL x hs).length
    have h2 : (basL x hs).length ≤ n := by rw [basL_vc h]; exact bas_le (n := n) (hv := hvF hs) h.fm (gC_v h) hs.length
    have := h.wid
    omega

theorem getD_app {α : Type} (a b : List α) (z : α) {i : Nat} (h : i < a.length) : (a ++ b).getD i z = a.getD i z := by
  rw [List.getD_eq_getElem?_getD, List.getElem?_append_left h, ← List.getD_eq_getElem?_getD]
theorem getD_appR {α : Type} (a b : List α) (z : α) {i : Nat} (h : a.length ≤ i) : (a ++ b).getD i z = b.getD (i - a.length) z := by
  rw [List.getD_eq_getElem?_getD, List.getElem?_append_right h, ← List.getD_eq_getElem?_getD]
theorem alk_iff8 (m : Nat) (us : List (List UInt8)) : alk m us = true ↔ ∀ u ∈ us, u.length = ul us ∧ u.length % (m / 8) = 0 := by
  unfold alk
  rw [List.all_eq_true]
  exact ⟨fun h u hu => of_decide_eq_true (h u hu), fun h u hu => decide_eq_true (h u hu)⟩
/-- A unit of a stripe is the combination of the data units with the unit's row. -/
theorem enc_unit {x : Cd} {m n : Nat} (h : VC x m n) {us : List (List UInt8)} (hn : us.length = n) (hal : alk m us = true) {u : Nat} (hu : u < n + x.par.length) :
    (us ++ x.par.map (fun r => cbS x.field r us)).getD u [] = lc m (ul us) (gC x u) (fun j => us.getD j []) n := by
  have hA := (alk_iff8 m us).1 hal
  have hpos := h.pos
  have hs : ul us % (m / 8) = 0 := by
    have h1 := hA us[0] (List.getElem_mem (by omega))
    rw [← h1.1]; exact h1.2
  have hd : ∀ k, k < n → ((fun j => us.getD j []) k).length = ul us := fun k hk => by
    show (us.getD k []).length = _
    rw [show us.getD k [] = us[k] by simp [List.getD_eq_getElem?_getD, show k < us.length by omega]]
    exact (hA _ (List.getElem_mem _)).1
  by_cases hun : u < n
  · rw [lc_congr (n := n) (b := fun j => if u = j then 1 else 0) (fun j _ => by unfold gC; rw [h.dn, if_pos hun]) n (Nat.le_refl _), lc_unit h.fm hs hd u n (Nat.le_refl _), if_pos hun]
    rw [getD_app _ _ _ (by omega)]
  · obtain ⟨k, rfl⟩ : ∃ k, u = n + k := ⟨u - n, by omega⟩
    have hk : k < x.par.length := by omega
    rw [getD_appR _ _ _ (by omega), hn, Nat.add_sub_cancel_left]
    rw [show (x.par.map (fun r => cbS x.field r us)).getD k [] = cbS x.field x.par[k] us by simp [List.getD_eq_getElem?_getD, hk]]
    obtain ⟨q1, q2, _⟩ := h.row _ (List.getElem_mem hk)
    rw [h.f] at q2 ⊢
    rw [cbS_lc (alk_gd (q1.trans hn.symm) (by omega) q2 hal), hn]
    refine lc_congr (n := n) (fun j _ => ?_) n (Nat.le_refl _)
    unfold gC
    rw [h.dn, if_neg (by omega), Nat.add_sub_cancel_left, show x.par.getD k [] = x.par[k] by simp [List.getD_eq_getElem?_getD, hk]]
theorem row_some {x : Cd} {m n : Nat} (h : VC x m n) {u : Nat} (hu : u < n + x.par.length) : ∃ j, j < n ∧ gC x u j ≠ 0 := by
  by_cases hun : u < n
  · exact ⟨u, hun, by unfold gC; rw [h.dn, if_pos hun, if_pos rfl]; decide⟩
  · obtain ⟨k, rfl⟩ : ∃ k, u = n + k := ⟨u - n, by omega⟩
    have hk : k < x.par.length := by omega
    obtain ⟨q1, _, a, ha, h0⟩ := h.row _ (List.getElem_mem hk)
    obtain ⟨j, hj, rfl⟩ := List.getElem_of_mem ha
    refine ⟨j, by omega, fun hz => h0 ?_⟩
    have := gC_par h hk (show j < n by omega)
    rw [hz] at this
    exact this.symm
/-- The sum of a recoverable unit's terms is the unit. -/
theorem sum_unit {x : Cd} {m n : Nat} (h : VC x m n) {us : List (List UInt8)} (hn : us.length = n) (hal : alk m us = true) {hs : List Bool} (hl : hs.length = n + x.par.length) {units : List (List UInt8)}
    (hp : ∀ i, i < hs.length → hs.getD i false = true → units.getD i [] = (us ++ x.par.map (fun r => cbS x.field r us)).getD i []) {u : Nat} (hu : u < hs.length) (hr : recov x hs u) :
    sumR x.field (trmR x hs u).1 units = (us ++ x.par.map (fun r => cbS x.field r us)).getD u [] := by
  have hA := (alk_iff8 m us).1 hal
  have hpos := h.pos
  have hsz : ul us % (m / 8) = 0 := by
    have h1 := hA us[0] (List.getElem_mem (by omega))
    rw [← h1.1]; exact h1.2
  have hd : ∀ k, k < n → ((fun j => us.getD j []) k).length = ul us := fun k hk => by
    show (us.getD k []).length = _
    rw [show us.getD k [] = us[k] by simp [List.getD_eq_getElem?_getD, show k < us.length by omega]]
    exact (hA _ (List.getElem_mem _)).1
  obtain ⟨z1, _, z3, _⟩ := coef_facts h hr
  have ht : (trmR x hs u).1 = tms (basL x hs) (cofU x hs u) (basL x hs).length := by unfold trmR; rw [if_pos hr]
  rw [ht, enc_unit h hn hal (by omega)]
  generalize tms (basL x hs) (cofU x hs u) (basL x hs).length = L at *
  have hne : L ≠ [] := by
    rintro rfl
    obtain ⟨j, hj, h0⟩ := row_some h (u := u) (by omega)
    exact h0 (z3 j hj).symm
  have hL0 : 0 < L.length := List.length_pos_iff.2 hne
  have hun : ∀ t ∈ L, units.getD t.1 [] = lc m (ul us) (gC x t.1) (fun j => us.getD j []) n := fun t ht => by
    obtain ⟨w1, w2, _⟩ := z1 t ht
    rw [hp t.1 w1 w2, enc_unit h hn hal (by omega)]
  have hln : ∀ t ∈ L, (units.getD t.1 []).length = ul us := fun t ht => by rw [hun t ht, lc_len h.fm hsz hd _ n (Nat.le_refl _)]
  have hulL : ul (L.map fun t => units.getD t.1 []) = ul us := by
    rw [← ul_zero _ (by rw [List.length_map]; exact hL0), List.getElem_map]
    exact hln _ (List.getElem_mem _)
  have hg : Gd (m : Int) (L.map fun t => (t.2 : Int)) (L.map fun t => units.getD t.1 []) := by
    refine ⟨by rw [List.length_map]; exact hL0, by rw [List.length_map, List.length_map], fun c hc => ?_, fun v hv => ?_, by rw [hulL, Int.toNat_natCast]; exact hsz⟩
    · obtain ⟨t, ht, rfl⟩ := List.mem_map.1 hc
      exact vd_true h.fm (z1 t ht).2.2.1
    · obtain ⟨t, ht, rfl⟩ := List.mem_map.1 hv
      rw [hulL]; exact hln t ht
  unfold sumR
  rw [h.f, cbS_is hg, hulL, List.map_map]
  have e1 : (List.map (Int.toNat ∘ fun t : Nat × Nat => (t.2 : Int)) L).zip (L.map fun t => units.getD t.1 []) = L.map fun t => (t.2, lc m (ul us) (gC x t.1) (fun j => us.getD j []) n) := by
    rw [List.zip_map']
    exact List.map_congr_left fun t ht => by rw [hun t ht]; rfl
  rw [e1, ← lc_none h.fm hsz hd n (Nat.le_refl _), lc_sum h.fm hsz hd (gC x) (fun i j => gC_v h i j) L _ fun t ht => (z1 t ht).2.2.1]
  exact lc_congr z3 n (Nat.le_refl _)
theorem presK_at {us : List (List UInt8)} {hs : List Bool} : ∀ {k : Nat} {u : List UInt8}, u ∈ presK us hs k → ∃ i, i < k ∧ hs.getD i false = true ∧ u = us.getD i []
  | 0, u, h => by cases h
  | k + 1, u, h => by
    by_cases h0 : hs.getD k false = true
    · rw [show presK us hs (k + 1) = presK us hs k ++ [us.getD k []] from if_pos h0] at h
      rcases List.mem_append.1 h with h | h
      · obtain ⟨i, h1, h2⟩ := presK_at h
        exact ⟨i, by omega, h2⟩
      · rw [List.mem_singleton] at h
        exact ⟨k, Nat.lt_succ_self k, h0, h⟩
    · rw [show presK us hs (k + 1) = presK us hs k from if_neg h0] at h
      obtain ⟨i, h1, h2⟩ := presK_at h
      exact ⟨i, by omega, h2⟩
/-- What Recover and Decode answer about a stripe, some of whose units were lost. -/
theorem round_trip {x : Cd} {m n : Nat} (h : VC x m n) {us : List (List UInt8)} (hn : us.length = n) (hal : alk m us = true) {hs : List Bool} (hok : okB x hs = true) (hl : hs.length = n + x.par.length) {units : List (List UInt8)} (hul : units.length = hs.length)
    (hp : ∀ i, i < hs.length → hs.getD i false = true → units.getD i [] = (us ++ x.par.map (fun r => cbS x.field r us)).getD i []) :
    (∀ i, i < hs.length → recov x hs i → recR x units hs (i : Int) = ((us ++ x.par.map (fun r => cbS x.field r us)).getD i [], 0)) ∧
    (∀ i, i < hs.length → ¬ recov x hs i → (recR x units hs (i : Int)).2 = 11 ∧ hs.getD i false = false) ∧
    ((∀ i, i < hs.length → recov x hs i) ↔ (basL x hs).length = nC x) ∧
    ((basL x hs).length = nC x → decR x units hs = (us ++ x.par.map (fun r => cbS x.field r us), 0)) ∧
    (¬ (basL x hs).length = nC x → decR x units hs = ([], 11)) := by
  have hG := gC_v h
  have hA := (alk_iff8 m us).1 hal
  have hpos := h.pos
  have hsz : ul us % (m / 8) = 0 := by
    have h1 := hA us[0] (List.getElem_mem (by omega))
    rw [← h1.1]; exact h1.2
  have hd : ∀ k, k < n → ((fun j => us.getD j []) k).length = ul us := fun k hk => by
    show (us.getD k []).length = _
    rw [show us.getD k [] = us[k] by simp [List.getD_eq_getElem?_getD, show k < us.length by omega]]
    exact (hA _ (List.getElem_mem _)).1
  have hread : readB x units hs = true := by
    unfold readB perB
    have hv : vC x = true := by unfold okB at hok; rw [Bool.and_eq_true] at hok; exact hok.1
    rw [Bool.and_eq_true]
    refine ⟨decide_eq_true (by unfold wC; rw [if_pos hv, h.d]; omega), ?_⟩
    show alk x.field.toNat _ = true
    rw [h.fn]
    have hpl : ∀ u ∈ presK units hs units.length, u.length = ul us := fun u hu => by
      obtain ⟨i, h1, h2, rfl⟩ := presK_at hu
      rw [hp i (by omega) h2, enc_unit h hn hal (by omega)]
      exact lc_len h.fm hsz hd _ n (Nat.le_refl _)
    rw [alk_iff8]
    intro u hu
    have h0 : 0 < (presK units hs units.length).length := List.length_pos_of_mem hu
    have e : ul (presK units hs units.length) = ul us := by
      rw [← ul_zero _ h0]
      exact hpl _ (List.getElem_mem _)
    rw [e, hpl u hu]
    exact ⟨rfl, hsz⟩
  have hsum := fun u (hu : u < hs.length) (hr : recov x hs u) => sum_unit h hn hal hl hp hu hr
  have hidx : ∀ i : Nat, i < hs.length → idxB hs (i : Int) = true := fun i hi => decide_eq_true (by omega)
  have hfull : (∀ i, i < hs.length → recov x hs i) ↔ (basL x hs).length = nC x := by
    simp only [recov_vc h]
    rw [show nC x = n from h.dn, basL_vc h]
    constructor
    · intro hr
      refine Nat.le_antisymm (bas_le h.fm hG hs.length) ?_
      have hI : Ind m n n idm := fun c hc h0 k hk => by
        have := h0 k hk
        unfold cb at this
        rw [sm_one hk (fun i _ hne => by unfold idm; rw [if_neg hne, mul_zeroR])] at this
        unfold idm at this
        rw [if_pos rfl, mul_oneR h.fm] at this
        exact this
      refine Ind.exchange (U := sel (gC x) (bas m n (gC x) (hvF hs) hs.length)) h.fm (idm_v h.fm) (fun i j => hG _ j) hI fun k hk => ?_
      exact (hr k (by omega)).congr (fun _ _ _ _ => rfl) fun j hj => by unfold gC idm; rw [h.dn, if_pos hk]
    · intro hf i _
      exact bas_full h.fm hG hf (hG i)
  refine ⟨fun i hi hr => ?_, fun i hi hr => ?_, hfull, fun hf => ?_, fun hf => ?_⟩
  · unfold recR
    rw [if_pos ⟨hok, hidx i hi, hread⟩, Int.toNat_natCast, if_pos (by unfold trmR; rw [if_pos hr]), hsum i hi hr]
  · refine ⟨?_, ?_⟩
    · unfold recR
      have ht : (trmR x hs i).2 = 11 := by unfold trmR; rw [if_neg hr]
      rw [if_pos ⟨hok, hidx i hi, hread⟩, Int.toNat_natCast, if_neg (by rw [ht]; decide)]
      exact ht
    · cases hb : hs.getD i false with
      | false => rfl
      | true => exact absurd ((recov_vc h hs i).2 (by rw [basL_vc h]; exact bas_span h.fm hG hs.length i hi hb)) hr
  · unfold decR
    rw [if_pos ⟨hok, hread⟩, if_pos hf]
    congr 1
    refine List.ext_getElem? fun i => ?_
    by_cases hi : i < hs.length
    · rw [List.getElem?_map, List.getElem?_range (by omega)]
      show some (sumR x.field (trmR x hs i).1 units) = _
      rw [hsum i hi (hfull.2 hf i hi), List.getD_eq_getElem?_getD, List.getElem?_eq_getElem (by rw [List.length_append, List.length_map]; omega)]
      rfl
    · rw [List.getElem?_eq_none (by rw [List.length_map, List.length_range]; omega), List.getElem?_eq_none (by rw [List.length_append, List.length_map]; omega)]
  · unfold decR
    rw [if_pos ⟨hok, hread⟩, if_neg hf]

end Go.Proofs.YtpjgmekpnlpjaaaDoor
