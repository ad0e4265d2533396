/-
  The comparisons of the specification: SameInts, SameTexts.
  The reference's Generator, walked.
  The reference's Encode, walked.
-/
import Derived.Test.YtpjgmekpnlpjaaaDoorEreA
import Derived.Test.YtpjgmekpnlpjaaaDoorEraJ
import Derived.Test.YtpjgmekpnlpjaaaDoorEraH
namespace Go.Proofs.YtpjgmekpnlpjaaaDoor
open Go.RowKit
set_option linter.unusedVariables false
set_option linter.unusedSimpArgs false

theorem s_neq (T : TypeId) (a b : List UInt8) : binOp .neq T (.string (str a)) (.string (str b)) = pure (.bool (decide (a ≠ b))) := by
  have h : decide (a ≠ b) = !(a == b) := by rw [Bool.eq_iff_iff, decide_eq_true_iff, Bool.not_eq_true', beq_eq_false_iff_ne]
  rw [h, binOp_string_neq, Lib.toList_data, Lib.toList_data, str_list, str_list]
theorem ret_b8 {a b : Bool} (h : a = b) : Ending.returned (.bool a) = Ending.returned (.bool b) := by rw [h]

set_option maxHeartbeats 400000 in
set_option maxRecDepth 100000 in
theorem sameInts_any (xs ys : List Int) (A A' : Option Addr) (c c' : Nat) (w : World) (hx : Sl w w.heap.size A 1 xs.length (xs.map iv)) (hy : Sl w w.heap.size A' 1 ys.length (ys.map iv)) (hlx : xs.length ≤ 100000) :
    Calls Tryd.prog 18 #[.slice A xs.length c, .slice A' ys.length c'] w fun e w' => e = .returned (.bool (decide (xs = ys))) ∧ ∃ n, w' = w.drewN n := by
  have HX := hideIt hx
  have HY := hideIt hy
  clear hx hy
  by_cases hl : xs.length = ys.length
  · have Hl := hideIt hl
    have ht : binOp .neq 3 (.int .i64 (xs.length : Int)) (.int .i64 (ys.length : Int)) = pure (.bool false) := by rw [i_neq, decide_eq_false (by omega)]
    clear hl
    go_enter Tryd.func18, Tryd.ntmps18
    go_wp2_with fail
    go_loopg [4, 5] xs.length (fun g s4 s5 wr => ∃ k : Nat, g + k = xs.length ∧ s4 = .bool false ∧ s5 = .int .i64 k ∧ Aside (xs.take k = ys.take k ∧ ∃ n, wr = w.drewN n))
    case atStart => exact ⟨0, by omega, rfl, rfl, by simp, 0, rfl⟩
    case round =>
      obtain ⟨k, hg, rfl, rfl, HA⟩ := hrel
      obtain ⟨n0, hn0⟩ := HA.out.2
      have HT := hideIt HA.out.1
      clear HA
      by_cases hk : k < xs.length
      · have hk' : k < ys.length := by have := Hl.out; omega
        obtain ⟨b, off, u, rfl, hb, hu, hc⟩ := HX.out.at_ hk
        obtain ⟨b', off', u', rfl, hb', hu', hc'⟩ := HY.out.at_ hk'
        rw [List.getElem?_map, List.getElem?_eq_getElem hk] at hu
        rw [List.getElem?_map, List.getElem?_eq_getElem hk'] at hu'
        injection hu with hu
        injection hu' with hu'
        subst hu hu'
        have hc1 : wr.cell? ⟨b, off + k, none⟩ = some (.int .i64 xs[k]) := by rw [hn0]; exact hc
        have hc2 : wr.cell? ⟨b', off' + k, none⟩ = some (.int .i64 ys[k]) := by rw [hn0]; exact hc'
        have HN := hideIt hn0
        have hki : (k : Int) < (xs.length : Int) := by omega
        have hki2 : (k : Int) < (ys.length : Int) := by omega
        have hinc := inc_c 3 k (by omega)
        have HTX := hideIt (take_snoc xs k hk)
        have HTY := hideIt (take_snoc ys k hk')
        by_cases he : xs[k] = ys[k]
        · have HE := hideIt he
          have hne : binOp .neq 3 (.int .i64 xs[k]) (.int .i64 ys[k]) = pure (.bool false) := by rw [i_neq, decide_eq_false (fun h => h he)]
          clear he hn0 hc hc' hb hb'
          go_wp2_with fail
          go_quiet (fail)
          go_wp2_with fail
          go_roundg (gk - 1)
          case measure => omega
          case rel => exact ⟨k + 1, by omega, rfl, by go_num, by rw [HTX.out, HTY.out, HT.out, HE.out], by rw [HN.out]; exact ⟨_, World.drewN_drewN _ _ _⟩⟩
        · have HE := hideIt he
          have hne : binOp .neq 3 (.int .i64 xs[k]) (.int .i64 ys[k]) = pure (.bool true) := by rw [i_neq, decide_eq_true he]
          clear he hn0 hc hc' hb hb'
          go_wp2_with fail
          go_quiet (fail)
          go_wp2_with fail
          go_ret
          exact ⟨ret_b (decide_eq_false fun h => HE.out (by subst h; rfl)).symm, by rw [HN.out]; exact ⟨_, World.drewN_drewN _ _ _⟩⟩
      · have hki : ¬ (k : Int) < (xs.length : Int) := by omega
        go_wp2_with fail
        go_ret
        have hkl : k = xs.length := by omega
        have := HT.out
        rw [hkl, List.take_length, Hl.out, List.take_length] at this
        exact ⟨ret_b (decide_eq_true this).symm, n0, rfl⟩
  · have ht : binOp .neq 3 (.int .i64 (xs.length : Int)) (.int .i64 (ys.length : Int)) = pure (.bool true) := by rw [i_neq, decide_eq_true (by omega)]
    have Hl := hideIt hl
    clear hl
    go_enter Tryd.func18, Tryd.ntmps18
    go_wp2_with fail
    go_ret
    exact ⟨ret_b (decide_eq_false fun h => Hl.out (by rw [h])).symm, 0, rfl⟩

set_option maxHeartbeats 400000 in
set_option maxRecDepth 100000 in
theorem sameTexts_any (xs ys : List (List UInt8)) (A A' : Option Addr) (c c' : Nat) (w : World) (hx : Sl w w.heap.size A 1 xs.length (xs.map sv)) (hy : Sl w w.heap.size A' 1 ys.length (ys.map sv)) (hlx : xs.length ≤ 100000) :
    Calls Tryd.prog 23 #[.slice A xs.length c, .slice A' ys.length c'] w fun e w' => e = .returned (.bool (decide (xs = ys))) ∧ ∃ n, w' = w.drewN n := by
  have HX := hideIt hx
  have HY := hideIt hy
  clear hx hy
  by_cases hl : xs.length = ys.length
  · have Hl := hideIt hl
    have ht : binOp .neq 3 (.int .i64 (xs.length : Int)) (.int .i64 (ys.length : Int)) = pure (.bool false) := by rw [i_neq, decide_eq_false (by omega)]
    clear hl
    go_enter Tryd.func23, Tryd.ntmps23
    go_wp2_with fail
    go_loopg [4, 5] xs.length (fun g s4 s5 wr => ∃ k : Nat, g + k = xs.length ∧ s4 = .bool false ∧ s5 = .int .i64 k ∧ Aside (xs.take k = ys.take k ∧ ∃ n, wr = w.drewN n))
    case atStart => exact ⟨0, by omega, rfl, rfl, by simp, 0, rfl⟩
    case round =>
      obtain ⟨k, hg, rfl, rfl, HA⟩ := hrel
      obtain ⟨n0, hn0⟩ := HA.out.2
      have HT := hideIt HA.out.1
      clear HA
      by_cases hk : k < xs.length
      · have hk' : k < ys.length := by have := Hl.out; omega
        obtain ⟨b, off, u, rfl, hb, hu, hc⟩ := HX.out.at_ hk
        obtain ⟨b', off', u', rfl, hb', hu', hc'⟩ := HY.out.at_ hk'
        rw [List.getElem?_map, List.getElem?_eq_getElem hk] at hu
        rw [List.getElem?_map, List.getElem?_eq_getElem hk'] at hu'
        injection hu with hu
        injection hu' with hu'
        subst hu hu'
        have hc1 : wr.cell? ⟨b, off + k, none⟩ = some (.string (str xs[k])) := by rw [hn0]; exact hc
        have hc2 : wr.cell? ⟨b', off' + k, none⟩ = some (.string (str ys[k])) := by rw [hn0]; exact hc'
        have HN := hideIt hn0
        have hki : (k : Int) < (xs.length : Int) := by omega
        have hki2 : (k : Int) < (ys.length : Int) := by omega
        have hinc := inc_c 3 k (by omega)
        have HTX := hideIt (take_snoc xs k hk)
        have HTY := hideIt (take_snoc ys k hk')
        by_cases he : xs[k] = ys[k]
        · have HE := hideIt he
          have hne : binOp .neq 9 (.string (str xs[k])) (.string (str ys[k])) = pure (.bool false) := by rw [s_neq, decide_eq_false (fun h => h he)]
          clear he hn0 hc hc' hb hb'
          go_wp2_with fail
          go_quiet (fail)
          go_wp2_with fail
          go_roundg (gk - 1)
          case measure => omega
          case rel => exact ⟨k + 1, by omega, rfl, by go_num, by rw [HTX.out, HTY.out, HT.out, HE.out], by rw [HN.out]; exact ⟨_, World.drewN_drewN _ _ _⟩⟩
        · have HE := hideIt he
          have hne : binOp .neq 9 (.string (str xs[k])) (.string (str ys[k])) = pure (.bool true) := by rw [s_neq, decide_eq_true he]
          clear he hn0 hc hc' hb hb'
          go_wp2_with fail
          go_quiet (fail)
          go_wp2_with fail
          go_ret
          exact ⟨ret_b (decide_eq_false fun h => HE.out (by subst h; rfl)).symm, by rw [HN.out]; exact ⟨_, World.drewN_drewN _ _ _⟩⟩
      · have hki : ¬ (k : Int) < (xs.length : Int) := by omega
        go_wp2_with fail
        go_ret
        have hkl : k = xs.length := by omega
        have := HT.out
        rw [hkl, List.take_length, Hl.out, List.take_length] at this
        exact ⟨ret_b (decide_eq_true this).symm, n0, rfl⟩
  · have ht : binOp .neq 3 (.int .i64 (xs.length : Int)) (.int .i64 (ys.length : Int)) = pure (.bool true) := by rw [i_neq, decide_eq_true (by omega)]
    have Hl := hideIt hl
    clear hl
    go_enter Tryd.func23, Tryd.ntmps23
    go_wp2_with fail
    go_ret
    exact ⟨ret_b (decide_eq_false fun h => Hl.out (by rw [h])).symm, 0, rfl⟩

/-- The first k rows. -/
def rowsK (x : Cd) (n k : Nat) : List Int := nl (k * n) fun i => gC x (i / n) (i % n)
theorem rowsK_next (x : Cd) (n k : Nat) (hn : 0 < n) : rowsK x n (k + 1) = rowsK x n k ++ nl n (gC x k) := by
  unfold rowsK
  have e1 : (k + 1) * n = k * n + n := by rw [Nat.add_mul, Nat.one_mul]
  refine List.ext_getElem (by rw [nl_len, List.length_append, nl_len, nl_len, e1]) fun i h1 h2 => ?_
  rw [nl_len] at h1
  rw [nl_get]
  by_cases hi : i < k * n
  · rw [List.getElem_append_left (by rw [nl_len]; exact hi), nl_get]
  · rw [List.getElem_append_right (by rw [nl_len]; omega)]
    obtain ⟨j, rfl⟩ : ∃ j, i = k * n + j := ⟨i - k * n, by omega⟩
    have hj : j < n := by omega
    simp only [nl_len, Nat.add_sub_cancel_left]
    rw [ix_div hj, ix_mod hj, nl_get]
theorem rrow_own {x : Cd} {m n : Nat} (hvc : VC x m n) (A : Option Addr) (c : Nat) (w : World) (hx : CIn w x A) (u : Nat) (hu : u < n + x.par.length) :
    Calls Tryd.prog 38 #[x.v A c, .int .i64 (u : Int)] w fun e w' => ∃ b cb, e = .returned (.slice (some ⟨b, 0, none⟩) n cb) ∧ w'.ownsRow w.heap.size 3 1 (.slice (some ⟨b, 0, none⟩) n cb) n ((nl n (gC x u)).map iv) ∧ Below w.heap.size w w' := by
  refine (rrow_any hvc A c w hx u hu).mono ?_
  rintro e w' ⟨v, rfl, ho, hb⟩
  rw [nl_len] at ho
  rcases ho.2 with ⟨_, h0⟩ | ⟨g, cap, cur, hv, _⟩
  · have := hvc.pos; omega
  · subst hv
    exact ⟨g, cap, rfl, ho, hb⟩

set_option maxHeartbeats 500000 in
set_option maxRecDepth 100000 in
theorem rgen_any (x : Cd) (A : Option Addr) (c : Nat) (w : World) (hx : CIn w x A) (hsm : Sm x) :
    Calls Tryd.prog 15 #[x.v A c] w (MRes w (genR x)) := by
  obtain ⟨W, hW⟩ : ∃ W, W = w.alloc (.cells (x.cs A c).toArray 24) := ⟨_, rfl⟩
  have hbw : Below w.heap.size w W := by rw [hW]; exact below_new w _
  have hWs : W.heap.size = w.heap.size + 1 := by rw [hW]; simp
  have HBC0 := show BC W w.heap.size x A c by rw [hW]; exact BC.new c hx
  obtain ⟨W2, hW2⟩ : ∃ W2, W2 = W.alloc (.cells (mtC 0 0 0 (.slice none 0 0)).toArray 31) := ⟨_, rfl⟩
  have hbw2 : Below w.heap.size w W2 := by rw [hW2]; exact la7 hbw
  have HB := hideIt hbw2
  have HBC := hideIt (show BC W2 w.heap.size x A c by rw [hW2]; exact HBC0.keep (below_new W _))
  have HPR := hideIt (show Blk W2 (w.heap.size + 1) 31 (mtC 0 0 0 (.slice none 0 0)) by rw [hW2, ← hWs]; exact Blk.new W 31 (mtC 0 0 0 (.slice none 0 0)))
  have HV := hideIt (rwidth_any x A c W2 HBC.out.cin hsm)
  have hnot := not_b
  have HPL := hideIt (show w.heap.size ≤ w.heap.size + 1 by omega)
  have HWE := hideIt (show W2 = (w.alloc (.cells (x.cs A c).toArray 24)).alloc (.cells (mtC 0 0 0 (.slice none 0 0)).toArray 31) by rw [hW2, hW])
  clear hW hW2 hbw hbw2 hWs HBC0 hx
  cases q1 : vC x with
  | true =>
    obtain ⟨m, n, hvc⟩ := vC_spec q1
    have hw : wC x = ((n + x.par.length : Nat) : Int) := by unfold wC; rw [if_pos q1, hvc.d]; push_cast; rfl
    rw [hw] at HV
    have HR := hideIt (show genR x = (mkM m (n + x.par.length) n (gC x), 0) by unfold genR genM; rw [if_pos q1, hvc.fn, hvc.dn])
    have HN32 := hideIt hvc.wid
    have hN0 := hvc.pos
    have hN32 := hvc.wid
    have hn32 : n ≤ 32 := by omega
    obtain ⟨N, hN⟩ : ∃ N, N = n + x.par.length := ⟨_, rfl⟩
    have HRO := hideIt (fun (W : World) (h : Below W2.heap.size W2 W) u (hu : u < N) => rrow_own hvc A c W (HBC.out.cin.keep h) u (by rw [← hN]; exact hu))
    have HD0 := hideIt hvc.d
    have HF0 := hideIt hvc.f
    have HC2 := hideIt (fun (W : World) (h : Below W2.heap.size W2 W) => show W.cell? ⟨w.heap.size, 2, none⟩ = some (.int .i64 (n : Int)) by rw [← HD0.out]; exact (HBC.out.keep h).c2)
    have HC1 := hideIt (fun (W : World) (h : Below W2.heap.size W2 W) => show W.cell? ⟨w.heap.size, 1, none⟩ = some (.int .i64 (m : Int)) by rw [← HF0.out]; exact (HBC.out.keep h).c1)
    have hne := i_eql 3 .i64 (N : Int) 0
    rw [decide_eq_false (by omega)] at hne
    rw [← hN] at HV HR hN32
    clear q1 hvc hw hN
    go_enter Tryd.func15, Tryd.ntmps15
    go_wp2_with (first
      | (go_at_call 22; rw [← HWE.out]; refine HV.out.mono ?_; rintro e w1 ⟨rfl, hb1⟩; have HB1 := hideIt hb1; have c11 := HC1.out _ hb1; have c12 := HC2.out _ hb1; clear hb1 HV))
    clear c11 c12
    go_loopg [6] N (fun gk s6 wr => ∃ (k : Nat) (v : Value), k + gk = N ∧ s6 = .int .i64 (k : Int) ∧ Aside (Below w1.heap.size w1 wr) ∧ Aside (Blk wr w1.heap.size 31 (mtC (m : Int) (N : Int) (n : Int) v)) ∧ Aside (wr.ownsRow (w1.heap.size + 1) 3 1 v (k * n) ((rowsK x n k).map iv)))
    case atStart => exact ⟨0, .slice none 0 0, by omega, rfl, below_new w1 _, Blk.new w1 31 (mtC (m : Int) (N : Int) (n : Int) (.slice none 0 0)), by
      have : rowsK x n 0 = [] := by unfold rowsK; rw [Nat.zero_mul]; rfl
      rw [this, Nat.zero_mul]
      exact World.ownsRow_nil _ _ _ _⟩
    case round =>
      obtain ⟨k, v, hk, rfl, HLW, HBX, HO⟩ := hrel
      obtain ⟨w4, rfl⟩ : ∃ x, x = wr := ⟨wr, rfl⟩
      obtain ⟨A5, c5, hv5, _, _⟩ := own_form HO.out
      subst hv5
      have HW4 := hideIt (HB1.out.trans (HLW.out.mono HB1.out.size))
      by_cases hlt : k < N
      · have HTK := hideIt (rowsK_next x n k hN0)
        have hkn : k * n ≤ 32 * 32 := Nat.mul_le_mul (by omega) (by omega)
        have hinc := inc_c 3 k (by omega)
        have hji : (k : Int) < (N : Int) := by omega
        have HKN := hideIt (show (k + 1) * n = k * n + n by rw [Nat.add_mul, Nat.one_mul])
        have HR4 := hideIt (fun W (h : Below w4.heap.size w4 W) => HRO.out W (HW4.out.trans (h.mono HW4.out.size)) k hlt)
        have HBK := hideIt (HBC.out.keep HW4.out).box
        have HLT := hideIt (show w.heap.size < w1.heap.size ∧ w1.heap.size + 1 ≤ w4.heap.size from ⟨Nat.lt_of_lt_of_le HBC.out.box.lt HB1.out.size, HBX.out.lt⟩)
        generalize k * n = kn at *
        have c3 : w4.cell? ⟨w1.heap.size, 3, none⟩ = some (.slice A5 kn c5) := HBX.out.cell 3
        clear hlt
        go_wp2_with fail
        refine loads_begin_n 8 [(6, fun W => W.cell? ⟨w1.heap.size, 3, none⟩ = some (.slice A5 kn c5)), (6, fun W => Blk W w.heap.size 24 (x.cs A c))] rfl (by kernel_rfl) ?_
        refine wpAnyL_move (oi := ⟨some 23, _, _, _, _, _⟩) 0 ?_ rfl (by kernel_rfl) (by kernel_rfl) (by kernel_rfl) (by kernel_rfl) (fun _ _ _ h => h) (by kernel_rfl) ?_ ((Hooks.add c3 (Hooks.add HBK.out (Hooks.nil _ _)))) ?_
        rotate_left
        · intro W'; go_simp; first | done | with_reducible rfl
        try simp only [Act.put]
        try simp only [List.setIfInBounds_toArray]
        try simp only [List.set_cons_succ]
        try simp only [List.set_cons_zero]
        refine wpAnyL_take (oi := ⟨some 24, _, _, _, _, _⟩) 1 6 (.slice A5 kn c5) _ rfl (by kernel_rfl) (by kernel_rfl) (by kernel_rfl) (by kernel_rfl) (by kernel_rfl) (by kernel_rfl) (.head _) (fun _ _ _ h => h) (by kernel_rfl) (fun W' hW' => by (try dsimp only at hW'); go_simp) (Hooks.add c3 (Hooks.add HBK.out (Hooks.nil _ _))) ?_
        try simp only [Act.put]
        try simp only [List.setIfInBounds_toArray]
        try simp only [List.set_cons_succ]
        try simp only [List.set_cons_zero]
        refine wpAnyL_take (oi := ⟨some 25, _, _, _, _, _⟩) 2 6 (x.v A c) _ rfl (by kernel_rfl) (by kernel_rfl) (by kernel_rfl) (by kernel_rfl) (by kernel_rfl) (by kernel_rfl) (.tail _ (.head _)) (fun _ _ _ h => h) (by kernel_rfl) (fun W' hW' => exec_load_blk (cs := x.cs A c) rfl rfl hW' _ Tryd.underlying24 rfl isz5) (Hooks.add c3 (Hooks.add HBK.out (Hooks.nil _ _))) ?_
        try simp only [Act.put]
        try simp only [List.setIfInBounds_toArray]
        try simp only [List.set_cons_succ]
        try simp only [List.set_cons_zero]
        refine wpAnyL_move (oi := ⟨some 26, _, _, _, _, _⟩) 3 ?_ rfl (by kernel_rfl) (by kernel_rfl) (by kernel_rfl) (by kernel_rfl) (fun _ _ _ h => h) (by kernel_rfl) ?_ ((Hooks.add c3 (Hooks.add HBK.out (Hooks.nil _ _)))) ?_
        rotate_left
        · intro W'; go_simp; first | done | with_reducible rfl
        try simp only [Act.put]
        try simp only [List.setIfInBounds_toArray]
        try simp only [List.set_cons_succ]
        try simp only [List.set_cons_zero]
        refine wpAnyL_one (o := ⟨some 27, _, _, _, _, _⟩) 4 (by kernel_rfl) rfl (fun K hK => ?_)
        go_wp2_with (first
          | (go_at_call 38; refine (HR4.out _ (Below.refl w4.heap.size w4).drew).mono ?_; rintro e w7 ⟨b7, c7, rfl, ho7, hb7⟩))
        have hb47 : Below w4.heap.size w4 w7 := (Below.refl w4.heap.size w4).drew.trans hb7
        have HO7 := hideIt ho7
        have HP7 := hideIt (own_kept HO.out hb47)
        have c37 : w7.cell? ⟨w1.heap.size, 3, none⟩ = some (.slice A5 kn c5) := (HBX.out.kept hb47 HBX.out.lt).cell 3
        have HBX7 := hideIt (HBX.out.kept hb47 HBX.out.lt)
        have HBK7 := hideIt (HBK.out.kept hb47 HBK.out.lt)
        have HL7 := hideIt (HLW.out.trans (hb47.mono HLW.out.size))
        have HS7 := hideIt (show w1.heap.size + 1 ≤ w7.heap.size from Nat.le_trans HLT.out.2 hb47.size)
        have HC7 := hideIt (fun j u (hu : ((nl n (gC x k)).map iv)[j]? = some u) => ho7.cells (g := b7) rfl j u hu)
        refine hK _ _ (Hooks.add c37 (Hooks.add HBK7.out (Hooks.nil _ _))) ?_
        clear hK K ho7 hb7 hb47 c3 HBX HBK HR4
        try simp only [Act.put]
        try simp only [List.setIfInBounds_toArray]
        try simp only [List.set_cons_succ]
        try simp only [List.set_cons_zero]
        refine wpAnyL_one (o := ⟨some 28, _, _, _, _, _⟩) 5 (by kernel_rfl) rfl (fun K hK => ?_)
        go_wp2_with (first
          | ((with_reducible refine at_append ?_); refine wpList_apG (z := .int .i64 0) (size := 1) (bytes := 8) (n := kn) (m := n) (news := (nl n (gC x k)).map iv) Tryd.underlying29 (by kernel_rfl) rfl (by decide) (by decide) rfl (.tmp 24) (.tmp 27) rfl rfl HP7.out rfl (by rw [List.length_map, nl_len, Nat.mul_one]) (fun j u h => HC7.out j u h) (iv_one _) (by omega) HS7.out ?_; intro v8 w8 HO8 HG8 HA8 HB8))
        have HBX8 := hideIt (HBX7.out.kept HB8.out (Nat.lt_succ_self _))
        have HBK8 := hideIt (HBK7.out.kept HB8.out (Nat.lt_succ_of_lt HLT.out.1))
        have HL8 := hideIt (HL7.out.trans (HB8.out.mono (Nat.le_succ _)))
        have c38 : w8.cell? ⟨w1.heap.size, 3, none⟩ = some (.slice A5 kn c5) := HBX8.out.cell 3
        have cfr : w8.frozen? ⟨w1.heap.size, 3, none⟩ = false := HBX8.out.free 3
        obtain ⟨A8, c8, hv8, _, _⟩ := own_form HO8.out
        subst hv8
        refine hK _ _ (Hooks.add c38 (Hooks.add HBK8.out (Hooks.nil _ _))) ?_
        clear hK K c37 HBX7 HBK7 HA8
        try simp only [Act.put]
        try simp only [List.setIfInBounds_toArray]
        try simp only [List.set_cons_succ]
        try simp only [List.set_cons_zero]
        refine loads_tail 6 (by kernel_rfl) (by kernel_rfl) (by kernel_rfl) (by kernel_rfl) ?_
        simp only [List.drop_succ_cons, List.drop_zero]
        go_wp2_with fail
        go_roundg (gk - 1)
        case measure => omega
        case rel =>
          refine ⟨k + 1, .slice A8 (kn + n) c8, by omega, by go_num, below_set HL8.out (Nat.le_refl _) _ _, HBX8.out.store 3 (.slice A8 (kn + n) c8), ?_⟩
          rw [HKN.out, HTK.out, List.map_append]
          exact own_set HO8.out HBX8.out (by decide) _ _
      · have hji : ¬ (k : Int) < (N : Int) := by omega
        have hke : k = N := by omega
        subst hke
        have HPR4 := hideIt (HPR.out.kept HW4.out HPR.out.lt)
        have HLL := hideIt (show w.heap.size ≤ w1.heap.size + 1 by have := HB.out.size; have := HB1.out.size; omega)

        go_wp2_with (first
          | ((with_reducible refine at_load ?_); refine wpList_ldM rfl (.tmp 5) rfl w1.heap.size _ _ _ _ rfl HBX.out ?_)
          | ((with_reducible refine at_store ?_); refine wpList_stM rfl (.tmp 2) (.tmp 30) rfl (w.heap.size + 1) _ _ _ _ _ _ _ _ rfl rfl rfl HPR4.out ?_; intro w8 HT8 HB8))
        refine bodyPost_ret (results_two rfl _ _ (w.heap.size + 1) _ _ _ rfl HB8.out Tryd.underlying31 rfl isz4) rfl ?_
        rw [HR.out]
        refine ⟨_, rfl, ?_, HT8.out.below (HB.out.trans (HW4.out.mono HB.out.size)) HPL.out⟩
        show w8.ownsRow _ _ _ _ (mkM m k n (gC x)).l.length ((mkM m k n (gC x)).l.map iv)
        rw [mk_len]
        exact own_base (own_turned HO.out HPR4.out (by decide) HT8.out) HLL.out
  | false =>
    have hw : wC x = 0 := by unfold wC; rw [if_neg (by rw [q1]; decide)]
    rw [hw] at HV
    have HR : Hid (genR x = (zeroM, 1)) := hideIt (by unfold genR; rw [if_neg (by rw [q1]; decide)])
    have hne : binOp .eql 3 (.int .i64 0) (.int .i64 0) = pure (.bool true) := by rw [i_eql]; rfl
    clear q1 hw
    go_enter Tryd.func15, Tryd.ntmps15
    go_wp2_with (first
      | (go_at_call 22; rw [← HWE.out]; refine HV.out.mono ?_; rintro e w1 ⟨rfl, hb1⟩; have HB1 := hideIt hb1; have HPR1 := hideIt (HPR.out.kept hb1 HPR.out.lt); clear hb1 HV)
      | ((with_reducible refine at_store ?_); refine wpList_stM rfl (.tmp 2) (.tmp 11) rfl (w.heap.size + 1) 0 0 0 0 0 0 (.slice none 0 0) (.slice none 0 0) rfl rfl rfl HPR1.out ?_; intro w8 HT8 HB8))
    refine bodyPost_ret (results_two rfl _ _ (w.heap.size + 1) _ _ _ rfl HB8.out Tryd.underlying31 rfl isz4) rfl ?_
    rw [HR.out]
    exact MRes.bad (HT8.out.below (HB.out.trans (HB1.out.mono HB.out.size)) HPL.out) 1

theorem alk_iff (m : Nat) (us : List (List UInt8)) : alk m us = true ↔ ∀ u ∈ us, u.length = ul us ∧ u.length % (m / 8) = 0 := by
  unfold alk
  rw [List.all_eq_true]
  exact ⟨fun h u hu => of_decide_eq_true (h u hu), fun h u hu => decide_eq_true (h u hu)⟩

set_option maxHeartbeats 600000 in
set_option maxRecDepth 100000 in
theorem renc_any (x : Cd) (A : Option Addr) (c : Nat) (w : World) (hx : CIn w x A) (hsm : Sm x) (us : List (List UInt8)) (hl : us.length ≤ 24) (hbig : ∀ u ∈ us, u.length ≤ 64) (D : Option Addr) (cd : Nat) (hs : Sl w w.heap.size D 1 us.length (us.map sv)) :
    Calls Tryd.prog 17 #[x.v A c, .slice D us.length cd] w (StrRes w (encR x us)) := by
  obtain ⟨W, hW⟩ : ∃ W, W = w.alloc (.cells (x.cs A c).toArray 24) := ⟨_, rfl⟩
  have hbw : Below w.heap.size w W := by rw [hW]; exact below_new w _
  have HB := hideIt hbw
  have HBC := hideIt (show BC W w.heap.size x A c by rw [hW]; exact BC.new c hx)
  have HV := hideIt (rvalid8_any x A c W HBC.out.cin hsm)
  have hq := i_neq 3 .i64 (us.length : Int) x.data
  have hnot := not_b
  have HSL := hideIt ((hs.below hbw).wide hbw.size)
  have HWE := hideIt hW
  have HBG := hideIt hbig
  clear hbw hx hs hW hbig
  cases q1 : vC x with
  | true =>
    rw [q1] at HV
    obtain ⟨m, n, hvc⟩ := vC_spec q1
    by_cases q2 : (us.length : Int) = x.data
    · rw [decide_eq_false fun h => h q2] at hq
      have h0 : 0 < us.length := by have := hvc.pos; have := hvc.d; omega
      have HVC := hideIt hvc
      have HFM := hideIt hvc.f
      have HRT := hideIt (fun h : ∀ u ∈ us, u.length = ul us ∧ u.length % (m / 8) = 0 => show encR x us = (us ++ x.par.map (fun r => cbS x.field r us), 0) by
        unfold encR
        rw [if_pos ⟨q1, q2, by rw [hvc.f, Int.toNat_natCast]; exact (alk_iff m us).2 h⟩])
      have HRF := hideIt (fun u (hu : u ∈ us) (h : ¬ (u.length = ul us ∧ u.length % (m / 8) = 0)) => show encR x us = ([], 1) by
        unfold encR
        rw [if_neg (fun h2 => h ((alk_iff m us).1 (by have := h2.2.2; rwa [hvc.f, Int.toNat_natCast] at this) u hu))])
      obtain ⟨b1, o1, hA1, hbb1, hcc1⟩ := HSL.out.2 (by rw [List.length_map]; exact h0)
      have HC1 := hideIt (fun (W2 : World) (h : Below W.heap.size W W2) j u (hu : (us.map sv)[j]? = some u) => show W2.cell? ((⟨b1, o1, none⟩ : Addr).add j) = some u by rw [addr_add, h.cell (p := ⟨b1, o1 + j, none⟩) hbb1]; exact hcc1 j u hu)
      have HU0 := hideIt (ul_zero us h0)
      have hp31 : x.par.length ≤ 31 := by have := hvc.wid; have := hvc.pos; omega
      subst hA1
      clear q1 q2 hvc hbb1 hcc1
      go_enter Tryd.func17, Tryd.ntmps17
      go_wp2_with (first
        | (go_at_call 20; rw [← HWE.out]; refine HV.out.mono ?_; rintro e w1 ⟨rfl, hb1⟩; have HB1 := hideIt hb1; have c2 := (HBC.out.keep hb1).c2; clear hb1 HV)
        | ((with_reducible refine at_append ?_); refine wpList_apG (base := w1.heap.size) (z := .string ⟨#[]⟩) (size := 1) (bytes := 16) (n := 0) (m := us.length) (news := us.map sv) Tryd.underlying25 (by kernel_rfl) rfl (by decide) (by decide) rfl (.tmp 23) (.tmp 24) rfl rfl (World.ownsRow_lit (base := w1.heap.size) (e := 9) (size := 1) w1 #[] 0 (Nat.le_refl _) (by decide) rfl) rfl (by simp) (fun j u hu => HC1.out _ (HB1.out.trans ((below_new w1 (.cells #[] 9)).mono HB1.out.size)) j u hu) (fun u hu => by obtain ⟨y, _, rfl⟩ := List.mem_map.1 hu; rfl) (by omega) (by simp) ?_; intro v5 w5 HO5 HG5 HA5 HB5; rw [Nat.zero_add] at HO5; have ho5 : w5.ownsRow w1.heap.size 9 1 v5 us.length (us.map sv) := HO5.out; have HP5 := hideIt ho5; have HL5 := hideIt ((below_new w1 (.cells #[] 9)).trans HB5.out); clear ho5 HO5 HA5))
      clear c2
      have HW5 := hideIt (HB1.out.trans (HL5.out.mono HB1.out.size))
      go_loopg [4, 5, 8] us.length (fun gk s4 s5 s8 wr => ∃ i : Nat, i + gk = us.length ∧ s4 = .slice none 0 0 ∧ s5 = .int .i64 0 ∧ s8 = .int .i64 (i : Int) ∧ Aside (Below w5.heap.size w5 wr) ∧ Aside (∀ u ∈ us.take i, u.length = ul us ∧ u.length % (m / 8) = 0))
      case atStart => exact ⟨0, by omega, rfl, rfl, rfl, Below.refl _ _, fun u hu => by simp at hu⟩
      case round =>
        obtain ⟨i, hi, rfl, rfl, rfl, HLW, HGO⟩ := hrel
        obtain ⟨w6, rfl⟩ : ∃ x, x = wr := ⟨wr, rfl⟩
        have HW6 := hideIt (HW5.out.trans (HLW.out.mono HW5.out.size))
        have HBC6 := hideIt (HBC.out.keep HW6.out)
        by_cases hlt : i < us.length
        · have ccu := HC1.out _ HW6.out i _ (show (us.map sv)[i]? = some (sv us[i]) by rw [List.getElem?_map, List.getElem?_eq_getElem hlt]; rfl)
          have ccz := HC1.out _ HW6.out 0 _ (show (us.map sv)[0]? = some (sv us[0]) by rw [List.getElem?_map, List.getElem?_eq_getElem h0]; rfl)
          rw [addr_add] at ccu ccz
          rw [Nat.add_zero] at ccz
          have c1 := HBC6.out.c1
          rw [HFM.out] at c1
          have HMEM := hideIt (List.getElem_mem hlt)
          have HTK := hideIt (take_snoc us i hlt)
          have hsz := str_size us[i]
          have hsz0 := str_size us[0]
          have HU1 := hideIt HU0.out
          have hinc := inc_c 3 i (by omega)
          have hii : (i : Int) < (us.length : Int) := by omega
          have h0i : (0 : Int) < (us.length : Int) := by omega
          have hb64 := HBG.out _ (List.getElem_mem hlt)
          have hne := i_neq 3 .i64 (us[i].length : Int) (us[0].length : Int)
          have hrem := nrem 3 us[i].length 2 (by decide)
          have hm16 := i_eql 3 .i64 (m : Int) 16
          have hodd := i_eql 3 .i64 ((us[i].length % 2 : Nat) : Int) 1
          change w6.cell? ⟨b1, o1 + i, none⟩ = some (.string (str us[i])) at ccu
          change w6.cell? ⟨b1, o1, none⟩ = some (.string (str us[0])) at ccz
          generalize us[i] = u at *
          generalize us[0] = z at *
          generalize str u = su at *
          generalize str z = sz at *
          by_cases hle : u.length = z.length
          · rw [decide_eq_false (show ¬ (u.length : Int) ≠ (z.length : Int) by omega)] at hne
            rcases HVC.out.fm with hm | hm
            · rw [decide_eq_false (by omega)] at hm16
              have HN := hideIt (show ∀ v ∈ us.take (i + 1), v.length = ul us ∧ v.length % (m / 8) = 0 by
                intro v hv
                rw [HTK.out] at hv
                rcases List.mem_append.1 hv with hv | hv
                · exact HGO.out v hv
                · rw [List.mem_singleton] at hv
                  subst hv
                  exact ⟨hle.trans HU1.out, by rw [hm]; omega⟩)
              clear hle hm hlt hrem hodd hb64
              go_wp2_with fail
              go_quiet (fail)
              go_wp2_with fail
              go_roundg (gk - 1)
              case measure => omega
              case rel => exact ⟨i + 1, by omega, rfl, rfl, by go_num, below_drewN HLW.out _, HN.out⟩
            · rw [decide_eq_true (by omega)] at hm16
              by_cases hpar : u.length % 2 = 1
              · have hrem1 : binOp .rem 3 (.int .i64 (u.length : Int)) (.int .i64 2) = pure (.int .i64 1) := by rw [show (2 : Int) = ((2 : Nat) : Int) from rfl, hrem, hpar]; rfl
                have he11 : binOp .eql 3 (.int .i64 1) (.int .i64 1) = pure (.bool true) := by rw [i_eql]; rfl
                have HE := hideIt (HRF.out u HMEM.out (fun h => by have := h.2; rw [hm] at this; omega))
                clear hle hm hlt hpar hb64 hrem hodd
                go_wp2_with fail
                go_quiet (fail)
                go_wp2_with fail
                go_ret2
                rw [HE.out]
                exact StrRes.nil (below_drewN (HB.out.trans (HW6.out.mono HB.out.size)) _) 1
              · have hrem1 : binOp .rem 3 (.int .i64 (u.length : Int)) (.int .i64 2) = pure (.int .i64 0) := by rw [show (2 : Int) = ((2 : Nat) : Int) from rfl, hrem, show u.length % 2 = 0 by omega]; rfl
                have he11 : binOp .eql 3 (.int .i64 0) (.int .i64 1) = pure (.bool false) := by rw [i_eql]; rfl
                have HN := hideIt (show ∀ v ∈ us.take (i + 1), v.length = ul us ∧ v.length % (m / 8) = 0 by
                  intro v hv
                  rw [HTK.out] at hv
                  rcases List.mem_append.1 hv with hv | hv
                  · exact HGO.out v hv
                  · rw [List.mem_singleton] at hv
                    subst hv
                    exact ⟨hle.trans HU1.out, by rw [hm]; omega⟩)
                clear hle hm hlt hpar hb64 hrem hodd
                go_wp2_with fail
                go_quiet (fail)
                go_wp2_with fail
                go_roundg (gk - 1)
                case measure => omega
                case rel => exact ⟨i + 1, by omega, rfl, rfl, by go_num, below_drewN HLW.out _, HN.out⟩
          · rw [decide_eq_true (show (u.length : Int) ≠ (z.length : Int) by omega)] at hne
            have HE := hideIt (HRF.out u HMEM.out (fun h => hle (h.1.trans HU1.out.symm)))
            clear hle hlt hrem hodd hm16 hb64
            go_wp2_with fail
            go_quiet (fail)
            go_wp2_with fail
            go_ret2
            rw [HE.out]
            exact StrRes.nil (below_drewN (HB.out.trans (HW6.out.mono HB.out.size)) _) 1
        · have hii : ¬ (i : Int) < (us.length : Int) := by omega
          have HR := hideIt (HRT.out (by have := HGO.out; rwa [List.take_of_length_le (by omega)] at this))
          have HP6 := hideIt (own_kept HP5.out HLW.out)
          clear HRT HRF HGO
          go_wp2_with fail
          go_loopg [7, 9, 10, 11] x.par.length (fun g s7 s9 s10 s11 wr => ∃ j : Nat, j + g = x.par.length ∧ s9 = .int .i64 (j : Int) ∧ Aside (Below w1.heap.size w1 wr) ∧ Aside (wr.ownsRow w1.heap.size 9 1 s7 (us.length + j) ((us ++ (x.par.take j).map (fun r => cbS x.field r us)).map sv)))
          case atStart => exact ⟨0, by omega, rfl, HL5.out.trans (HLW.out.mono HL5.out.size), by have := HP6.out; simpa [Aside] using this⟩
          case round =>
            obtain ⟨j, hj, rfl, HLJ, HO⟩ := hrel
            obtain ⟨A7, c7, rfl, _, _⟩ := own_form HO.out
            obtain ⟨w7, rfl⟩ : ∃ x, x = wr := ⟨wr, rfl⟩
            have HW7 := hideIt (HB1.out.trans (HLJ.out.mono HB1.out.size))
            have HBC7 := hideIt (HBC.out.keep HW7.out)
            have c37 := HBC7.out.c3
            by_cases hlt2 : j < x.par.length
            · obtain ⟨b, o, A', c', hA, hb, hcell, hsl⟩ := HBC7.out.cin.pm.row hlt2
              have hr100 : (x.par[j]).length ≤ 100000 := by have := (HVC.out.row _ (List.getElem_mem hlt2)).1; have := HVC.out.wid; omega
              have HTK := hideIt (take_snoc x.par j hlt2)
              have c1 := HBC7.out.c1
              subst hA
              have HCM := hideIt (fun W2 (h : Below w7.heap.size w7 W2) => rcombine_any x.field A' c' (x.par[j]) (some ⟨b1, o1, none⟩) cd us W2 hr100 (fun u hu => Nat.le_trans (HBG.out u hu) (by decide)) ((hsl.below h).wide h.size) ((HSL.out.below (HW7.out.trans (h.mono HW7.out.size))).wide (HW7.out.trans (h.mono HW7.out.size)).size))
              have hinc := inc_c 3 j (by omega)
              have hji : (j : Int) < (x.par.length : Int) := by omega
              have HKC := hideIt (fun W2 (h : Below w7.heap.size w7 W2) => show W2.cell? ⟨w.heap.size, 1, none⟩ = some (.int .i64 x.field) ∧ W2.cell? ⟨w.heap.size, 3, none⟩ = some (.slice (some ⟨b, o, none⟩) x.par.length c) ∧ W2.cell? ⟨b, o + j, none⟩ = some (.slice A' (x.par[j]).length c') from
                ⟨(h.cell (p := ⟨w.heap.size, 1, none⟩) HBC7.out.box.lt).trans c1, (h.cell (p := ⟨w.heap.size, 3, none⟩) HBC7.out.box.lt).trans c37, (h.cell (p := ⟨b, o + j, none⟩) hb).trans hcell⟩)
              generalize x.par[j] = l at *
              clear hsl hb hr100
              obtain ⟨cc1, cc3, ccl⟩ := HKC.out w7 (Below.refl _ _)
              clear c1 c37 hcell
              go_wp2_with fail
              refine loads_begin_n 14 [(12, fun W => W.cell? ⟨w.heap.size, 1, none⟩ = some (.int .i64 x.field)), (12, fun W => W.cell? ⟨w.heap.size, 3, none⟩ = some (.slice (some ⟨b, o, none⟩) x.par.length c)), (12, fun W => W.cell? ⟨b, o + j, none⟩ = some (.slice A' l.length c'))] rfl (by kernel_rfl) ?_
              refine wpAnyL_move (oi := ⟨some 64, _, _, _, _, _⟩) 0 ?_ rfl (by kernel_rfl) (by kernel_rfl) (by kernel_rfl) (by kernel_rfl) (fun _ _ _ h => h) (by kernel_rfl) ?_ ((Hooks.add cc1 (Hooks.add cc3 (Hooks.add ccl (Hooks.nil _ _))))) ?_
              rotate_left
              · intro W'; go_simp; first | done | with_reducible rfl
              try simp only [Act.put]
              try simp only [List.setIfInBounds_toArray]
              try simp only [List.set_cons_succ]
              try simp only [List.set_cons_zero]
              refine wpAnyL_take (oi := ⟨some 65, _, _, _, _, _⟩) 1 12 (.int .i64 x.field) _ rfl (by kernel_rfl) (by kernel_rfl) (by kernel_rfl) (by kernel_rfl) (by kernel_rfl) (by kernel_rfl) (.head _) (fun _ _ _ h => h) (by kernel_rfl) (fun W' hW' => by (try dsimp only at hW'); go_simp) (Hooks.add cc1 (Hooks.add cc3 (Hooks.add ccl (Hooks.nil _ _)))) ?_
              try simp only [Act.put]
              try simp only [List.setIfInBounds_toArray]
              try simp only [List.set_cons_succ]
              try simp only [List.set_cons_zero]
              refine wpAnyL_move (oi := ⟨some 66, _, _, _, _, _⟩) 2 ?_ rfl (by kernel_rfl) (by kernel_rfl) (by kernel_rfl) (by kernel_rfl) (fun _ _ _ h => h) (by kernel_rfl) ?_ ((Hooks.add cc1 (Hooks.add cc3 (Hooks.add ccl (Hooks.nil _ _))))) ?_
              rotate_left
              · intro W'; go_simp; first | done | with_reducible rfl
              try simp only [Act.put]
              try simp only [List.setIfInBounds_toArray]
              try simp only [List.set_cons_succ]
              try simp only [List.set_cons_zero]
              refine wpAnyL_take (oi := ⟨some 67, _, _, _, _, _⟩) 3 12 (.slice (some ⟨b, o, none⟩) x.par.length c) _ rfl (by kernel_rfl) (by kernel_rfl) (by kernel_rfl) (by kernel_rfl) (by kernel_rfl) (by kernel_rfl) (.tail _ (.head _)) (fun _ _ _ h => h) (by kernel_rfl) (fun W' hW' => by (try dsimp only at hW'); go_simp) (Hooks.add cc1 (Hooks.add cc3 (Hooks.add ccl (Hooks.nil _ _)))) ?_
              try simp only [Act.put]
              try simp only [List.setIfInBounds_toArray]
              try simp only [List.set_cons_succ]
              try simp only [List.set_cons_zero]
              refine wpAnyL_move (oi := ⟨some 68, _, _, _, _, _⟩) 4 ?_ rfl (by kernel_rfl) (by kernel_rfl) (by kernel_rfl) (by kernel_rfl) (fun _ _ _ h => h) (by kernel_rfl) ?_ ((Hooks.add cc1 (Hooks.add cc3 (Hooks.add ccl (Hooks.nil _ _))))) ?_
              rotate_left
              · intro W'; go_simp; first | done | with_reducible rfl
              try simp only [Act.put]
              try simp only [List.setIfInBounds_toArray]
              try simp only [List.set_cons_succ]
              try simp only [List.set_cons_zero]
              refine wpAnyL_move (oi := ⟨some 69, _, _, _, _, _⟩) 5 ?_ rfl (by kernel_rfl) (by kernel_rfl) (by kernel_rfl) (by kernel_rfl) (fun _ _ _ h => h) (by kernel_rfl) ?_ ((Hooks.add cc1 (Hooks.add cc3 (Hooks.add ccl (Hooks.nil _ _))))) ?_
              rotate_left
              · intro W'; go_simp; first | done | with_reducible rfl
              try simp only [Act.put]
              try simp only [List.setIfInBounds_toArray]
              try simp only [List.set_cons_succ]
              try simp only [List.set_cons_zero]
              refine wpAnyL_take (oi := ⟨some 70, _, _, _, _, _⟩) 6 12 (.slice A' l.length c') _ rfl (by kernel_rfl) (by kernel_rfl) (by kernel_rfl) (by kernel_rfl) (by kernel_rfl) (by kernel_rfl) (.tail _ (.tail _ (.head _))) (fun _ _ _ h => h) (by kernel_rfl) (fun W' hW' => by (try dsimp only at hW'); go_simp) (Hooks.add cc1 (Hooks.add cc3 (Hooks.add ccl (Hooks.nil _ _)))) ?_
              try simp only [Act.put]
              try simp only [List.setIfInBounds_toArray]
              try simp only [List.set_cons_succ]
              try simp only [List.set_cons_zero]
              refine wpAnyL_move (oi := ⟨some 71, _, _, _, _, _⟩) 7 ?_ rfl (by kernel_rfl) (by kernel_rfl) (by kernel_rfl) (by kernel_rfl) (fun _ _ _ h => h) (by kernel_rfl) ?_ ((Hooks.add cc1 (Hooks.add cc3 (Hooks.add ccl (Hooks.nil _ _))))) ?_
              rotate_left
              · intro W'; go_simp; first | done | with_reducible rfl
              try simp only [Act.put]
              try simp only [List.setIfInBounds_toArray]
              try simp only [List.set_cons_succ]
              try simp only [List.set_cons_zero]
              refine wpAnyL_one (o := ⟨some 72, _, _, _, _, _⟩) 8 (by kernel_rfl) rfl (fun K hK => ?_)
              go_wp2_with (first
                | (go_at_call 44; refine (HCM.out _ (Below.refl w7.heap.size w7).drew).mono ?_; rintro e w8 ⟨rfl, hb8⟩))
              have HB8 := hideIt (show Below w7.heap.size w7 w8 from (Below.refl w7.heap.size w7).drew.trans hb8)
              obtain ⟨dd1, dd3, ddl⟩ := HKC.out w8 HB8.out
              refine hK _ _ (Hooks.add dd1 (Hooks.add dd3 (Hooks.add ddl (Hooks.nil _ _)))) ?_
              clear hK K hb8
              have HO8 := hideIt (own_kept HO.out HB8.out)
              refine wpAnyL_move (oi := ⟨some 63, _, _, _, _, _⟩) 9 ?_ rfl (by kernel_rfl) (by kernel_rfl) (by kernel_rfl) (by kernel_rfl) (fun _ _ _ h => h) (by kernel_rfl) ?_ ((Hooks.add dd1 (Hooks.add dd3 (Hooks.add ddl (Hooks.nil _ _))))) ?_
              rotate_left
              · intro W'; go_simp; first | done | with_reducible rfl
              try simp only [Act.put]
              try simp only [List.setIfInBounds_toArray]
              try simp only [List.set_cons_succ]
              try simp only [List.set_cons_zero]
              refine wpAnyL_move (oi := ⟨some 73, _, _, _, _, _⟩) 10 ?_ rfl (by kernel_rfl) (by kernel_rfl) (by kernel_rfl) (by kernel_rfl) (fun _ _ _ h => h) (by kernel_rfl) ?_ ((Hooks.add dd1 (Hooks.add dd3 (Hooks.add ddl (Hooks.nil _ _))))) ?_
              rotate_left
              · intro W'; go_simp; first | done | with_reducible rfl
              try simp only [Act.put]
              try simp only [List.setIfInBounds_toArray]
              try simp only [List.set_cons_succ]
              try simp only [List.set_cons_zero]
              refine wpAnyL_move (oi := ⟨some 74, _, _, _, _, _⟩) 11 ?_ rfl (by kernel_rfl) (by kernel_rfl) (by kernel_rfl) (by kernel_rfl) (fun _ _ _ h => h) (by kernel_rfl) ?_ ((Hooks.add dd1 (Hooks.add dd3 (Hooks.add ddl (Hooks.nil _ _))))) ?_
              rotate_left
              · intro W'; go_simp; first | done | with_reducible rfl
              try simp only [Act.put]
              try simp only [List.setIfInBounds_toArray]
              try simp only [List.set_cons_succ]
              try simp only [List.set_cons_zero]
              refine loads_tail 12 (by kernel_rfl) (by kernel_rfl) (by kernel_rfl) (by kernel_rfl) ?_
              simp only [List.drop_succ_cons, List.drop_zero]
              clear cc1 cc3 ccl dd1 dd3 ddl HCM HKC
              go_wp2_with (first
                | ((with_reducible refine at_append ?_); refine wpList_apS (n := us.length + j) rfl (.tmp 75) (.tmp 77) rfl rfl HO8.out rfl (by omega) (Nat.le_trans HLJ.out.size HB8.out.size) ?_; intro v9 w9 HO9 HG9 HA9 HB9))
              go_roundg (gk - 1)
              case measure => omega
              case rel => exact ⟨j + 1, by omega, by go_num, HLJ.out.trans ((HB8.out.mono HLJ.out.size).trans HB9.out), by
                have e : us ++ (x.par.take (j + 1)).map (fun r => cbS x.field r us) = us ++ (x.par.take j).map (fun r => cbS x.field r us) ++ [cbS x.field l us] := by rw [HTK.out, List.map_append, ← List.append_assoc]; rfl
                show World.ownsRow _ _ _ _ _ _ ((us ++ (x.par.take (j + 1)).map (fun r => cbS x.field r us)).map sv)
                rw [e]; exact HO9.out⟩
            · have hji : ¬ (j : Int) < (x.par.length : Int) := by omega
              go_wp2_with fail
              go_ret2
              rw [HR.out]
              refine ⟨_, rfl, ?_, HB.out.trans (HW7.out.mono HB.out.size)⟩
              show w7.ownsRow w.heap.size _ 1 (.slice A7 (us.length + j) c7) _ _
              have := own_base HO.out (Nat.le_trans HB.out.size HB1.out.size)
              rw [List.take_of_length_le (by omega)] at this
              rw [List.length_append, List.length_map, show us.length + x.par.length = us.length + j by omega]
              exact this
    · rw [decide_eq_true q2] at hq
      have HR : Hid (encR x us = ([], 1)) := hideIt (by unfold encR; rw [if_neg (fun h => q2 h.2.1)])
      clear q1 q2 hvc
      go_enter Tryd.func17, Tryd.ntmps17
      go_wp2_with (first
        | (go_at_call 20; rw [← HWE.out]; refine HV.out.mono ?_; rintro e w1 ⟨rfl, hb1⟩; have HB1 := hideIt hb1; have c2 := (HBC.out.keep hb1).c2; clear hb1 HV))
      go_ret2
      rw [HR.out]
      exact StrRes.nil (HB.out.trans (HB1.out.mono HB.out.size)) 1
  | false =>
    rw [q1] at HV
    have HR : Hid (encR x us = ([], 1)) := hideIt (by unfold encR; rw [if_neg (fun h => by rw [q1] at h; exact absurd h.1 (by decide))])
    clear q1
    go_enter Tryd.func17, Tryd.ntmps17
    go_wp2_with (first
      | (go_at_call 20; rw [← HWE.out]; refine HV.out.mono ?_; rintro e w1 ⟨rfl, hb1⟩; have HB1 := hideIt hb1; clear hb1 HV))
    go_ret2
    rw [HR.out]
    exact StrRes.nil (HB.out.trans (HB1.out.mono HB.out.size)) 1

end Go.Proofs.YtpjgmekpnlpjaaaDoor
