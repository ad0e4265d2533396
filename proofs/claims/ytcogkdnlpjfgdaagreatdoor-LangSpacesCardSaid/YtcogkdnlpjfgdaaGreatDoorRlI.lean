/-
  The reference, walked: Number, row.
  The reference, walked: skip.
  The reference, walked: next.
  The reference, walked: Tokens.
-/
import Derived.Test.YtcogkdnlpjfgdaaGreatDoorRlE
import Derived.Test.YtcogkdnlpjfgdaaGreatDoorCodA
import Derived.Test.YtcogkdnlpjfgdaaGreatDoorRlP
namespace Go.Proofs.YtcogkdnlpjfgdaaGreatDoor
open Go.RowKit
set_option linter.unusedVariables false
set_option linter.unusedSimpArgs false

section
variable (t : TypeId)
theorem q_add (a b : Nat) (h : a + b < 9223372036854775808) : binOp .add t (.int .i64 (a : Int)) (.int .i64 (b : Int)) = pure (.int .i64 ((a + b : Nat) : Int)) := by
  rw [binOp_add]
  simp only [Op.intArith]
  rw [IntWalk.i64_in _ (by omega)]
  rfl
theorem q_sub (a b : Nat) (h : b ≤ a) (ha : a < 9223372036854775808) : binOp .sub t (.int .i64 (a : Int)) (.int .i64 (b : Int)) = pure (.int .i64 ((a - b : Nat) : Int)) := by
  rw [binOp_sub]
  simp only [Op.intArith]
  rw [IntWalk.i64_in _ (by omega), Int.ofNat_sub h]
theorem q_mul (a b : Nat) (h : a * b < 9223372036854775808) : binOp .mul t (.int .i64 (a : Int)) (.int .i64 (b : Int)) = pure (.int .i64 ((a * b : Nat) : Int)) := by
  rw [binOp_mul]
  simp only [Op.intArith]
  rw [show (a : Int) * (b : Int) = ((a * b : Nat) : Int) by push_cast; rfl, IntWalk.i64_in _ (by omega)]
theorem q_quo (a c : Nat) (hc : 0 < c) (h : a < 9223372036854775808) : binOp .quo t (.int .i64 (a : Int)) (.int .i64 (c : Int)) = pure (.int .i64 ((a / c : Nat) : Int)) := by
  rw [binOp_quo]
  have hle : a / c ≤ a := Nat.div_le_self a c
  have e : IntKind.i64.wrap ((a : Int).tdiv (c : Int)) = ((a / c : Nat) : Int) := by
    rw [Int.tdiv_eq_ediv_of_nonneg (by omega), show (a : Int) / (c : Int) = ((a / c : Nat) : Int) from rfl]
    generalize a / c = x at *
    rw [IntWalk.i64_in _ (by omega)]
  show (if (c : Int) = 0 then _ else _) = _
  rw [if_neg (by omega), e]
  try rfl
theorem q_rem (a c : Nat) (hc : 0 < c) : binOp .rem t (.int .i64 (a : Int)) (.int .i64 (c : Int)) = pure (.int .i64 ((a % c : Nat) : Int)) := by
  rw [binOp_rem]
  have e : (a : Int).tmod (c : Int) = ((a % c : Nat) : Int) := by
    rw [Int.tmod_eq_emod_of_nonneg (by omega)]; rfl
  simp only [Op.intDiv]
  rw [if_neg (by simp; omega), e]
end
theorem q_byte (q : Nat) (hq : q < 256) (W : World) : (convert 3 5 (.int .i64 (q : Int))).run Tryz.prog W = .ok (bv (UInt8.ofNat q)) W := by
  rw [run_convert_int (P := Tryz.prog) W 3 5 .i64 _ (by kernel_rfl) (by kernel_rfl), show Tryz.prog.intKind 5 = .u8 by kernel_rfl, IntKind.wrap_u8']
  have e : (q : Int) % 256 = ((UInt8.ofNat q).toNat : Int) := by rw [UInt8.toNat_ofNat']; omega
  rw [e]

set_option maxHeartbeats 1000000 in
theorem rnumber_any (n : Nat) : n ≤ 100000 → ∀ w : World, Calls Tryz.prog 31 #[.int .i64 (n : Int)] w fun e w' => e = .returned (sv (numS n)) ∧ Below w.heap.size w w' := by
  induction n using Nat.strongRecOn with
  | _ n ih =>
    intro hn w
    obtain ⟨m, hm⟩ : ∃ m, m = n % 10 := ⟨_, rfl⟩
    have hm2 : m < 10 := by omega
    have hrem : binOp .rem 3 (.int .i64 (n : Int)) (.int .i64 10) = pure (.int .i64 (m : Int)) := by rw [hm]; exact q_rem 3 n 10 (by omega)
    obtain ⟨k, hk⟩ : ∃ k, k = 48 + m := ⟨_, rfl⟩
    have hadd : binOp .add 3 (.int .i64 48) (.int .i64 (m : Int)) = pure (.int .i64 (k : Int)) := by rw [hk]; exact q_add 3 48 m (by omega)
    have hcv := q_byte k (by omega)
    obtain ⟨u, hu⟩ : ∃ u, u = UInt8.ofNat k := ⟨_, rfl⟩
    rw [← hu] at hcv
    have hcs : (convert 39 9 (.slice (some ⟨w.heap.size, 0, none⟩) 1 1)).run Tryz.prog (w.alloc (.cells #[bv u] 5)) = .ok (.string (ss [u])) (w.alloc (.cells #[bv u] 5)) :=
      conv_bytes (P := Tryz.prog) (T := 39) (S := 9) (e := 5) Tryz.underlying39 Tryz.underlying5 Tryz.underlying9 (c := 1) (l := [u]) (sl_one w 5 (bv u))
    have HBW := hideIt (below_new w (.cells #[bv u] 5))
    by_cases hlt : n < 10
    · have HV : Hid (numS n = [u]) := by show numS n = [u]; rw [numS_lt hlt, hu, hk, hm, Nat.mod_eq_of_lt hlt]
      have hlt : (n : Int) < 10 := by omega
      clear ih hm hk hu hm2 hn
      go_enter Tryz.func31, Tryz.ntmps31
      go_wp2_with fail
      go_ret
      exact ⟨by rw [HV.out]; rfl, HBW.out⟩
    · have HV : Hid (numS n = numS (n / 10) ++ [u]) := by show numS n = _; rw [numS_ge (by omega), hu, hk, hm]
      have hquo : binOp .quo 3 (.int .i64 (n : Int)) (.int .i64 10) = pure (.int .i64 ((n / 10 : Nat) : Int)) := q_quo 3 n 10 (by omega) (by omega)
      have HIH := hideIt (ih (n / 10) (by omega) (by omega))
      have hln := numS_len 6 (n / 10) (by omega)
      have ha := s_add 9 (numS (n / 10)) [u] (by simp; omega)
      generalize numS (n / 10) = s1 at *
      generalize n / 10 = q at *
      have hlt : ¬ (n : Int) < 10 := by omega
      clear ih hm hk hu hm2 hn hln
      go_enter Tryz.func31, Tryz.ntmps31
      go_wp2_with (go_at_call 31; refine (HIH.out _).mono ?_; rintro e w1 ⟨rfl, hb⟩; have HB1 := hideIt hb; clear hb)
      go_ret
      exact ⟨by rw [HV.out]; rfl, HBW.out.trans (HB1.out.mono HBW.out.size)⟩

theorem u_eql (T : TypeId) (c d : UInt8) (k : Int) (hk : k = (d.toNat : Int)) : binOp .eql T (.int .u8 (c.toNat : Int)) (.int .u8 k) = pure (.bool (decide (c = d))) := by
  rw [i_eql]
  congr 2
  rw [hk, Bool.eq_iff_iff, decide_eq_true_iff, decide_eq_true_iff, ← UInt8.toNat_inj]
  omega
theorem u_neq (T : TypeId) (c d : UInt8) (k : Int) (hk : k = (d.toNat : Int)) : binOp .neq T (.int .u8 (c.toNat : Int)) (.int .u8 k) = pure (.bool (!decide (c = d))) := by
  rw [i_neq]
  congr 2
  rw [hk, Bool.eq_iff_iff, decide_eq_true_iff, Bool.not_eq_true', decide_eq_false_iff_not, ← UInt8.toNat_inj]
  omega
theorem skp_at (s : Bs) (a : Nat) (b : Bool) (h : a < s.length) : skp b (s.drop a) = skp b (s[a] :: s.drop (a + 1)) := by rw [List.drop_eq_getElem_cons h]
theorem skp_end (s : Bs) (a : Nat) (b : Bool) (h : s.length ≤ a) : skp b (s.drop a) = 0 := by
  rw [List.drop_of_length_le h]
  cases b <;> rfl
set_option maxHeartbeats 2000000 in
set_option maxRecDepth 100000 in
theorem rskip_any (s : Bs) (hs : s.length ≤ 100000) (a : Nat) (ha : a ≤ s.length) (w : World) :
    Calls Tryz.prog 79 #[sv s, .int .i64 (a : Int)] w fun e w' => e = .returned (.int .i64 ((a + skp false (s.drop a) : Nat) : Int)) ∧ w = w' := by
  obtain ⟨E, hE⟩ : ∃ E, E = a + skp false (s.drop a) := ⟨_, rfl⟩
  rw [← hE]
  have HE := hideIt hE
  have hln := len_c s
  have HX := hideIt (fun i hi => s_at Tryz.underlying9 s i hi)
  obtain ⟨n, hn⟩ : ∃ n, n = s.length := ⟨_, rfl⟩
  rw [← hn] at hln hs ha
  have HN := hideIt hn
  clear hn hE
  go_enter Tryz.func79, Tryz.ntmps79
  go_wp2_with fail
  go_loopg [1] (n - a) (fun gk s1 wr => ∃ a' : Nat, a' + gk = n ∧ s1 = .int .i64 (a' : Int) ∧ wr = w ∧ Aside (E = a' + skp false (s.drop a')))
  case atStart => exact ⟨a, by omega, rfl, rfl, HE.out⟩
  case round =>
    obtain ⟨a', hj, rfl, rfl, HI⟩ := hrel
    by_cases hlt : a' < n
    · have hjl : a' < s.length := by rw [← HN.out]; exact hlt
      have hxj := HX.out a' hjl
      have HSK := hideIt (HI.out.trans (congrArg (a' + ·) (skp_at s a' false hjl)))
      have HCC := hideIt (List.drop_eq_getElem_cons hjl)
      have hinc := inc_w 3 a' (by omega)
      have hji : (a' : Int) < (n : Int) := by omega
      generalize s[a'] = c at *
      have h32 := u_eql 5 c 32 32 rfl
      have h9 := u_eql 5 c 9 9 rfl
      have h10 := u_eql 5 c 10 10 rfl
      have h35 := u_neq 5 c 35 35 rfl
      have HBL : Hid (blank c = (decide (c = 32) || decide (c = 9) || decide (c = 10))) := by
        show blank c = _
        unfold blank
        rw [Bool.eq_iff_iff]
        simp [or_assoc]
      have H35 := hideIt (rfl : decide (c = 35) = decide (c = 35))
      generalize decide (c = 32) = b32 at h32 HBL
      generalize decide (c = 9) = b9 at h9 HBL
      generalize decide (c = 10) = b10 at h10 HBL
      by_cases hb : blank c = true
      · have HST : Hid (E = a' + 1 + skp false (s.drop (a' + 1))) := by
          have := HSK.out
          rw [skp, if_pos hb] at this
          show E = _
          omega
        have hbb := HBL.out
        rw [hb] at hbb
        clear hb hjl
        cases b32
        · cases b9
          · obtain rfl : b10 = true := by simpa using hbb.symm
            clear hbb h35
            go_wp2_with fail
            go_roundg (gk - 1)
            case measure => omega
            case rel => exact ⟨a' + 1, by omega, by go_num, rfl, HST.out⟩
          · clear hbb h35
            go_wp2_with fail
            go_roundg (gk - 1)
            case measure => omega
            case rel => exact ⟨a' + 1, by omega, by go_num, rfl, HST.out⟩
        · clear hbb h35
          go_wp2_with fail
          go_roundg (gk - 1)
          case measure => omega
          case rel => exact ⟨a' + 1, by omega, by go_num, rfl, HST.out⟩
      · rw [Bool.not_eq_true] at hb
        have hbb := HBL.out
        rw [hb] at hbb
        have hb3 := hbb.symm
        rw [Bool.or_eq_false_iff, Bool.or_eq_false_iff] at hb3
        obtain ⟨⟨rfl, rfl⟩, rfl⟩ := hb3
        by_cases h5 : c = 35
        · have HST : Hid (E = a' + skp true (s.drop a')) := by
            have := HSK.out
            rw [skp, if_neg (by rw [hb]; decide), if_pos h5] at this
            show E = _
            rw [HCC.out, skp, if_neg (by rw [h5]; decide)]
            exact this
          have H5 := hideIt h5
          rw [decide_eq_true h5] at h35
          clear hb hbb h5
          go_wp2_with fail
          obtain ⟨g0, rfl⟩ : ∃ x, x = gk := ⟨gk, rfl⟩
          obtain ⟨w2, rfl⟩ : ∃ x, x = wr := ⟨wr, rfl⟩
          clear h32 h9 h10 h35 hxj hinc hji
          go_loopg [1] (n - a') (fun gk s1 wr => ∃ k : Nat, k + gk = n ∧ a' ≤ k ∧ s1 = .int .i64 (k : Int) ∧ wr = w2 ∧ Aside (E = k + skp true (s.drop k)))
          case atStart => exact ⟨a', by omega, Nat.le_refl _, rfl, rfl, HST.out⟩
          case round =>
            obtain ⟨k, hk, hak, rfl, rfl, HJ⟩ := hrel
            by_cases hkt : k < n
            · have hkl : k < s.length := by rw [← HN.out]; exact hkt
              have hxk := HX.out k hkl
              have HSJ := hideIt (HJ.out.trans (congrArg (k + ·) (skp_at s k true hkl)))
              have HKC := hideIt (List.drop_eq_getElem_cons hkl)
              have HGC := hideIt (List.getElem?_eq_getElem hkl)
              have hinc2 := inc_w 3 k (by omega)
              have hjk : (k : Int) < (n : Int) := by omega
              generalize s[k] = d at *
              have h10 := u_neq 5 d 10 10 rfl
              by_cases hd : d = 10
              · have HS2 : Hid (E = k + skp false (s.drop k)) := by
                  have := HSJ.out
                  rw [skp, if_pos hd] at this
                  show E = _
                  rw [HKC.out, skp, if_pos (by rw [hd]; decide)]
                  exact this
                have hne : k ≠ a' := fun e => by
                  have h1 := HGC.out
                  rw [e, ← List.head?_drop, HCC.out, List.head?_cons, H5.out, hd] at h1
                  exact absurd h1 (by decide)
                rw [decide_eq_true hd] at h10
                clear hd hkl
                go_wp2_with fail
                go_roundg (n - k)
                case measure => omega
                case rel => exact ⟨k, by omega, rfl, rfl, HS2.out⟩
              · have HS2 : Hid (E = k + 1 + skp true (s.drop (k + 1))) := by
                  have := HSJ.out
                  rw [skp, if_neg hd] at this
                  show E = _
                  omega
                rw [decide_eq_false hd] at h10
                clear hd hkl
                go_wp2_with fail
                go_roundg (gk - 1)
                case measure => omega
                case rel => exact ⟨k + 1, by omega, by omega, by go_num, rfl, HS2.out⟩
            · have hjk : ¬ (k : Int) < (n : Int) := by omega
              have HS2 : Hid (E = k + skp false (s.drop k)) := by
                have := HJ.out
                rw [skp_end s k true (by rw [← HN.out]; omega)] at this
                show E = _
                rw [skp_end s k false (by rw [← HN.out]; omega)]
                exact this
              go_wp2_with fail
              go_roundg (n - k)
              case measure => omega
              case rel => exact ⟨k, by omega, rfl, rfl, HS2.out⟩
        · have HST : Hid (E = a') := by
            have := HSK.out
            rw [skp, if_neg (by rw [hb]; decide), if_neg h5] at this
            exact this
          rw [decide_eq_false h5] at h35
          clear hb hbb h5
          go_wp2_with fail
          go_ret
          exact ⟨by rw [HST.out]; rfl, rfl⟩
    · have hji : ¬ (a' : Int) < (n : Int) := by omega
      have HST : Hid (E = a') := by
        have := HI.out
        rw [skp_end s a' false (by rw [← HN.out]; omega)] at this
        exact this
      go_wp2_with fail
      go_ret
      exact ⟨by rw [HST.out]; rfl, rfl⟩

theorem tw_take2 (p : UInt8 → Bool) : ∀ (l : Bs) (k : Nat), (l.take k).all p = true → (l.length ≤ k ∨ ∃ c, l[k]? = some c ∧ p c = false) → l.takeWhile p = l.take k
  | [], k, _, _ => by simp
  | c :: r, 0, _, h => by
    rcases h with h | ⟨d, h1, h2⟩
    · simp at h
    · simp at h1
      subst h1
      simp [h2]
  | c :: r, k + 1, ha, h => by
    rw [List.take_succ_cons, List.all_cons, Bool.and_eq_true] at ha
    rw [List.takeWhile_cons, if_pos ha.1, List.take_succ_cons, tw_take2 p r k ha.2]
    rcases h with h | ⟨d, h1, h2⟩
    · left; simpa using h
    · right; exact ⟨d, by simpa using h1, h2⟩
theorem s_cut {P : Program} {T : TypeId} (hT : P.underlying T = some .string) (l : Bs) (a k : Nat) (hk : a + k ≤ l.length) (W : World) :
    (Instr.slice T (sv l) (some (.int .i64 (a : Int))) (some (.int .i64 ((a + k : Nat) : Int))) none).run P W = .ok (sv ((l.drop a).take k)) W := by
  rw [run_slice_string_if W T (ss l) .i64 .i64 _ _ hT, if_pos ⟨by omega, by rw [ss_size]; omega⟩, if_pos ⟨by omega, by omega⟩, Int.toNat_natCast, Int.toNat_natCast,
    ss_of ((ss l).extract a (a + k)), Lib.extract_data, ss_list, Nat.add_sub_cancel_left]
theorem valS_snoc2 (l : Bs) (c : UInt8) : valS (l ++ [c]) = 10 * valS l + (c.toNat - 48) := by unfold valS; rw [List.foldl_append]; rfl
theorem q_int (c : UInt8) (W : World) : (convert 5 3 (.int .u8 (c.toNat : Int))).run Tryz.prog W = .ok (.int .i64 ((c.toNat : Nat) : Int)) W := by
  rw [run_convert_int (P := Tryz.prog) W 5 3 .u8 _ (by kernel_rfl) (by kernel_rfl), show Tryz.prog.intKind 3 = .i64 by kernel_rfl, IntWalk.i64_in _ (by have := c.toNat_lt; omega)]
theorem digB_bd {c : UInt8} (h : digB c = true) : 48 ≤ c.toNat ∧ c.toNat ≤ 57 := of_decide_eq_true h

theorem below_four' {B g : Nat} {w : World} (hg : B ≤ g) (a b c d : Value) : Below B w ((((w.setCell ⟨g, 0, none⟩ a).setCell ⟨g, 1, none⟩ b).setCell ⟨g, 2, none⟩ c).setCell ⟨g, 3, none⟩ d) := below_four hg a b c d
set_option maxHeartbeats 4000000 in
set_option maxRecDepth 100000 in
theorem rnext_any (s : Bs) (hs : s.length ≤ 2000) (a : Nat) (ha : a ≤ s.length) (w : World) :
    Calls Tryz.prog 52 #[sv s, .int .i64 (a : Int)] w fun e w' => e = .returned (rtV (nextS (s.drop a) a)) ∧ Below w.heap.size w w' := by
  obtain ⟨W1, hW1⟩ : ∃ W1, W1 = w.alloc (.cells #[.string ⟨#[]⟩, .int .i64 0, .int .i64 0, .int .i64 0] 46) := ⟨_, rfl⟩
  have HBL : Hid (Below w.heap.size w W1) := by rw [hW1]; exact below_new w _
  have HB1 : Hid (Blk W1 w.heap.size 46 [.string ⟨#[]⟩, .int .i64 0, .int .i64 0, .int .i64 0]) := by rw [hW1]; exact Blk.new w _ [.string ⟨#[]⟩, .int .i64 0, .int .i64 0, .int .i64 0]
  have d0 := HB1.out.cell 0
  have d1 := HB1.out.cell 1
  have d2 := HB1.out.cell 2
  have d3 := HB1.out.cell 3
  have f0 := HB1.out.free 0
  have f1 := HB1.out.free 1
  have f2 := HB1.out.free 2
  have f3 := HB1.out.free 3
  have HW1 := hideIt hW1
  obtain ⟨x, hx⟩ : ∃ x, x = nextS (s.drop a) a := ⟨_, rfl⟩
  rw [← hx]
  have HSK := hideIt (rskip_any s (by omega) a ha)
  have hpl := skp_le false (s.drop a)
  rw [List.length_drop] at hpl
  unfold nextS at hx
  rw [List.drop_drop] at hx
  obtain ⟨p, hp⟩ : ∃ p, p = a + skp false (s.drop a) := ⟨_, rfl⟩
  rw [← hp] at hx HSK
  have hpn : p ≤ s.length := by omega
  have hln := len_c s
  have HX := hideIt (fun i hi => s_at Tryz.underlying9 s i hi)
  have HCUT := hideIt (fun k hk => s_cut Tryz.underlying9 s p k hk)
  have HDX := hideIt (fun (j : Nat) (h : j < s.length) => List.drop_eq_getElem_cons h)
  have HGR : Hid (∀ k, (s.drop p)[k]? = s[p + k]?) := fun k => by rw [List.getElem?_drop]
  have HLR : Hid ((s.drop p).length = s.length - p) := List.length_drop ..
  have HTK : Hid (∀ k (h : p + k < s.length), (s.drop p).take (k + 1) = (s.drop p).take k ++ [s[p + k]]) := fun k h => by
    rw [take_snoc _ _ (by rw [List.length_drop]; omega), List.getElem_drop]
  clear hp hpl hW1
  obtain ⟨n, hn⟩ : ∃ n, n = s.length := ⟨_, rfl⟩
  rw [← hn] at hln hs ha hpn
  have HN := hideIt hn
  clear hn
  have hpi := i_eql 3 .i64 (p : Int) (n : Int)
  by_cases hend : p = n
  · have HXT : Hid (x = ⟨[], p, 4, 0⟩) := by
      rw [List.drop_of_length_le (by rw [← HN.out]; omega)] at hx
      exact hx
    rw [decide_eq_true (by omega)] at hpi
    clear hx hend
    go_enter Tryz.func52, Tryz.ntmps52
    go_wp2_with (go_at_call 79; rw [← HW1.out]; refine (HSK.out _).mono ?_; rintro e w' ⟨rfl, rfl⟩)
    refine bodyPost_ret (rtok_ret ⟨[], p, 4, 0⟩ rfl _ _ w.heap.size _ _ rfl ((((HB1.out.store 0 (sv ([]))).store 1 (.int .i64 (p : Int))).store 2 (.int .i64 4)).store 3 (.int .i64 (0 : Int))) Tryz.underlying46 rfl irt) rfl ⟨by rw [HXT.out], ?_⟩
    exact HBL.out.trans (below_four (Nat.le_refl _) _ _ _ _)
  rw [decide_eq_false (by omega)] at hpi
  have hpl : p < n := by omega
  have hps : p < s.length := by rw [← HN.out]; exact hpl
  have hxp := HX.out p hps
  have HR := hideIt (HDX.out p hps)
  have HGP := hideIt (List.getElem?_eq_getElem hps)
  generalize s[p] = c at *
  have HLC := hideIt (rletter_any c)
  have HDC := hideIt (rdigit_any c)
  clear hps hend
  cases hlc : letB c with
  | true =>
    rw [hlc] at HLC
    have HXX : Hid (x = ⟨(s.drop p).takeWhile alnB, p, 1, 0⟩) := by
      rw [HR.out] at hx
      rw [HR.out]
      exact hx.trans (if_pos hlc)
    clear hx hlc hpi
    have hpi := i_eql 3 .i64 (p : Int) (n : Int)
    rw [decide_eq_false (by omega)] at hpi
    go_enter Tryz.func52, Tryz.ntmps52
    go_wp2_with (first
      | (go_at_call 79; rw [← HW1.out]; refine (HSK.out _).mono ?_; rintro e w' ⟨rfl, rfl⟩)
      | (go_at_call 62; refine (HLC.out _).mono ?_; rintro e w' ⟨rfl, rfl⟩))
    clear hpi hxp
    go_loopg [5] (n - p) (fun gk s5 wr => ∃ k : Nat, p + k + gk = n ∧ s5 = .int .i64 ((p + k : Nat) : Int) ∧ wr = W1 ∧ Aside (((s.drop p).take k).all alnB = true))
    case atStart => exact ⟨0, by omega, rfl, rfl, rfl⟩
    case round =>
      obtain ⟨k, hk, rfl, rfl, HI⟩ := hrel
      by_cases hlt : p + k < n
      · have hkl : p + k < s.length := by rw [← HN.out]; exact hlt
        have hxk := HX.out (p + k) hkl
        have HT := hideIt (HTK.out k hkl)
        have HG := hideIt ((HGR.out k).trans (List.getElem?_eq_getElem hkl))
        have hinc := inc_w 3 (p + k) (by omega)
        have hji : ((p + k : Nat) : Int) < (n : Int) := by omega
        have hcut := HCUT.out k (by rw [← HN.out]; omega)
        generalize s[p + k] = d at *
        have HLD := hideIt (rletter_any d)
        have HDD := hideIt (rdigit_any d)
        clear hkl
        have HEX : Hid (alnB d = false → x = ⟨(s.drop p).take k, p, 1, 0⟩) := fun h => by
          rw [HXX.out, tw_take2 alnB _ k HI.out (.inr ⟨d, HG.out, h⟩)]
        have HGO : Hid (alnB d = true → ((s.drop p).take (k + 1)).all alnB = true) := fun h => by
          rw [HT.out, List.all_append, HI.out]
          simp [h]
        have HAL : Hid (alnB d = (letB d || digB d)) := rfl
        generalize (s.drop p).take k = tx at *
        obtain ⟨pk, hpk⟩ : ∃ pk, pk = p + k := ⟨_, rfl⟩
        rw [← hpk] at hcut hxk hji hinc hlt hk ⊢
        have HPK := hideIt hpk
        clear hpk
        cases h1 : letB d with
        | true =>
          rw [h1] at HLD HAL
          have HN1 := hideIt (HGO.out HAL.out)
          clear h1
          go_wp2_with (go_at_call 62; refine (HLD.out _).mono ?_; rintro e w' ⟨rfl, rfl⟩)
          go_roundg (gk - 1)
          case measure => omega
          case rel => exact ⟨k + 1, by have := HPK.out; omega, by have := HPK.out; go_num, rfl, HN1.out⟩
        | false =>
          rw [h1] at HLD HAL
          cases h2 : digB d with
          | true =>
            rw [h2] at HDD HAL
            have HN1 := hideIt (HGO.out HAL.out)
            clear h1 h2
            go_wp2_with (first
              | (go_at_call 62; refine (HLD.out _).mono ?_; rintro e w' ⟨rfl, rfl⟩)
              | (go_at_call 63; refine (HDD.out _).mono ?_; rintro e w' ⟨rfl, rfl⟩))
            go_roundg (gk - 1)
            case measure => omega
            case rel => exact ⟨k + 1, by have := HPK.out; omega, by have := HPK.out; go_num, rfl, HN1.out⟩
          | false =>
            rw [h2] at HDD HAL
            have HXT := hideIt (HEX.out HAL.out)
            clear h1 h2
            go_wp2_with (first
              | (go_at_call 62; refine (HLD.out _).mono ?_; rintro e w' ⟨rfl, rfl⟩)
              | (go_at_call 63; refine (HDD.out _).mono ?_; rintro e w' ⟨rfl, rfl⟩))
            refine bodyPost_ret (rtok_ret ⟨tx, p, 1, 0⟩ rfl _ _ w.heap.size _ _ rfl ((((HB1.out.store 0 (sv (tx))).store 1 (.int .i64 (p : Int))).store 2 (.int .i64 1)).store 3 (.int .i64 (0 : Int))) Tryz.underlying46 rfl irt) rfl ⟨by rw [HXT.out], ?_⟩
            exact HBL.out.trans (below_four (Nat.le_refl _) _ _ _ _)
      · obtain hkn : p + k = n := by omega
        have HXT : Hid (x = ⟨(s.drop p).take k, p, 1, 0⟩) := by
          show x = _
          rw [HXX.out, tw_take2 alnB _ k HI.out (.inl (by rw [HLR.out, ← HN.out]; omega))]
        have hcut := HCUT.out k (by rw [← HN.out]; omega)
        have hji : ¬ ((p + k : Nat) : Int) < (n : Int) := by omega
        generalize (s.drop p).take k = tx at *
        obtain ⟨pk, hpk⟩ : ∃ pk, pk = p + k := ⟨_, rfl⟩
        rw [← hpk] at hcut hji hlt hk hkn ⊢
        clear hpk hkn
        go_wp2_with fail
        refine bodyPost_ret (rtok_ret ⟨tx, p, 1, 0⟩ rfl _ _ w.heap.size _ _ rfl ((((HB1.out.store 0 (sv (tx))).store 1 (.int .i64 (p : Int))).store 2 (.int .i64 1)).store 3 (.int .i64 (0 : Int))) Tryz.underlying46 rfl irt) rfl ⟨by rw [HXT.out], ?_⟩
        exact HBL.out.trans (below_four (Nat.le_refl _) _ _ _ _)
  | false =>
    rw [hlc] at HLC
    cases hdc : digB c with
    | true =>
      rw [hdc] at HDC
      have HXX : Hid (x = if 5 < ((s.drop p).takeWhile digB).length ∨ c = 48 ∧ 1 < ((s.drop p).takeWhile digB).length then (⟨[], p, 5, 0⟩ : Tk) else ⟨(s.drop p).takeWhile digB, p, 2, valS ((s.drop p).takeWhile digB)⟩) := by
        rw [HR.out] at hx
        rw [HR.out]
        exact hx.trans ((if_neg (by rw [hlc]; decide)).trans (if_pos hdc))
      have h48 := u_eql 5 c 48 48 rfl
      clear hx hlc hdc
      go_enter Tryz.func52, Tryz.ntmps52
      go_wp2_with (first
        | (go_at_call 79; rw [← HW1.out]; refine (HSK.out _).mono ?_; rintro e w' ⟨rfl, rfl⟩)
        | (go_at_call 62; refine (HLC.out _).mono ?_; rintro e w' ⟨rfl, rfl⟩)
        | (go_at_call 63; refine (HDC.out _).mono ?_; rintro e w' ⟨rfl, rfl⟩))
      clear hpi hxp
      go_loopg [5, 7] (n - p) (fun gk s5 s7 wr => ∃ k v : Nat, p + k + gk = n ∧ s5 = .int .i64 ((p + k : Nat) : Int) ∧ s7 = .int .i64 (v : Int) ∧ wr = W1 ∧ v < 1000000 ∧ Aside (((s.drop p).take k).all digB = true ∧ v = valS ((s.drop p).take (min k 6))))
      case atStart => exact ⟨0, 0, by omega, rfl, rfl, rfl, by omega, rfl, rfl⟩
      case round =>
        obtain ⟨k, v, hk, rfl, rfl, rfl, hv, HI⟩ := hrel
        have HFIN : Hid (((s.drop p).length ≤ k ∨ ∃ d, (s.drop p)[k]? = some d ∧ digB d = false) → x = if 5 < k ∨ c = 48 ∧ 1 < k then (⟨[], p, 5, 0⟩ : Tk) else ⟨(s.drop p).take k, p, 2, v⟩) := fun h => by
          have htw := tw_take2 digB _ k HI.out.1 h
          have hlen : ((s.drop p).take k).length = k := by rw [List.length_take, HLR.out, ← HN.out]; omega
          rw [HXX.out, htw, hlen]
          by_cases hc : 5 < k ∨ c = 48 ∧ 1 < k
          · rw [if_pos hc, if_pos hc]
          · rw [if_neg hc, if_neg hc, HI.out.2, Nat.min_eq_left (by omega)]
        have hcut := HCUT.out k (by rw [← HN.out]; omega)
        have hsub : binOp .sub 3 (.int .i64 ((p + k : Nat) : Int)) (.int .i64 (p : Int)) = pure (.int .i64 (k : Int)) := by
          have := q_sub 3 (p + k) p (by omega) (by omega)
          rw [Nat.add_sub_cancel_left] at this
          exact this
        have HEND : Hid ((5 < k ∨ c = 48 ∧ 1 < k) → (x = if 5 < k ∨ c = 48 ∧ 1 < k then (⟨[], p, 5, 0⟩ : Tk) else ⟨(s.drop p).take k, p, 2, v⟩) → x = ⟨[], p, 5, 0⟩) := fun h e => e.trans (if_pos h)
        have HEN2 : Hid (¬ (5 < k ∨ c = 48 ∧ 1 < k) → (x = if 5 < k ∨ c = 48 ∧ 1 < k then (⟨[], p, 5, 0⟩ : Tk) else ⟨(s.drop p).take k, p, 2, v⟩) → x = ⟨(s.drop p).take k, p, 2, v⟩) := fun h e => e.trans (if_neg h)
        by_cases hlt : p + k < n
        · have hkl : p + k < s.length := by rw [← HN.out]; exact hlt
          have hxk := HX.out (p + k) hkl
          have HT := hideIt (HTK.out k hkl)
          have HG := hideIt ((HGR.out k).trans (List.getElem?_eq_getElem hkl))
          have hinc := inc_w 3 (p + k) (by omega)
          have hji : ((p + k : Nat) : Int) < (n : Int) := by omega
          generalize s[p + k] = d at *
          have HDD := hideIt (rdigit_any d)
          clear hkl
          cases h2 : digB d with
          | true =>
            rw [h2] at HDD
            have hdb := digB_bd h2
            have HN1 : Hid (((s.drop p).take (k + 1)).all digB = true) := by
              show _ = _
              rw [HT.out, List.all_append, HI.out.1]
              simp [h2]
            obtain ⟨pk, hpk⟩ : ∃ pk, pk = p + k := ⟨_, rfl⟩
            rw [← hpk] at hxk hji hinc hlt hk hsub ⊢
            have HPK := hideIt hpk
            clear hpk h2 hcut
            by_cases h6 : k < 6
            · have hk6 : (k : Int) < 6 := by omega
              have HV : Hid (10 * v + d.toNat - 48 = valS ((s.drop p).take (min (k + 1) 6))) := by
                show _ = _
                have h2 := HI.out.2
                rw [Nat.min_eq_left (by omega)] at h2
                rw [Nat.min_eq_left (by omega), HT.out, valS_snoc2, ← h2]
                omega
              have hvb : 10 * v + d.toNat - 48 < 1000000 := by
                rw [HV.out]
                have h3 := HN1.out
                rw [Nat.min_eq_left (by omega)]
                have h4 := valS_lt _ (List.all_eq_true.1 h3) 0
                have h5 : ((s.drop p).take (k + 1)).length ≤ 6 := by rw [List.length_take]; omega
                have h7 : 10 ^ ((s.drop p).take (k + 1)).length ≤ 10 ^ 6 := Nat.pow_le_pow_right (by omega) h5
                unfold valS
                omega
              have hmul : binOp .mul 3 (.int .i64 10) (.int .i64 (v : Int)) = pure (.int .i64 ((10 * v : Nat) : Int)) := q_mul 3 10 v (by omega)
              have hcv := q_int d
              have hadd := q_add 3 (10 * v) d.toNat (by omega)
              have hsb2 : binOp .sub 3 (.int .i64 ((10 * v + d.toNat : Nat) : Int)) (.int .i64 48) = pure (.int .i64 ((10 * v + d.toNat - 48 : Nat) : Int)) := q_sub 3 (10 * v + d.toNat) 48 (by omega) (by omega)
              generalize 10 * v + d.toNat - 48 = v3 at *
              generalize 10 * v + d.toNat = v2 at *
              generalize 10 * v = v1 at *
              generalize d.toNat = dn at *
              clear hdb
              go_wp2_with (go_at_call 63; refine (HDD.out _).mono ?_; rintro e w' ⟨rfl, rfl⟩)
              go_roundg (gk - 1)
              case measure => omega
              case rel => exact ⟨k + 1, v3, by have := HPK.out; omega, by have := HPK.out; go_num, rfl, rfl, hvb, HN1.out, HV.out⟩
            · have hk6 : ¬ (k : Int) < 6 := by omega
              have HV : Hid (v = valS ((s.drop p).take (min (k + 1) 6))) := by
                show _ = _
                have h2 := HI.out.2
                rw [Nat.min_eq_right (by omega)] at h2
                rw [Nat.min_eq_right (by omega), ← h2]
              clear hdb
              go_wp2_with (go_at_call 63; refine (HDD.out _).mono ?_; rintro e w' ⟨rfl, rfl⟩)
              go_roundg (gk - 1)
              case measure => omega
              case rel => exact ⟨k + 1, v, by have := HPK.out; omega, by have := HPK.out; go_num, rfl, rfl, hv, HN1.out, HV.out⟩
          | false =>
            rw [h2] at HDD
            have HF := hideIt (HFIN.out (.inr ⟨d, HG.out, h2⟩))
            clear h2 hinc
            generalize (s.drop p).take k = tx at *
            obtain ⟨pk, hpk⟩ : ∃ pk, pk = p + k := ⟨_, rfl⟩
            rw [← hpk] at hxk hji hlt hk hsub hcut ⊢
            clear hpk
            by_cases h5 : 5 < k
            · have h5i : (k : Int) > 5 := by omega
              have HXT := hideIt (HEND.out (.inl h5) HF.out)
              clear h48
              go_wp2_with (go_at_call 63; refine (HDD.out _).mono ?_; rintro e w' ⟨rfl, rfl⟩)
              refine bodyPost_ret (rtok_ret ⟨[], p, 5, 0⟩ rfl _ _ w.heap.size _ _ rfl ((((HB1.out.store 0 (sv ([]))).store 1 (.int .i64 (p : Int))).store 2 (.int .i64 5)).store 3 (.int .i64 (0 : Int))) Tryz.underlying46 rfl irt) rfl ⟨by rw [HXT.out], ?_⟩
              exact HBL.out.trans (below_four (Nat.le_refl _) _ _ _ _)
            · have h5i : ¬ (k : Int) > 5 := by omega
              by_cases hc : c = 48
              · rw [decide_eq_true hc] at h48
                by_cases h1 : 1 < k
                · have h1i : (k : Int) > 1 := by omega
                  have HXT := hideIt (HEND.out (.inr ⟨hc, h1⟩) HF.out)
                  clear hc
                  go_wp2_with (go_at_call 63; refine (HDD.out _).mono ?_; rintro e w' ⟨rfl, rfl⟩)
                  refine bodyPost_ret (rtok_ret ⟨[], p, 5, 0⟩ rfl _ _ w.heap.size _ _ rfl ((((HB1.out.store 0 (sv ([]))).store 1 (.int .i64 (p : Int))).store 2 (.int .i64 5)).store 3 (.int .i64 (0 : Int))) Tryz.underlying46 rfl irt) rfl ⟨by rw [HXT.out], ?_⟩
                  exact HBL.out.trans (below_four (Nat.le_refl _) _ _ _ _)
                · have h1i : ¬ (k : Int) > 1 := by omega
                  have HXT := hideIt (HEN2.out (by omega) HF.out)
                  clear hc
                  go_wp2_with (go_at_call 63; refine (HDD.out _).mono ?_; rintro e w' ⟨rfl, rfl⟩)
                  refine bodyPost_ret (rtok_ret ⟨tx, p, 2, v⟩ rfl _ _ w.heap.size _ _ rfl ((((HB1.out.store 0 (sv (tx))).store 1 (.int .i64 (p : Int))).store 2 (.int .i64 2)).store 3 (.int .i64 (v : Int))) Tryz.underlying46 rfl irt) rfl ⟨by rw [HXT.out], ?_⟩
                  exact HBL.out.trans (below_four (Nat.le_refl _) _ _ _ _)
              · rw [decide_eq_false hc] at h48
                have HXT := hideIt (HEN2.out (fun q => q.elim h5 (fun q => hc q.1)) HF.out)
                clear hc
                go_wp2_with (go_at_call 63; refine (HDD.out _).mono ?_; rintro e w' ⟨rfl, rfl⟩)
                refine bodyPost_ret (rtok_ret ⟨tx, p, 2, v⟩ rfl _ _ w.heap.size _ _ rfl ((((HB1.out.store 0 (sv (tx))).store 1 (.int .i64 (p : Int))).store 2 (.int .i64 2)).store 3 (.int .i64 (v : Int))) Tryz.underlying46 rfl irt) rfl ⟨by rw [HXT.out], ?_⟩
                exact HBL.out.trans (below_four (Nat.le_refl _) _ _ _ _)
        · have hkn : p + k = n := by omega
          have hji : ¬ ((p + k : Nat) : Int) < (n : Int) := by omega
          have HF := hideIt (HFIN.out (.inl (by rw [HLR.out, ← HN.out]; omega)))
          generalize (s.drop p).take k = tx at *
          obtain ⟨pk, hpk⟩ : ∃ pk, pk = p + k := ⟨_, rfl⟩
          rw [← hpk] at hji hlt hk hsub hcut hkn ⊢
          clear hpk hkn
          by_cases h5 : 5 < k
          · have h5i : (k : Int) > 5 := by omega
            have HXT := hideIt (HEND.out (.inl h5) HF.out)
            clear h48
            go_wp2_with fail
            refine bodyPost_ret (rtok_ret ⟨[], p, 5, 0⟩ rfl _ _ w.heap.size _ _ rfl ((((HB1.out.store 0 (sv ([]))).store 1 (.int .i64 (p : Int))).store 2 (.int .i64 5)).store 3 (.int .i64 (0 : Int))) Tryz.underlying46 rfl irt) rfl ⟨by rw [HXT.out], ?_⟩
            exact HBL.out.trans (below_four (Nat.le_refl _) _ _ _ _)
          · have h5i : ¬ (k : Int) > 5 := by omega
            by_cases hc : c = 48
            · rw [decide_eq_true hc] at h48
              by_cases h1 : 1 < k
              · have h1i : (k : Int) > 1 := by omega
                have HXT := hideIt (HEND.out (.inr ⟨hc, h1⟩) HF.out)
                clear hc
                go_wp2_with fail
                refine bodyPost_ret (rtok_ret ⟨[], p, 5, 0⟩ rfl _ _ w.heap.size _ _ rfl ((((HB1.out.store 0 (sv ([]))).store 1 (.int .i64 (p : Int))).store 2 (.int .i64 5)).store 3 (.int .i64 (0 : Int))) Tryz.underlying46 rfl irt) rfl ⟨by rw [HXT.out], ?_⟩
                exact HBL.out.trans (below_four (Nat.le_refl _) _ _ _ _)
              · have h1i : ¬ (k : Int) > 1 := by omega
                have HXT := hideIt (HEN2.out (by omega) HF.out)
                clear hc
                go_wp2_with fail
                refine bodyPost_ret (rtok_ret ⟨tx, p, 2, v⟩ rfl _ _ w.heap.size _ _ rfl ((((HB1.out.store 0 (sv (tx))).store 1 (.int .i64 (p : Int))).store 2 (.int .i64 2)).store 3 (.int .i64 (v : Int))) Tryz.underlying46 rfl irt) rfl ⟨by rw [HXT.out], ?_⟩
                exact HBL.out.trans (below_four (Nat.le_refl _) _ _ _ _)
            · rw [decide_eq_false hc] at h48
              have HXT := hideIt (HEN2.out (fun q => q.elim h5 (fun q => hc q.1)) HF.out)
              clear hc
              go_wp2_with fail
              refine bodyPost_ret (rtok_ret ⟨tx, p, 2, v⟩ rfl _ _ w.heap.size _ _ rfl ((((HB1.out.store 0 (sv (tx))).store 1 (.int .i64 (p : Int))).store 2 (.int .i64 2)).store 3 (.int .i64 (v : Int))) Tryz.underlying46 rfl irt) rfl ⟨by rw [HXT.out], ?_⟩
              exact HBL.out.trans (below_four (Nat.le_refl _) _ _ _ _)
    | false =>
      rw [hdc] at HDC
      have HXX : Hid (x = if signB c then ⟨[c], p, 3, 0⟩ else ⟨[], p, 5, 0⟩) := by
        rw [HR.out] at hx
        exact hx.trans ((if_neg (by rw [hlc]; decide)).trans (if_neg (by rw [hdc]; decide)))
      have h123 := u_eql 5 c 123 123 rfl
      have h125 := u_eql 5 c 125 125 rfl
      have h59 := u_eql 5 c 59 59 rfl
      have h58 := u_eql 5 c 58 58 rfl
      have HSG : Hid (signB c = (decide (c = 123) || decide (c = 125) || decide (c = 59) || decide (c = 58))) := by
        show signB c = _
        unfold signB
        rw [Bool.eq_iff_iff]
        simp [or_assoc]
      have hcut := HCUT.out 1 (by rw [← HN.out]; omega)
      rw [show (s.drop p).take 1 = [c] by rw [HR.out]; rfl] at hcut
      have hinc := inc_w 3 p (by omega)
      clear hx hlc hdc
      generalize p + 1 = p1 at hcut hinc
      generalize decide (c = 123) = b1 at h123 HSG
      generalize decide (c = 125) = b2 at h125 HSG
      generalize decide (c = 59) = b3 at h59 HSG
      generalize decide (c = 58) = b4 at h58 HSG
      generalize signB c = sg at *
      have hsg := HSG.out
      subst hsg
      cases b1
      · cases b2
        · cases b3
          · cases b4
            · have HXT : Hid (x = ⟨[], p, 5, 0⟩) := HXX.out
              go_enter Tryz.func52, Tryz.ntmps52
              go_wp2_with (first
                | (go_at_call 79; rw [← HW1.out]; refine (HSK.out _).mono ?_; rintro e w' ⟨rfl, rfl⟩)
                | (go_at_call 62; refine (HLC.out _).mono ?_; rintro e w' ⟨rfl, rfl⟩)
                | (go_at_call 63; refine (HDC.out _).mono ?_; rintro e w' ⟨rfl, rfl⟩))
              refine bodyPost_ret (rtok_ret ⟨[], p, 5, 0⟩ rfl _ _ w.heap.size _ _ rfl ((((HB1.out.store 0 (sv ([]))).store 1 (.int .i64 (p : Int))).store 2 (.int .i64 5)).store 3 (.int .i64 (0 : Int))) Tryz.underlying46 rfl irt) rfl ⟨by rw [HXT.out], ?_⟩
              exact HBL.out.trans (below_four (Nat.le_refl _) _ _ _ _)
            · have HXT : Hid (x = ⟨[c], p, 3, 0⟩) := HXX.out
              go_enter Tryz.func52, Tryz.ntmps52
              go_wp2_with (first
                | (go_at_call 79; rw [← HW1.out]; refine (HSK.out _).mono ?_; rintro e w' ⟨rfl, rfl⟩)
                | (go_at_call 62; refine (HLC.out _).mono ?_; rintro e w' ⟨rfl, rfl⟩)
                | (go_at_call 63; refine (HDC.out _).mono ?_; rintro e w' ⟨rfl, rfl⟩))
              refine bodyPost_ret (rtok_ret ⟨[c], p, 3, 0⟩ rfl _ _ w.heap.size _ _ rfl ((((HB1.out.store 0 (sv ([c]))).store 1 (.int .i64 (p : Int))).store 2 (.int .i64 3)).store 3 (.int .i64 (0 : Int))) Tryz.underlying46 rfl irt) rfl ⟨by rw [HXT.out], ?_⟩
              exact HBL.out.trans (below_four (Nat.le_refl _) _ _ _ _)
          · have HXT : Hid (x = ⟨[c], p, 3, 0⟩) := by have := HXX.out; simp at this; exact this
            go_enter Tryz.func52, Tryz.ntmps52
            go_wp2_with (first
              | (go_at_call 79; rw [← HW1.out]; refine (HSK.out _).mono ?_; rintro e w' ⟨rfl, rfl⟩)
              | (go_at_call 62; refine (HLC.out _).mono ?_; rintro e w' ⟨rfl, rfl⟩)
              | (go_at_call 63; refine (HDC.out _).mono ?_; rintro e w' ⟨rfl, rfl⟩))
            refine bodyPost_ret (rtok_ret ⟨[c], p, 3, 0⟩ rfl _ _ w.heap.size _ _ rfl ((((HB1.out.store 0 (sv ([c]))).store 1 (.int .i64 (p : Int))).store 2 (.int .i64 3)).store 3 (.int .i64 (0 : Int))) Tryz.underlying46 rfl irt) rfl ⟨by rw [HXT.out], ?_⟩
            exact HBL.out.trans (below_four (Nat.le_refl _) _ _ _ _)
        · have HXT : Hid (x = ⟨[c], p, 3, 0⟩) := by have := HXX.out; simp at this; exact this
          go_enter Tryz.func52, Tryz.ntmps52
          go_wp2_with (first
            | (go_at_call 79; rw [← HW1.out]; refine (HSK.out _).mono ?_; rintro e w' ⟨rfl, rfl⟩)
            | (go_at_call 62; refine (HLC.out _).mono ?_; rintro e w' ⟨rfl, rfl⟩)
            | (go_at_call 63; refine (HDC.out _).mono ?_; rintro e w' ⟨rfl, rfl⟩))
          refine bodyPost_ret (rtok_ret ⟨[c], p, 3, 0⟩ rfl _ _ w.heap.size _ _ rfl ((((HB1.out.store 0 (sv ([c]))).store 1 (.int .i64 (p : Int))).store 2 (.int .i64 3)).store 3 (.int .i64 (0 : Int))) Tryz.underlying46 rfl irt) rfl ⟨by rw [HXT.out], ?_⟩
          exact HBL.out.trans (below_four (Nat.le_refl _) _ _ _ _)
      · have HXT : Hid (x = ⟨[c], p, 3, 0⟩) := by have := HXX.out; simp at this; exact this
        go_enter Tryz.func52, Tryz.ntmps52
        go_wp2_with (first
          | (go_at_call 79; rw [← HW1.out]; refine (HSK.out _).mono ?_; rintro e w' ⟨rfl, rfl⟩)
          | (go_at_call 62; refine (HLC.out _).mono ?_; rintro e w' ⟨rfl, rfl⟩)
          | (go_at_call 63; refine (HDC.out _).mono ?_; rintro e w' ⟨rfl, rfl⟩))
        refine bodyPost_ret (rtok_ret ⟨[c], p, 3, 0⟩ rfl _ _ w.heap.size _ _ rfl ((((HB1.out.store 0 (sv ([c]))).store 1 (.int .i64 (p : Int))).store 2 (.int .i64 3)).store 3 (.int .i64 (0 : Int))) Tryz.underlying46 rfl irt) rfl ⟨by rw [HXT.out], ?_⟩
        exact HBL.out.trans (below_four (Nat.le_refl _) _ _ _ _)

theorem toksS_pos (f : Nat) (r : Bs) (p : Nat) : toksS (f + 1) r p = if 3 < (nextS r p).kd then [nextS r p] else nextS r p :: toksS f (r.drop (skp false r + (nextS r p).tx.length)) (p + skp false r + (nextS r p).tx.length) := rfl

theorem toks_next {s : Bs} {p : Nat} (hp : p ≤ s.length) (x : Tk) (hx : x = nextS (s.drop p) p) : x.ps + x.tx.length ≤ s.length ∧ p ≤ x.ps ∧ (x.kd ≤ 3 → p < x.ps + x.tx.length) ∧
    ∀ f, toksS (f + 1) (s.drop p) p = if 3 < x.kd then [x] else x :: toksS f (s.drop (x.ps + x.tx.length)) (x.ps + x.tx.length) := by
  obtain ⟨h1, h2, h3⟩ := nextS_of (s.drop p) p
  have h4 := nextS_kind (s.drop p) p
  rw [← hx] at h1 h2 h3 h4
  rw [List.length_drop] at h3
  refine ⟨by omega, by omega, fun hk => ?_, fun f => ?_⟩
  · have h5 := (h4 (by omega)).fin
    have : x.tx ≠ [] := fun e => by have := h5.1 e; omega
    have : 0 < x.tx.length := List.length_pos_iff.2 this
    omega
  · rw [toksS_pos, ← hx, List.drop_drop]
    have e1 : p + (skp false (s.drop p) + x.tx.length) = x.ps + x.tx.length := by omega
    have e2 : p + skp false (s.drop p) + x.tx.length = x.ps + x.tx.length := by omega
    rw [e1, e2]
set_option maxHeartbeats 2000000 in
set_option maxRecDepth 100000 in
theorem rtokens_any (s : Bs) (hs : s.length ≤ 2000) (w : World) :
    Calls Tryz.prog 23 #[sv s] w fun e w' => (∃ A c, e = .returned (.slice A (toks s).length c) ∧ RtS w' w.heap.size (.slice A (toks s).length c) (toks s)) ∧ Below w.heap.size w w' := by
  obtain ⟨i0, hi, hz0, hz1, hz2⟩ := info_three (show (Tryz.prog.info? 46).map (fun i => (i.zero, i.size, i.bytes)) = some (some (.agg #[.string ⟨#[]⟩, .int .i64 0, .int .i64 0, .int .i64 0]), 4, 40) by kernel_rfl)
  obtain ⟨T, hT⟩ : ∃ T, T = toks s := ⟨_, rfl⟩
  have HTL : Hid (T.length ≤ 2001) := by have := (toks_of s).2.2; rw [← hT] at this; exact (by omega : T.length ≤ 2001)
  rw [← hT]
  have HT := hideIt hT
  have HNX := hideIt (fun p hp W => rnext_any s hs p hp W)
  have HST := hideIt (fun p (hp : p ≤ s.length) => toks_next hp _ rfl)
  have hsl : s.length ≤ 2000 := hs
  generalize hn : s.length = n at *
  clear hs hT
  go_enter Tryz.func23, Tryz.ntmps23
  go_wp2_with fail
  go_loopg [3, 4] (n + 1) (fun gk s3 s4 wr => ∃ (p : Nat) (out : List Tk) (v3 : Value), v3 = s3 ∧ p ≤ n ∧ n - p < gk ∧ s4 = .int .i64 (p : Int) ∧ Aside (out ++ toksS gk (s.drop p) p = T ∧ wr.ownsRow w.heap.size 46 4 s3 out.length (out.flatMap rtC) ∧ Below w.heap.size w wr))
  case atStart => exact ⟨0, [], _, rfl, by omega, by omega, rfl, by rw [HT.out]; unfold toks; rw [hn]; rfl, World.ownsRow_nil _ _ _ _, Below.refl _ _⟩
  case round =>
    obtain ⟨p, out, v3, rfl, hpn, hpg, rfl, HI⟩ := hrel
    have HX := hideIt (HNX.out p hpn)
    have hnx := HST.out p hpn
    generalize nextS (s.drop p) p = x at *
    obtain ⟨g, hg⟩ : ∃ g, gk = g + 1 := ⟨gk - 1, by omega⟩
    have HG := hideIt hg
    have HTO : Hid (out ++ (if 3 < x.kd then [x] else x :: toksS g (s.drop (x.ps + x.tx.length)) (x.ps + x.tx.length)) = T) := by
      have := HI.out.1
      rw [hg, hnx.2.2.2 g] at this
      exact this
    have HNP := hideIt hnx.1
    have HNQ := hideIt hnx.2.2.1
    have hol : out.length ≤ 2001 := by
      have h1 := congrArg List.length HTO.out
      rw [List.length_append] at h1
      have := HTL.out
      omega
    have hln := len_c x.tx
    have hadd := q_add 3 x.ps x.tx.length (by omega)
    clear hnx hg hn
    by_cases h3 : 3 < x.kd
    · have hk3 : (x.kd : Int) > 3 := by omega
      have HEN : Hid (out ++ [x] = T) := by have := HTO.out; rw [if_pos h3] at this; exact this
      clear h3
      go_wp2_with (first
        | (go_at_call 52; refine (HX.out _).mono ?_; rintro e w3 ⟨rfl, hb⟩; have HB3 := hideIt hb; have hO3 := own_kept HI.out.2.1 hb; have HNE : Hid (some w3.heap.size ≠ v3.ownBlock) := (fun e => by have := World.ownsRow.lt hO3 _ e.symm; omega); have HO3 := hideIt hO3; have ht3 := Blk.new w3 46 (rtC x); have d0 := ht3.cell 0; have d1 := ht3.cell 1; have d2 := ht3.cell 2; have d3 := ht3.cell 3; have HT3 := hideIt ht3; clear hb hO3 ht3)
        | ((with_reducible refine at_append ?_); refine wpList_app2 rfl (.tmp 9) (.tmp 11) 43 rfl w.heap.size 46 i0 (.agg #[.string ⟨#[]⟩, .int .i64 0, .int .i64 0, .int .i64 0]) 4 40 Tryz.underlying43 hi hz0 hz1 hz2 rfl (by decide) _ out.length (out.flatMap rtC) rfl ((HO3.out.alloc _).alloc _) _ _ 1 1 (rtC x) rfl (sl_cells2 w3 _ 46 (rtC x) 4 rfl) (rt_ones x) (by unfold maxLen; omega) (by omega) (Nat.le_trans HI.out.2.2.size (Nat.le_trans HB3.out.size (Nat.le_trans (below_new w3 (.cells (rtC x).toArray 46)).size (below_new _ _).size))) ?_; intro v4 w4 ho4 hg4; have HO4 := own_is (n' := (out ++ [x]).length) (xs' := (out ++ [x]).flatMap rtC) ho4 (by simp) (by simp); have ht4 := (HT3.out.alloc (.cells (rtC x).toArray 46)).grown hg4 HNE.out; have e0 := ht4.cell 0; have e1 := ht4.cell 1; have e2 := ht4.cell 2; have HG4 := hideIt hg4; clear ho4 hg4 ht4 d0 d1 d2 d3))
      go_ret
      have hown := (HO3.out.alloc (.cells (rtC x).toArray 46)).alloc (.cells (rtC x).toArray 46)
      have hb3 := HI.out.2.2.trans (HB3.out.mono HI.out.2.2.size)
      have hb4 := (hb3.alloc hb3.size (.cells (rtC x).toArray 46))
      have hb5 := (hb4.alloc hb4.size (.cells (rtC x).toArray 46))
      refine ⟨?_, below_grown hb5 hown (Nat.le_refl _) hb5.size HG4.out⟩
      have ho := HO4.out
      rw [HEN.out] at ho
      obtain ⟨A, c, rfl, _, _⟩ := own_form ho
      exact ⟨A, c, rfl, ho⟩
    · have hk3 : ¬ (x.kd : Int) > 3 := by omega
      have HEN : Hid ((out ++ [x]) ++ toksS g (s.drop (x.ps + x.tx.length)) (x.ps + x.tx.length) = T) := by
        have := HTO.out
        rw [if_neg h3] at this
        show _ = _
        rw [List.append_assoc]
        exact this
      have hnq := HNQ.out (by omega)
      clear h3
      go_wp2_with (first
        | (go_at_call 52; refine (HX.out _).mono ?_; rintro e w3 ⟨rfl, hb⟩; have HB3 := hideIt hb; have hO3 := own_kept HI.out.2.1 hb; have HNE : Hid (some w3.heap.size ≠ v3.ownBlock) := (fun e => by have := World.ownsRow.lt hO3 _ e.symm; omega); have HO3 := hideIt hO3; have ht3 := Blk.new w3 46 (rtC x); have d0 := ht3.cell 0; have d1 := ht3.cell 1; have d2 := ht3.cell 2; have d3 := ht3.cell 3; have HT3 := hideIt ht3; clear hb hO3 ht3)
        | ((with_reducible refine at_append ?_); refine wpList_app2 rfl (.tmp 9) (.tmp 11) 43 rfl w.heap.size 46 i0 (.agg #[.string ⟨#[]⟩, .int .i64 0, .int .i64 0, .int .i64 0]) 4 40 Tryz.underlying43 hi hz0 hz1 hz2 rfl (by decide) _ out.length (out.flatMap rtC) rfl ((HO3.out.alloc _).alloc _) _ _ 1 1 (rtC x) rfl (sl_cells2 w3 _ 46 (rtC x) 4 rfl) (rt_ones x) (by unfold maxLen; omega) (by omega) (Nat.le_trans HI.out.2.2.size (Nat.le_trans HB3.out.size (Nat.le_trans (below_new w3 (.cells (rtC x).toArray 46)).size (below_new _ _).size))) ?_; intro v4 w4 ho4 hg4; have HO4 := own_is (n' := (out ++ [x]).length) (xs' := (out ++ [x]).flatMap rtC) ho4 (by simp) (by simp); have ht4 := (HT3.out.alloc (.cells (rtC x).toArray 46)).grown hg4 HNE.out; have e0 := ht4.cell 0; have e1 := ht4.cell 1; have e2 := ht4.cell 2; have HG4 := hideIt hg4; clear ho4 hg4 ht4 d0 d1 d2 d3))
      go_roundg g
      case measure => have := HG.out; omega
      case rel =>
        have hown := (HO3.out.alloc (.cells (rtC x).toArray 46)).alloc (.cells (rtC x).toArray 46)
        have hb3 := HI.out.2.2.trans (HB3.out.mono HI.out.2.2.size)
        have hb4 := (hb3.alloc hb3.size (.cells (rtC x).toArray 46))
        have hb5 := (hb4.alloc hb4.size (.cells (rtC x).toArray 46))
        exact ⟨x.ps + x.tx.length, out ++ [x], _, rfl, HNP.out, by have := HG.out; have := HNP.out; omega, rfl, HEN.out, HO4.out, below_grown hb5 hown (Nat.le_refl _) hb5.size HG4.out⟩

end Go.Proofs.YtcogkdnlpjfgdaaGreatDoor
