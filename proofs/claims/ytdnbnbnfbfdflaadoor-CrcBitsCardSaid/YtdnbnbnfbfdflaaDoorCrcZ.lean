/-
  Zero bytes fed by squaring, walked: the closures of crc, twice, feedZeros, Zeros, Combine.
-/
import Derived.Test.YtdnbnbnfbfdflaaDoorCrcW
import Derived.Shelf.Abstract
namespace Go.Proofs.YtdnbnbnfbfdflaaDoor
open Go.RowKit
set_option linter.unusedVariables false
attribute [local go_sem] eqGuard_wv binOp_add_wv binOp_and_wv binOp_or_wv binOp_xor_wv binOp_shr_wv binOp_shl_wv unary_xor_wv run_convert_wv run_store_wv run_storeCells_wv run_convert_bw

/-- A function value that computes F, now and later. -/
def Does (w : World) (v : Value) (F : UInt32 → UInt32) : Prop :=
  ∃ f caps, v = .func (.func f) #[] caps ∧ Enters Tryd.prog f ∧ ∀ w', Below w.heap.size w w' → ∀ x, Calls Tryd.prog f (#[wv x] ++ caps) w' fun e w'' => e = .returned (wv (F x)) ∧ w' = w''
theorem Does.of_func {w : World} {f : FuncId} {caps : Array Value} {F : UInt32 → UInt32} (h : Does w (.func (.func f) #[] caps) F) :
    Enters Tryd.prog f ∧ ∀ w', Below w.heap.size w w' → ∀ x, Calls Tryd.prog f (#[wv x] ++ caps) w' fun e w'' => e = .returned (wv (F x)) ∧ w' = w'' := by
  obtain ⟨f', caps', q1, q2, q3⟩ := h
  injection q1 with q1 _ q4
  injection q1 with q1
  subst q1 q4
  exact ⟨q2, q3⟩
theorem Does.keep {w w1 : World} {v : Value} {F : UInt32 → UInt32} (h : Does w v F) (hb : Below w.heap.size w w1) : Does w1 v F := by
  obtain ⟨f, caps, q1, q2, q3⟩ := h
  exact ⟨f, caps, q1, q2, fun w' hb' => q3 w' (hb.trans (hb'.mono hb.size))⟩

set_option maxHeartbeats 400000 in
theorem step_any (r : UInt32) (w : World) (hT : Tabs w) :
    Calls Tryd.prog 22 #[wv r] w fun e w' => e = .returned (wv (zer r)) ∧ w = w' := by
  have HF := hideIt (feed_any r 0 w hT)
  rw [fd_zer] at HF
  obtain ⟨z, hz⟩ : ∃ z, z = zer r := ⟨_, rfl⟩
  rw [← hz] at HF ⊢
  clear hT hz
  go_enter Tryd.func22, Tryd.ntmps22
  go_wp2_with (go_at_call 19; refine HF.out.mono ?_; rintro e w' ⟨rfl, rfl⟩)
  go_ret
  exact ⟨rfl, rfl⟩
theorem step_does (w : World) (hT : Tabs w) : Does w (.func (.func 22) #[] #[]) zer :=
  ⟨_, _, rfl, enters_of Tryd.func22 (by kernel_rfl) rfl, fun w' hb x => step_any x w' (hT.keep hb)⟩

theorem neq0_c (t : TypeId) (r : UInt32) : binOp .neq t (wv r) (.int .u32 0) = pure (.bool (decide (r ≠ 0))) := by
  unfold wv
  rw [binOp_neq]
  by_cases h : r = 0
  · subst h; rfl
  · have h1 : r.toNat ≠ 0 := fun e => h (UInt32.toNat_inj.1 (by rw [e]; rfl))
    have h2 : ((r.toNat : Int) != 0) = true := by rw [bne_iff_ne]; omega
    rw [h2, decide_eq_true h]

set_option maxHeartbeats 1000000 in
/-- The map that the images of the single bits give. -/
theorem image_any (F : UInt32 → UInt32) (hF : Lin F) (g : Nat) (t : TypeId) (cs : List Value) (hcs : ∀ i, i < 32 → cs[i]? = some (wv (F (shl 1 i)))) (r : UInt32) (w : World) (hg : Blk w g t cs) (hT : Tabs w) :
    Calls Tryd.prog 24 #[wv r, .pointer (some ⟨g, 0, none⟩)] w fun e w' => e = .returned (wv (F r)) ∧ w = w' := by
  have HT := hideIt hT
  have HF := hideIt hF
  have HC : Hid (∀ i, i < 32 → w.cell? ⟨g, i, none⟩ = some (wv (F (shl 1 i)))) := hideIt (fun i hi => (hg.cell i).trans (hcs i hi))
  clear hT hg hcs hF
  obtain ⟨z, hz⟩ : ∃ z, z = F r := ⟨_, rfl⟩
  have HZ := hideIt hz
  rw [← hz]
  clear hz
  go_enter Tryd.func24, Tryd.ntmps24
  go_wp2
  go_loopg [0, 4] r.toNat (fun n s0 s4 wr => ∃ (q s : UInt32), n = q.toNat ∧ s0 = wv q ∧ s4 = wv s ∧ wr = w ∧ Aside (s ^^^ F q = z))
  case atStart => exact ⟨r, 0, rfl, rfl, rfl, rfl, (show 0 ^^^ F r = z by rw [HZ.out, zero_xor])⟩
  case round =>
    obtain ⟨q, s, hg, rfl, rfl, rfl, HQ⟩ := hrel
    have hne := neq0_c 23 q
    by_cases hq : q = 0
    · have HE : Hid (s = z) := by
        have := HQ.out
        rw [hq, HF.out.zero, xor_zero] at this
        exact this
      rw [decide_eq_false (by simpa using hq)] at hne
      clear hq
      go_wp2
      go_ret
      exact ⟨by rw [HE.out]; rfl, rfl⟩
    · have HTZ := hideIt (tz_any q hq wr HT.out)
      rw [decide_eq_true hq] at hne
      obtain ⟨p, hp⟩ : ∃ p, p = q &&& (q - 1) := ⟨_, rfl⟩
      have ha : binOp .and 23 (wv q) (wv (q - 1)) = pure (wv p) := by rw [binOp_and_wv, hp]
      have hs := sub1_c 23 q
      rw [← hp] at HTZ
      clear hp hq
      go_wp2_with (go_at_call 25; refine HTZ.out.mono ?_; rintro e w' ⟨⟨i, hi, rfl, hsp, hlt⟩, rfl⟩; have hci := HC.out i hi; have hii : (i : Int) < 32 := by { omega }; have HSP := hideIt hsp; have HLT := hideIt hlt; clear hsp hlt)
      go_roundg p.toNat
      case measure => have := HLT.out; omega
      case rel =>
        refine ⟨p, _, rfl, rfl, rfl, rfl, ?_⟩
        have h1 := HQ.out
        rw [HSP.out, HF.out] at h1
        rw [xor_assoc]; exact h1

/-- The images after k rounds. -/
def imgs (F : UInt32 → UInt32) (k : Nat) : List Value := (List.range k).map (fun i => wv (F (shl 1 i))) ++ List.replicate (32 - k) (.int .u32 0)
theorem imgs_at (F : UInt32 → UInt32) (k : Nat) (h : k < 32) : (imgs F k)[k]? = some (.int .u32 0) := by
  unfold imgs
  rw [List.getElem?_append_right (by simp), List.length_map, List.length_range, Nat.sub_self, List.getElem?_replicate, if_pos (by omega)]
theorem imgs_step (F : UInt32 → UInt32) (k : Nat) (h : k < 32) : (imgs F k).set k (wv (F (shl 1 k))) = imgs F (k + 1) := by
  unfold imgs
  rw [List.set_append_right _ _ (by simp), List.length_map, List.length_range, Nat.sub_self, show 32 - k = (32 - (k + 1)) + 1 by omega, List.replicate_succ, List.set_cons_zero, List.range_succ, List.map_append, List.append_assoc]
  rfl
theorem imgs_end (F : UInt32 → UInt32) (i : Nat) (h : i < 32) : (imgs F 32)[i]? = some (wv (F (shl 1 i))) := by
  unfold imgs
  rw [List.getElem?_append_left (by simpa using h), List.getElem?_map, List.getElem?_range h]
  rfl

set_option maxHeartbeats 1000000 in
theorem twice_any (v : Value) (F : UInt32 → UInt32) (hF : Lin F) (w : World) (hv : Does w v F) (hT : Tabs w) :
    Calls Tryd.prog 23 #[v] w fun e w' => ∃ v', e = .returned v' ∧ Does w' v' (fun r => F (F r)) ∧ Below w.heap.size w w' := by
  obtain ⟨f, caps, rfl, hen, hdo⟩ := hv
  have HT := hideIt hT
  have HD := hideIt hdo
  have HF := hideIt hF
  clear hT hdo hF
  unfold Enters at hen
  go_enter Tryd.func23, Tryd.ntmps23
  go_wp2
  go_loopg [5] 32 (fun n s5 wr => ∃ (k : Nat), n + k = 32 ∧ s5 = .int .i64 k ∧ Aside (Blk wr w.heap.size 43 (imgs (fun r => F (F r)) k) ∧ Below w.heap.size w wr))
  case atStart => exact ⟨0, rfl, rfl, Blk.new w _ _, (Below.refl _ _).alloc (Nat.le_refl _) _⟩
  case round =>
    obtain ⟨k, hg, rfl, HA⟩ := hrel
    by_cases hk : k < 32
    · have hki : (k : Int) < 32 := by omega
      have hsh : binOp .shl 23 (.int .u32 1) (.int .i64 (k : Int)) = pure (wv (shl 1 k)) := by
        have := binOp_shl_wv 23 1 .i64 (k : Int) (by omega) (by omega)
        rw [Int.toNat_natCast] at this
        exact this
      have hc : wr.cell? ⟨w.heap.size, k, none⟩ = some (.int .u32 0) := (HA.out.1.cell k).trans (imgs_at _ k hk)
      have hfr : wr.frozen? ⟨w.heap.size, k, none⟩ = false := HA.out.1.free k
      have H1 := hideIt (HD.out wr HA.out.2 (shl 1 k))
      have H2 := hideIt (HD.out wr HA.out.2 (F (shl 1 k)))
      have HS := hideIt (imgs_step (fun r => F (F r)) k hk)
      go_wp2_with (first
        | (go_at_fn f; first
          | (refine H1.out.mono ?_; rintro e w' ⟨rfl, rfl⟩; clear H1)
          | (refine H2.out.mono ?_; rintro e w' ⟨rfl, rfl⟩))
        | ((with_reducible refine at_store ?_); refine wpList_store_one rfl 23 (.tmp 15) (.tmp 14) rfl ⟨w.heap.size, k, none⟩ (wv (F (F (shl 1 k)))) rfl rfl rfl (by kernel_rfl) (by rw [hc]; rfl) hfr ?_))
      go_roundg (gk - 1)
      case measure => omega
      case rel =>
        refine ⟨k + 1, by omega, by go_num, ?_, HA.out.2.setCell (p := ⟨w.heap.size, k, none⟩) (Nat.le_refl _) _⟩
        rw [← HS.out]
        exact HA.out.1.store k _
    · have hki : ¬ (k : Int) < 32 := by omega
      obtain rfl : k = 32 := by omega
      go_wp2
      go_ret
      refine ⟨_, rfl, ⟨_, _, rfl, enters_of Tryd.func24 (by kernel_rfl) rfl, fun w' hb x => ?_⟩, HA.out.2⟩
      have hlt : w.heap.size < wr.heap.size := HA.out.1.lt
      exact image_any (fun r => F (F r)) (Lin.comp HF.out HF.out) w.heap.size _ _ (imgs_end _) x w' (HA.out.1.kept hb hlt) ((HT.out.keep HA.out.2).keep hb)

theorem itr_half (F : UInt32 → UInt32) (n : Nat) (r : UInt32) : itr (fun r => F (F r)) (n / 2) (if n % 2 = 1 then F r else r) = itr F n r := by
  rw [itr_two]
  split
  · rename_i h
    show _ = _
    conv => rhs; rw [show n = 2 * (n / 2) + 1 by omega]
    rfl
  · rename_i h
    conv => rhs; rw [show n = 2 * (n / 2) by omega]

theorem and1_i (t : TypeId) (n : Nat) (hn : n < 9223372036854775808) : binOp .and t (.int .i64 (n : Int)) (.int .i64 1) = pure (.int .i64 ((n % 2 : Nat) : Int)) := by
  rw [binOp_and]
  have h1 : (BitVec.ofInt 64 (n : Int)).toNat = n := by
    rw [BitVec.ofInt_natCast, BitVec.toNat_ofNat]; exact Nat.mod_eq_of_lt (by omega)
  have h : IntKind.i64.wrap ((BitVec.ofInt 64 (n : Int) &&& BitVec.ofInt 64 1).toNat : Int) = ((n % 2 : Nat) : Int) := by
    rw [BitVec.toNat_and, h1, show (BitVec.ofInt 64 1).toNat = 1 from rfl, Nat.and_one_is_mod]
    exact IntWalk.i64_in _ (by omega)
  rw [← h]
  rfl
theorem shr1_i (t : TypeId) (n : Nat) : binOp .shr t (.int .i64 (n : Int)) (.int .u64 1) = pure (.int .i64 ((n / 2 : Nat) : Int)) := by
  rw [binOp_shr]
  simp only [Op.shift]
  rw [if_neg (by decide)]
  have h : (n : Int).fdiv (2 ^ min (Int.toNat 1) IntKind.i64.bits) = ((n / 2 : Nat) : Int) := by
    rw [show (2 : Int) ^ min (Int.toNat 1) IntKind.i64.bits = 2 by decide, Int.fdiv_eq_ediv_of_nonneg _ (by decide)]
    omega
  rw [h]

set_option maxHeartbeats 1000000 in
theorem fz_nat (r : UInt32) (n : Nat) (hn : n < 9223372036854775808) (w : World) (hT : Tabs w) :
    Calls Tryd.prog 21 #[wv r, .int .i64 (n : Int)] w fun e w' => e = .returned (wv (zers r n)) ∧ Below w.heap.size w w' := by
  have HT := hideIt hT
  have HD := hideIt (step_does w hT)
  obtain ⟨z, hz⟩ : ∃ z, z = zers r n := ⟨_, rfl⟩
  have HZ := hideIt hz
  rw [← hz]
  clear hT hz
  go_enter Tryd.func21, Tryd.ntmps21
  go_wp2
  go_loopg [0, 1, 5] n (fun m s0 s1 s5 wr => ∃ (q : UInt32) (F : UInt32 → UInt32) (f : FuncId) (caps : Array Value), m < 9223372036854775808 ∧ s0 = wv q ∧ s1 = .int .i64 (m : Int) ∧ s5 = .func (.func f) #[] caps ∧ Aside (Lin F ∧ Does wr (.func (.func f) #[] caps) F ∧ itr F m q = z ∧ Below w.heap.size w wr))
  case atStart => exact ⟨r, zer, _, _, hn, rfl, rfl, rfl, zer_lin, HD.out, HZ.out.symm, Below.refl _ _⟩
  case round =>
    obtain ⟨q, F, f, caps, hm, rfl, rfl, rfl, HA⟩ := hrel
    by_cases hk : 0 < gk
    · have hki : (0 : Int) < (gk : Int) := by omega
      have ha := and1_i 3 gk hm
      have hs := shr1_i 3 gk
      have hs' := shr1_i 39 gk
      have HW := hideIt (twice_any _ F HA.out.1 wr HA.out.2.1 (HT.out.keep HA.out.2.2.2))
      have HH := hideIt (itr_half F gk q)
      have ⟨hen, hdo⟩ := HA.out.2.1.of_func
      unfold Enters at hen
      have H1 := hideIt (hdo wr (Below.refl _ _) q)
      clear hdo
      have hgl : gk / 2 < gk := by omega
      have hg2 : gk / 2 < 9223372036854775808 := by omega
      have HGL := hideIt hgl
      have HG2 := hideIt hg2
      clear hgl hg2
      by_cases hodd : gk % 2 = 1
      · rw [if_pos hodd] at HH
        have hoi : ((gk % 2 : Nat) : Int) = 1 := by omega
        generalize gk / 2 = h2 at *
        generalize gk % 2 = o2 at *
        clear hodd
        go_wp2_with (first
          | (go_at_fn f; refine H1.out.mono ?_; rintro e w' ⟨rfl, rfl⟩)
          | (go_at_call 23; refine HW.out.mono ?_; rintro e w' ⟨v', rfl, hd', hb'⟩; obtain ⟨f2, caps2, rfl, hq2⟩ := hd'; have HDD := hideIt hq2; have HBB := hideIt hb'; clear hq2 hb'))
        go_roundg h2
        case measure => exact HGL.out
        case rel => exact ⟨_, _, _, _, HG2.out, rfl, rfl, rfl, Lin.comp HA.out.1 HA.out.1, ⟨_, _, rfl, HDD.out⟩, HH.out.trans HA.out.2.2.1, HA.out.2.2.2.trans (HBB.out.mono HA.out.2.2.2.size)⟩
      · rw [if_neg hodd] at HH
        have hoi : ((gk % 2 : Nat) : Int) = 0 := by omega
        generalize gk / 2 = h2 at *
        generalize gk % 2 = o2 at *
        clear hodd
        go_wp2_with (go_at_call 23; refine HW.out.mono ?_; rintro e w' ⟨v', rfl, hd', hb'⟩; obtain ⟨f2, caps2, rfl, hq2⟩ := hd'; have HDD := hideIt hq2; have HBB := hideIt hb'; clear hq2 hb')
        go_roundg h2
        case measure => exact HGL.out
        case rel => exact ⟨_, _, _, _, HG2.out, rfl, rfl, rfl, Lin.comp HA.out.1 HA.out.1, ⟨_, _, rfl, HDD.out⟩, HH.out.trans HA.out.2.2.1, HA.out.2.2.2.trans (HBB.out.mono HA.out.2.2.2.size)⟩
    · obtain rfl : gk = 0 := by omega
      have HE : Hid (q = z) := HA.out.2.2.1
      go_wp2
      go_ret
      exact ⟨by rw [HE.out]; rfl, HA.out.2.2.2⟩

theorem fz_neg (r : UInt32) (n : Int) (hn : n < 0) (w : World) (hT : Tabs w) :
    Calls Tryd.prog 21 #[wv r, .int .i64 n] w fun e w' => e = .returned (wv r) ∧ Below w.heap.size w w' := by
  clear hT
  have hn2 : ¬ (0 : Int) < n := by omega
  go_enter Tryd.func21, Tryd.ntmps21
  go_wp2
  go_loopg [0, 1] 0 (fun m s0 s1 wr => s0 = wv r ∧ s1 = .int .i64 n ∧ wr = w)
  case atStart => exact ⟨rfl, rfl, rfl⟩
  case round =>
    obtain ⟨rfl, rfl, rfl⟩ := hrel
    go_wp2
    go_ret
    exact ⟨rfl, Below.refl _ _⟩

theorem fz_any (r : UInt32) (n : Int) (hn : -9223372036854775808 ≤ n ∧ n ≤ 9223372036854775807) (w : World) (hT : Tabs w) :
    Calls Tryd.prog 21 #[wv r, .int .i64 n] w fun e w' => e = .returned (wv (zers r n.toNat)) ∧ Below w.heap.size w w' := by
  by_cases h : n < 0
  · rw [show n.toNat = 0 by omega]
    exact fz_neg r n h w hT
  · have := fz_nat r n.toNat (by omega) w hT
    rw [Int.toNat_of_nonneg (by omega)] at this
    exact this

set_option maxHeartbeats 400000 in
theorem zeros_any (c : UInt32) (n : Int) (hn : -9223372036854775808 ≤ n ∧ n ≤ 9223372036854775807) (w : World) (hT : Tabs w) :
    Calls Tryd.prog 15 #[wv c, .int .i64 n] w fun e w' => e = .returned (wv (zro c n.toNat)) ∧ Below w.heap.size w w' := by
  have HF := hideIt (fz_any (~~~ c) n hn w hT)
  obtain ⟨z, hz⟩ : ∃ z, z = zers (~~~ c) n.toNat := ⟨_, rfl⟩
  have HZ : Hid (~~~ z = zro c n.toNat) := by rw [hz]; exact rfl
  rw [← hz] at HF
  rw [← HZ.out]
  clear hT hz hn HZ
  go_enter Tryd.func15, Tryd.ntmps15
  go_wp2_with (go_at_call 21; refine HF.out.mono ?_; rintro e w' ⟨rfl, hb⟩; have HB := hideIt hb; clear hb)
  go_ret
  exact ⟨rfl, HB.out⟩

set_option maxHeartbeats 400000 in
theorem comb_any (a b : UInt32) (n : Int) (hn : -9223372036854775808 ≤ n ∧ n ≤ 9223372036854775807) (w : World) (hT : Tabs w) :
    Calls Tryd.prog 17 #[wv a, wv b, .int .i64 n] w fun e w' => e = .returned (wv (cmb a b n.toNat)) ∧ Below w.heap.size w w' := by
  have HF := hideIt (fz_any a n hn w hT)
  obtain ⟨z, hz⟩ : ∃ z, z = zers a n.toNat := ⟨_, rfl⟩
  have HZ : Hid (b ^^^ z = cmb a b n.toNat) := by rw [hz]; exact rfl
  rw [← hz] at HF
  rw [← HZ.out]
  clear hT hz hn HZ
  go_enter Tryd.func17, Tryd.ntmps17
  go_wp2_with (go_at_call 21; refine HF.out.mono ?_; rintro e w' ⟨rfl, hb⟩; have HB := hideIt hb; clear hb)
  go_ret
  exact ⟨rfl, HB.out⟩

end Go.Proofs.YtdnbnbnfbfdflaaDoor
