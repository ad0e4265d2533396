/-
  The reference, walked: row.
  The reference, walked: Check.
  The reference, walked: Print.
-/
import Derived.Test.YtcogkdnlpjfgdaaGreatDoorRlI
import Derived.Test.YtcogkdnlpjfgdaaGreatDoorLpB
import Derived.Test.YtcogkdnlpjfgdaaGreatDoorRlE
import Derived.Test.YtcogkdnlpjfgdaaGreatDoorLpC
namespace Go.Proofs.YtcogkdnlpjfgdaaGreatDoor
open Go.RowKit
set_option linter.unusedVariables false
set_option linter.unusedSimpArgs false

/-- What the reference's row has gathered: all numbers, the indices, the numbers that are not 0. -/
structure RowI (l : List Int) (j : Nat) (s3 s4 s5 : Bs) (z : Bool) : Prop where
  all : s3 = ((l.take j).map Int.toNat).flatMap sp
  zz : z = (l.take j).any zB
  idx : ∃ a : List Nat, s4 = a.flatMap sp ∧ idxs 0 l = a ++ idxs j (l.drop j)
  val : ∃ a : List Nat, s5 = a.flatMap sp ∧ vals l = a ++ vals (l.drop j)
theorem sp_app (s : Bs) (n : Nat) : s ++ [32] ++ numS n = s ++ sp n := by unfold sp; simp
set_option maxHeartbeats 2000000 in
set_option maxRecDepth 100000 in
theorem rrow_any (l : List Int) (hr : ∀ x ∈ l, 0 ≤ x ∧ x ≤ 65535) (hl : l.length ≤ 31) (A : Option Addr) (c B : Nat) (w : World) (hs : Sl w B A 1 l.length (l.map iv)) (hB : B ≤ w.heap.size) :
    Calls Tryz.prog 32 #[.slice A l.length c] w fun e w' => e = .returned (sv (rowS l)) ∧ Below w.heap.size w w' := by
  obtain ⟨T, hT⟩ : ∃ T, T = rowS l := ⟨_, rfl⟩
  rw [← hT]
  have HTX : Hid (T = if l.any zB = true then kLocal ++ (idxs 0 l).flatMap sp ++ [58] ++ (vals l).flatMap sp ++ [59] else kParity ++ (l.map Int.toNat).flatMap sp ++ [59]) := hT
  have HS := hideIt hs
  have HBB := hideIt hB
  have HR := hideIt hr
  obtain ⟨n, hn⟩ : ∃ n, n = l.length := ⟨_, rfl⟩
  rw [← hn] at hl ⊢
  have HN := hideIt hn
  clear hs hB hr hT hn
  go_enter Tryz.func32, Tryz.ntmps32
  go_wp2_with fail
  go_loopg [3, 4, 5, 6, 7] n (fun gk s3 s4 s5 s6 s7 wr => ∃ (j : Nat) (t3 t4 t5 : Bs) (z : Bool), j + gk = n ∧ s3 = sv t3 ∧ s4 = sv t4 ∧ s5 = sv t5 ∧ s6 = .bool z ∧ s7 = .int .i64 (j : Int) ∧
    t3.length ≤ 8 * j ∧ t4.length ≤ 8 * j ∧ t5.length ≤ 8 * j ∧ Aside (Below w.heap.size w wr ∧ RowI l j t3 t4 t5 z))
  case atStart => exact ⟨0, [], [], [], false, by omega, rfl, rfl, rfl, rfl, rfl, by simp, by simp, by simp, Below.refl _ _, ⟨rfl, rfl, ⟨[], rfl, rfl⟩, ⟨[], rfl, rfl⟩⟩⟩
  case round =>
    obtain ⟨j, t3, t4, t5, z, hj, rfl, rfl, rfl, rfl, rfl, l3, l4, l5, HI⟩ := hrel
    by_cases hlt : j < n
    · have hjl : j < l.length := by rw [← HN.out]; exact hlt
      obtain ⟨b, o, hA, hb, hc⟩ := HS.out.num hjl
      subst hA
      have HC := hideIt (fun (W : World) (hW : Below w.heap.size w W) => show W.cell? ⟨b, o + j, none⟩ = some (.int .i64 l[j]) from (hW.cell (p := ⟨b, _, none⟩) (Nat.lt_of_lt_of_le hb HBB.out)).trans hc)
      have hx0 := HR.out _ (List.getElem_mem hjl)
      have HDR := hideIt (List.drop_eq_getElem_cons hjl)
      have HTK := hideIt (take_snoc l j hjl)
      have hinc := inc_w 3 j (by omega)
      have hji : (j : Int) < (n : Int) := by omega
      generalize l[j] = x at *
      obtain ⟨m, rfl⟩ : ∃ m : Nat, x = (m : Int) := ⟨x.toNat, by omega⟩
      have hm : m ≤ 65535 := by omega
      have q0 := HC.out wr HI.out.1
      have HM := hideIt (rnumber_any m (by omega))
      have lm := sp_len m (by omega)
      have lm1 : (sp m).length = (numS m).length + 1 := by unfold sp; simp
      have a1 : binOp .add 9 (sv t3) (.string ⟨#[32]⟩) = pure (sv (t3 ++ [32])) := s_add 9 t3 [32] (by simp; omega)
      have a2 := s_add 9 (t3 ++ [32]) (numS m) (by simp; omega)
      have E3 : Hid (t3 ++ [32] ++ numS m = ((l.take (j + 1)).map Int.toNat).flatMap sp) := by
        show _ = _
        rw [sp_app, HTK.out, List.map_append, List.flatMap_append, ← HI.out.2.all]
        simp
      have l3' : (t3 ++ [32] ++ numS m).length ≤ 8 * (j + 1) := by simp; omega
      have EZ : Hid (∀ u, (z || zB (m : Int)) = u → u = (l.take (j + 1)).any zB) := fun u hu => by
        rw [← hu, HTK.out, List.any_append, ← HI.out.2.zz]
        simp
      have hne := i_eql 3 .i64 (m : Int) 0
      clear hb hc hjl
      by_cases hk : m = 0
      · have hk2 : (m : Int) = 0 := by omega
        have I4 : Hid (∃ a : List Nat, t4 = a.flatMap sp ∧ idxs 0 l = a ++ idxs (j + 1) (l.drop (j + 1))) := by
          obtain ⟨a, e1, e2⟩ := HI.out.2.idx
          exact ⟨a, e1, by rw [e2, HDR.out, idxs_step, if_pos hk2]⟩
        have I5 : Hid (∃ a : List Nat, t5 = a.flatMap sp ∧ vals l = a ++ vals (l.drop (j + 1))) := by
          obtain ⟨a, e1, e2⟩ := HI.out.2.val
          exact ⟨a, e1, by rw [e2, HDR.out, vals_step, if_pos hk2]⟩
        have EZ := hideIt (EZ.out true (by rw [show zB (m : Int) = true from decide_eq_true hk2]; simp))
        rw [decide_eq_true hk2] at hne
        generalize t3 ++ [32] ++ numS m = t3' at *
        generalize t3 ++ [32] = t3'' at *
        generalize numS m = sm at *
        clear hk hk2
        go_wp2_with (go_at_call 31; refine (HM.out _).mono ?_; rintro e w1 ⟨rfl, hb⟩; have HB1 := hideIt (HI.out.1.trans (hb.mono HI.out.1.size)); have q1 := HC.out w1 HB1.out; clear hb)
        go_roundg (gk - 1)
        case measure => omega
        case rel =>
          exact ⟨j + 1, t3', t4, t5, true, by omega, rfl, rfl, rfl, rfl, by go_num, l3', by omega, by omega, HB1.out, ⟨E3.out, EZ.out, I4.out, I5.out⟩⟩
      · have hk2 : ¬ (m : Int) = 0 := by omega
        have HJ := hideIt (rnumber_any j (by omega))
        have lj := sp_len j (by omega)
        have lj1 : (sp j).length = (numS j).length + 1 := by unfold sp; simp
        have a3 : binOp .add 9 (sv t4) (.string ⟨#[32]⟩) = pure (sv (t4 ++ [32])) := s_add 9 t4 [32] (by simp; omega)
        have a4 := s_add 9 (t4 ++ [32]) (numS j) (by simp; omega)
        have a5 : binOp .add 9 (sv t5) (.string ⟨#[32]⟩) = pure (sv (t5 ++ [32])) := s_add 9 t5 [32] (by simp; omega)
        have a6 := s_add 9 (t5 ++ [32]) (numS m) (by simp; omega)
        have l4' : (t4 ++ [32] ++ numS j).length ≤ 8 * (j + 1) := by simp; omega
        have l5' : (t5 ++ [32] ++ numS m).length ≤ 8 * (j + 1) := by simp; omega
        have I4 : Hid (∃ a : List Nat, t4 ++ [32] ++ numS j = a.flatMap sp ∧ idxs 0 l = a ++ idxs (j + 1) (l.drop (j + 1))) := by
          obtain ⟨a, e1, e2⟩ := HI.out.2.idx
          exact ⟨a ++ [j], by rw [sp_app, List.flatMap_append, ← e1]; simp, by rw [e2, HDR.out, idxs_step, if_neg hk2]; simp⟩
        have I5 : Hid (∃ a : List Nat, t5 ++ [32] ++ numS m = a.flatMap sp ∧ vals l = a ++ vals (l.drop (j + 1))) := by
          obtain ⟨a, e1, e2⟩ := HI.out.2.val
          exact ⟨a ++ [m], by rw [sp_app, List.flatMap_append, ← e1]; simp, by rw [e2, HDR.out, vals_step, if_neg hk2]; simp⟩
        have EZ := hideIt (EZ.out z (by rw [show zB (m : Int) = false from decide_eq_false hk2]; simp))
        rw [decide_eq_false hk2] at hne
        generalize t3 ++ [32] ++ numS m = t3' at *
        generalize t3 ++ [32] = t3'' at *
        generalize t4 ++ [32] ++ numS j = t4' at *
        generalize t4 ++ [32] = t4'' at *
        generalize t5 ++ [32] ++ numS m = t5' at *
        generalize t5 ++ [32] = t5'' at *
        generalize numS m = sm at *
        generalize numS j = sj at *
        clear hk hk2
        go_wp2_with (first
          | (go_at_call 31; have HMM := HM; refine (HM.out _).mono ?_; clear HM; rintro e w1 ⟨rfl, hb⟩; have HB1 := hideIt (HI.out.1.trans (hb.mono HI.out.1.size)); have q1 := HC.out w1 HB1.out; clear hb)
          | (go_at_call 31; refine (HJ.out _).mono ?_; clear HJ; rintro e w2 ⟨rfl, hb⟩; have HB2 := hideIt (HB1.out.trans (hb.mono HB1.out.size)); have q2 := HC.out w2 HB2.out; clear hb)
          | (go_at_call 31; refine (HMM.out _).mono ?_; rintro e w3 ⟨rfl, hb⟩; have HB3 := hideIt (HB2.out.trans (hb.mono HB2.out.size)); clear hb))
        go_roundg (gk - 1)
        case measure => omega
        case rel =>
          exact ⟨j + 1, t3', t4', t5', z, by omega, rfl, rfl, rfl, rfl, by go_num, l3', l4', l5', HB3.out, ⟨E3.out, EZ.out, I4.out, I5.out⟩⟩
    · have hji : ¬ (j : Int) < (n : Int) := by omega
      have HZ : Hid (z = l.any zB) := by
        have := HI.out.2.zz
        rw [List.take_of_length_le (by rw [← HN.out]; omega)] at this
        exact this
      have H3 : Hid (t3 = (l.map Int.toNat).flatMap sp) := by
        have := HI.out.2.all
        rw [List.take_of_length_le (by rw [← HN.out]; omega)] at this
        exact this
      have H4 : Hid (t4 = (idxs 0 l).flatMap sp) := by
        obtain ⟨a, e1, e2⟩ := HI.out.2.idx
        rw [List.drop_of_length_le (by rw [← HN.out]; omega)] at e2
        show t4 = _
        rw [e1, e2, show idxs j ([] : List Int) = [] from rfl, List.append_nil]
      have H5 : Hid (t5 = (vals l).flatMap sp) := by
        obtain ⟨a, e1, e2⟩ := HI.out.2.val
        rw [List.drop_of_length_le (by rw [← HN.out]; omega)] at e2
        show t5 = _
        rw [e1, e2, show vals ([] : List Int) = [] from rfl, List.append_nil]
      have hT := HTX.out
      rw [← HZ.out, ← H3.out, ← H4.out, ← H5.out] at hT
      cases z with
      | true =>
        rw [if_pos rfl] at hT
        have a1 : binOp .add 9 (.string ⟨#[108, 111, 99, 97, 108]⟩) (sv t4) = pure (sv (kLocal ++ t4)) := s_add 9 kLocal t4 (by show 5 + _ ≤ _; omega)
        have k1 : (kLocal ++ t4).length = 5 + t4.length := by rw [List.length_append]; rfl
        have a2 : binOp .add 9 (sv (kLocal ++ t4)) (.string ⟨#[58]⟩) = pure (sv (kLocal ++ t4 ++ [58])) := s_add 9 (kLocal ++ t4) [58] (by rw [k1]; show _ + 1 ≤ _; omega)
        have k2 : (kLocal ++ t4 ++ [58]).length = 6 + t4.length := by rw [List.length_append, k1]; show _ + 1 = _; omega
        have a3 := s_add 9 (kLocal ++ t4 ++ [58]) t5 (by rw [k2]; omega)
        have k3 : (kLocal ++ t4 ++ [58] ++ t5).length = 6 + t4.length + t5.length := by rw [List.length_append, k2]
        have a4 : binOp .add 9 (sv (kLocal ++ t4 ++ [58] ++ t5)) (.string ⟨#[59]⟩) = pure (sv (kLocal ++ t4 ++ [58] ++ t5 ++ [59])) := s_add 9 (kLocal ++ t4 ++ [58] ++ t5) [59] (by rw [k3]; show _ + 1 ≤ _; omega)
        have HT := hideIt hT
        generalize kLocal ++ t4 ++ [58] ++ t5 ++ [59] = u4 at *
        generalize kLocal ++ t4 ++ [58] ++ t5 = u3 at *
        generalize kLocal ++ t4 ++ [58] = u2 at *
        generalize kLocal ++ t4 = u1 at *
        clear hT k1 k2 k3
        go_wp2_with fail
        go_ret
        exact ⟨by rw [HT.out]; rfl, HI.out.1⟩
      | false =>
        rw [if_neg (by decide)] at hT
        have a1 : binOp .add 9 (.string ⟨#[112, 97, 114, 105, 116, 121]⟩) (sv t3) = pure (sv (kParity ++ t3)) := s_add 9 kParity t3 (by show 6 + _ ≤ _; omega)
        have k1 : (kParity ++ t3).length = 6 + t3.length := by rw [List.length_append]; rfl
        have a2 : binOp .add 9 (sv (kParity ++ t3)) (.string ⟨#[59]⟩) = pure (sv (kParity ++ t3 ++ [59])) := s_add 9 (kParity ++ t3) [59] (by rw [k1]; show _ + 1 ≤ _; omega)
        have HT := hideIt hT
        generalize kParity ++ t3 ++ [59] = u2 at *
        generalize kParity ++ t3 = u1 at *
        clear hT k1
        go_wp2_with fail
        go_ret
        exact ⟨by rw [HT.out]; rfl, HI.out.1⟩

def sumI (l : List Int) : Int := l.foldr (· + ·) 0
theorem sumI_snoc (l : List Int) (x : Int) : sumI (l ++ [x]) = sumI l + x := by
  unfold sumI
  induction l with
  | nil => simp
  | cons y r ih => rw [List.cons_append, List.foldr_cons, List.foldr_cons, ih]; omega
theorem sumI_zero : ∀ (l : List Int), (∀ x ∈ l, 0 ≤ x) → 0 ≤ sumI l ∧ (sumI l = 0 ↔ l.any (fun x => decide (x ≠ 0)) = false)
  | [], _ => by simp [sumI]
  | x :: r, h => by
    have h1 := sumI_zero r (fun y hy => h y (by simp [hy]))
    have h2 := h x (by simp)
    have e : sumI (x :: r) = x + sumI r := rfl
    rw [e, List.any_cons]
    refine ⟨by omega, ?_⟩
    rw [Bool.or_eq_false_iff, ← h1.2, decide_eq_false_iff_not]
    omega
theorem sumI_le (m : Nat) : ∀ (l : List Int), (∀ x ∈ l, x ≤ m) → sumI l ≤ m * l.length
  | [], _ => by simp [sumI]
  | x :: r, h => by
    have h1 := sumI_le m r (fun y hy => h y (by simp [hy]))
    have h2 := h x (by simp)
    have e : sumI (x :: r) = x + sumI r := rfl
    rw [e, List.length_cons]
    push_cast
    rw [Int.mul_add]
    omega
theorem topF_bd (f : Int) : 0 ≤ topF f ∧ topF f ≤ 65535 := by unfold topF; split <;> omega

theorem rowOk_iff (f d : Int) (l : List Int) : rowOk f d l = (decide ((l.length : Int) = d) && l.all (fun x => decide (0 ≤ x ∧ x ≤ topF f)) && l.any (fun x => decide (x ≠ 0))) := rfl

set_option maxHeartbeats 4000000 in
set_option maxRecDepth 100000 in
theorem rcheck_any (x : Cd) (A : Option Addr) (c : Nat) (w : World) (hx : CIn w x A) (hnm : x.name.length ≤ 9223372036854775807) :
    Calls Tryz.prog 15 #[cdV x.name x.field x.data (.slice A x.par.length c) x.dom] w fun e w' => e = .returned (.int .i64 (checkX x)) ∧ Below w.heap.size w w' := by
  obtain ⟨W1, hW1⟩ : ∃ W1, W1 = w.alloc (.cells #[sv x.name, .int .i64 x.field, .int .i64 x.data, .slice A x.par.length c, .int .i64 x.dom] 24) := ⟨_, rfl⟩
  have HBL : Hid (Below w.heap.size w W1) := by rw [hW1]; exact below_new w _
  have hb1 : Blk W1 w.heap.size 24 [sv x.name, .int .i64 x.field, .int .i64 x.data, .slice A x.par.length c, .int .i64 x.dom] := by
    rw [hW1]; exact Blk.new w 24 [sv x.name, .int .i64 x.field, .int .i64 x.data, .slice A x.par.length c, .int .i64 x.dom]
  have HX := hideIt (hx.pm.below HBL.out)
  have HLX := hideIt hx.lens
  have hlx := hx.len
  have r0 := hb1.cell 0
  have r1 := hb1.cell 1
  have r2 := hb1.cell 2
  have r3 := hb1.cell 3
  have r4 := hb1.cell 4
  rw [hW1] at r0 r1 r2 r3 r4
  have HW1 := hideIt hW1
  have HB1 := hideIt hb1
  have HWD := hideIt (rword_any x.name hnm)
  have hln := len_c x.name
  have hnot := not_b
  have hwid : binOp .add 3 (.int .i64 x.data) (.int .i64 (x.par.length : Int)) = pure (.int .i64 (widX x)) := by rw [binOp_add]; rfl
  obtain ⟨R, hR⟩ : ∃ R, R = checkX x := ⟨_, rfl⟩
  rw [← hR]
  unfold checkX at hR
  generalize widX x = z at *
  generalize x.par = xs at *
  generalize x.name = nm at *
  generalize x.field = f at *
  generalize x.data = d at *
  generalize x.dom = dm at *
  obtain ⟨n, hn⟩ : ∃ n, n = xs.length := ⟨_, rfl⟩
  rw [← hn] at hlx r3 HB1 HW1 hwid hR
  rw [← hn]
  have HN := hideIt hn
  have HFIN : Hid (∀ W, W = w.alloc (.cells #[sv nm, .int .i64 f, .int .i64 d, .slice A n c, .int .i64 dm] 24) → Below w.heap.size w W) := fun W h => by rw [h, ← HW1.out]; exact HBL.out
  clear hb1 hW1 hx hn
  by_cases q1 : wordB nm = false
  · rw [if_pos q1] at hR
    rw [q1] at HWD
    have HR := hideIt hR
    clear q1 hR
    go_enter Tryz.func15, Tryz.ntmps15
    go_wp2_with (go_at_call 39; refine (HWD.out _).mono ?_; rintro e w1 ⟨rfl, rfl⟩)
    go_ret
    exact ⟨by rw [HR.out]; rfl, HFIN.out _ rfl⟩
  rw [if_neg q1] at hR
  rw [Bool.not_eq_false] at q1
  rw [q1] at HWD
  clear q1
  by_cases q2 : 12 < nm.length
  · rw [if_pos q2] at hR
    have hgt : (nm.length : Int) > 12 := by omega
    have HR := hideIt hR
    clear q2 hR hnm
    go_enter Tryz.func15, Tryz.ntmps15
    go_wp2_with (go_at_call 39; refine (HWD.out _).mono ?_; rintro e w1 ⟨rfl, rfl⟩)
    go_ret
    exact ⟨by rw [HR.out]; rfl, HFIN.out _ rfl⟩
  rw [if_neg q2] at hR
  have hgt : ¬ (nm.length : Int) > 12 := by omega
  clear q2 hnm
  have h8 := i_neq 3 .i64 f 8
  have h16 := i_neq 3 .i64 f 16
  by_cases q3 : fieldB f = false
  · rw [if_pos q3] at hR
    have hf : f ≠ 8 ∧ f ≠ 16 := by
      have := of_decide_eq_false q3
      exact ⟨fun h => this (.inl h), fun h => this (.inr h)⟩
    rw [decide_eq_true hf.1] at h8
    rw [decide_eq_true hf.2] at h16
    have HR := hideIt hR
    clear q3 hf hR
    go_enter Tryz.func15, Tryz.ntmps15
    go_wp2_with (go_at_call 39; refine (HWD.out _).mono ?_; rintro e w1 ⟨rfl, rfl⟩)
    go_ret
    exact ⟨by rw [HR.out]; rfl, HFIN.out _ rfl⟩
  rw [if_neg q3] at hR
  have HF8 : Hid ((decide (f ≠ 8) = false) ∨ (decide (f ≠ 8) = true ∧ decide (f ≠ 16) = false)) := by
    rw [Bool.not_eq_false] at q3
    have q3 := of_decide_eq_true q3
    rcases q3 with h | h
    · exact .inl (decide_eq_false (fun q => q h))
    · exact .inr ⟨decide_eq_true (by omega), decide_eq_false (fun q => q h)⟩
  clear q3
  generalize decide (f ≠ 8) = f8 at *
  generalize decide (f ≠ 16) = f16 at *
  by_cases q4 : dataB d = false
  · rw [if_pos q4] at hR
    have hd : d < 1 ∨ (¬ d < 1 ∧ d > 31) := by
      have := of_decide_eq_false q4
      omega
    have HR := hideIt hR
    clear q4 hR
    have hf8 := HF8.out
    clear HF8
    rcases hf8 with rfl | ⟨rfl, rfl⟩ <;> rcases hd with hd | ⟨hd, hd2⟩ <;>
    · go_enter Tryz.func15, Tryz.ntmps15
      go_wp2_with (go_at_call 39; refine (HWD.out _).mono ?_; rintro e w1 ⟨rfl, rfl⟩)
      go_ret
      exact ⟨by rw [HR.out]; rfl, HFIN.out _ rfl⟩
  rw [if_neg q4] at hR
  rw [Bool.not_eq_false] at q4
  have hd := of_decide_eq_true q4
  obtain ⟨dn, rfl⟩ : ∃ k : Nat, d = (k : Int) := ⟨d.toNat, by omega⟩
  clear q4
  have hd1 : ¬ (dn : Int) < 1 := by omega
  have hd2 : ¬ (dn : Int) > 31 := by omega
  have hn0 := i_eql 3 .i64 (n : Int) 0
  by_cases q5 : n = 0
  · rw [if_pos q5] at hR
    rw [decide_eq_true (by omega)] at hn0
    have HR := hideIt hR
    clear q5 hR hd
    have hf8 := HF8.out
    clear HF8
    rcases hf8 with rfl | ⟨rfl, rfl⟩ <;>
    · go_enter Tryz.func15, Tryz.ntmps15
      go_wp2_with (go_at_call 39; refine (HWD.out _).mono ?_; rintro e w1 ⟨rfl, rfl⟩)
      go_ret
      exact ⟨by rw [HR.out]; rfl, HFIN.out _ rfl⟩
  rw [if_neg q5] at hR
  rw [decide_eq_false (by omega)] at hn0
  clear q5
  by_cases q6 : 32 < z
  · rw [if_pos q6] at hR
    have hz : z > 32 := q6
    have HR := hideIt hR
    clear q6 hR hd
    have hf8 := HF8.out
    clear HF8
    rcases hf8 with rfl | ⟨rfl, rfl⟩ <;>
    · go_enter Tryz.func15, Tryz.ntmps15
      go_wp2_with (go_at_call 39; refine (HWD.out _).mono ?_; rintro e w1 ⟨rfl, rfl⟩)
      go_ret
      exact ⟨by rw [HR.out]; rfl, HFIN.out _ rfl⟩
  rw [if_neg q6] at hR
  have hz : ¬ z > 32 := q6
  have HR := hideIt hR
  have HT := hideIt (rtop_any f)
  have HTB := hideIt (topF_bd f)
  have HD := hideIt hd
  clear q6 hR hd
  have hf8 := HF8.out
  clear HF8
  rcases hf8 with rfl | ⟨rfl, rfl⟩ <;>
  · go_enter Tryz.func15, Tryz.ntmps15
    go_wp2_with (go_at_call 39; refine (HWD.out _).mono ?_; rintro e w1 ⟨rfl, rfl⟩)
    rw [← HW1.out]
    clear r0 r1 r2 r3 r4 h8 h16 hn0 hgt hln hd1 hd2 hz
    go_loopg [4] n (fun gk s4 wr => ∃ i : Nat, i + gk = n ∧ s4 = .int .i64 (i : Int) ∧ Aside ((xs.take i).all (rowOk f dn) = true ∧ Below W1.heap.size W1 wr))
    case atStart => exact ⟨0, by omega, rfl, rfl, Below.refl _ _⟩
    case round =>
      obtain ⟨i, hi, rfl, HI⟩ := hrel
      have hbk := HB1.out.kept HI.out.2 HB1.out.lt
      have c1 := hbk.cell 1
      have c2 := hbk.cell 2
      have c3 := hbk.cell 3
      have c4 := hbk.cell 4
      clear hbk
      by_cases hlt : i < n
      · have hil : i < xs.length := by rw [← HN.out]; exact hlt
        obtain ⟨b, o, A1, c1', hA, hb, hc, hs1⟩ := HX.out.row hil
        subst hA
        have HC1 := hideIt (fun (W : World) (hW : Below W1.heap.size W1 W) => show W.cell? ⟨b, o + i, none⟩ = some (.slice A1 (xs[i]).length c1') from (hW.cell (p := ⟨b, _, none⟩) (Nat.lt_of_lt_of_le hb HBL.out.size)).trans hc)
        have q1 := HC1.out wr HI.out.2
        have HT1 := hideIt (take_snoc xs i hil)
        have HM := hideIt (List.getElem_mem hil)
        have hl1 := HLX.out _ (List.getElem_mem hil)
        have hinc := inc_w 3 i (by omega)
        have hji : (i : Int) < (n : Int) := by omega
        have HS1 := hideIt hs1
        generalize xs[i] = u at *
        have HBAD : Hid (rowOk f dn u = false → R = 1) := fun h => HR.out.trans (if_pos (List.all_eq_false.2 ⟨u, HM.out, by rw [h]; decide⟩))
        have HOK : Hid (rowOk f dn u = true → (xs.take (i + 1)).all (rowOk f dn) = true) := fun h => by
          rw [HT1.out, List.all_append, HI.out.1]
          simp [h]
        have HRO := hideIt (rowOk_iff f dn u)
        obtain ⟨k, hk⟩ : ∃ k, k = u.length := ⟨_, rfl⟩
        rw [← hk] at hl1 HC1 q1 HRO
        have HK := hideIt hk
        have hln := i_neq 3 .i64 (k : Int) (dn : Int)
        clear hb hc hil hs1 hk
        by_cases he : k = dn
        · subst he
          rw [decide_eq_false (fun h => h rfl)] at hln
          go_wp2_with fail
          go_quiet (fail)
          go_wp2_with fail
          clear q1 c1 c2 c3 c4
          obtain ⟨g0, rfl⟩ : ∃ x, x = gk := ⟨gk, rfl⟩
          generalize hV : wr.drewN _ = V
          have HV : Hid (Below W1.heap.size W1 V) := by rw [← hV]; exact below_drewN HI.out.2 _
          clear hV
          go_loopg [5, 6] k (fun gk s5 s6 wr => ∃ (j : Nat) (sm : Int), j + gk = k ∧ s5 = .int .i64 sm ∧ s6 = .int .i64 (j : Int) ∧ Aside (sm = sumI (u.take j) ∧ (∀ y ∈ u.take j, 0 ≤ y ∧ y ≤ topF f) ∧ Below W1.heap.size W1 wr))
          case atStart => exact ⟨0, 0, by omega, rfl, rfl, rfl, by simp, HV.out⟩
          case round =>
            obtain ⟨j, sm, hj, rfl, rfl, HJ⟩ := hrel
            have hbk := HB1.out.kept HJ.out.2.2 HB1.out.lt
            have c1 := hbk.cell 1
            have c2 := hbk.cell 2
            have c3 := hbk.cell 3
            clear hbk
            have q1 := HC1.out _ HJ.out.2.2
            by_cases hjt : j < k
            · have hju : j < u.length := by rw [← HK.out]; exact hjt
              obtain ⟨e0, p, hA, hd, hc⟩ := HS1.out.num hju
              subst hA
              have q3 := (HJ.out.2.2.cell (p := ⟨e0, p + j, none⟩) (Nat.lt_of_lt_of_le hd HBL.out.size)).trans hc
              have HTu := hideIt (take_snoc u j hju)
              have HMu := hideIt (List.getElem_mem hju)
              have hinc2 := inc_w 3 j (by omega)
              have hjk : (j : Int) < (k : Int) := by omega
              generalize u[j] = y at *
              have HBY : Hid (¬ (0 ≤ y ∧ y ≤ topF f) → R = 1) := fun h => HBAD.out (by
                rw [HRO.out, List.all_eq_false.2 ⟨y, HMu.out, by rw [decide_eq_false h]; decide⟩]
                simp)
              clear hc hd hju
              by_cases hy0 : y < 0
              · have HRR := hideIt (HBY.out (by omega))
                go_wp2_with fail
                go_ret
                exact ⟨by rw [HRR.out]; rfl, HBL.out.trans (HJ.out.2.2.mono HBL.out.size)⟩
              · by_cases hyt : y > topF f
                · have HRR := hideIt (HBY.out (by omega))
                  generalize topF f = tp at *
                  go_wp2_with (go_at_call 40; refine (HT.out _).mono ?_; rintro e w2 ⟨rfl, rfl⟩)
                  go_ret
                  exact ⟨by rw [HRR.out]; rfl, HBL.out.trans (HJ.out.2.2.mono HBL.out.size)⟩
                · have hst := HTB.out
                  have hsb : sm ≤ 65535 * j := by
                    have := sumI_le 65535 (u.take j) (fun y hy => by have := HJ.out.2.1 y hy; omega)
                    rw [← HJ.out.1, List.length_take, Nat.min_eq_left (by have := HK.out; omega)] at this
                    omega
                  have hs0 : 0 ≤ sm := by rw [HJ.out.1]; exact (sumI_zero _ (fun y hy => (HJ.out.2.1 y hy).1)).1
                  have hkk : k ≤ 31 := by have := HD.out; omega
                  have hadd : binOp .add 3 (.int .i64 sm) (.int .i64 y) = pure (.int .i64 (sm + y)) := by
                    rw [binOp_add]
                    simp only [Op.intArith]
                    rw [IntWalk.i64_in _ (by omega)]
                  have HS2 : Hid (sm + y = sumI (u.take (j + 1))) := by
                    show _ = _
                    rw [HTu.out, sumI_snoc, ← HJ.out.1]
                  have HA2 : Hid (∀ v ∈ u.take (j + 1), 0 ≤ v ∧ v ≤ topF f) := fun v hv => by
                    rw [HTu.out] at hv
                    rcases List.mem_append.1 hv with hv | hv
                    · exact HJ.out.2.1 v hv
                    · rw [List.mem_singleton] at hv; omega
                  generalize sm + y = sm2 at *
                  clear hst hsb hs0
                  generalize topF f = tp at *
                  go_wp2_with (go_at_call 40; refine (HT.out _).mono ?_; rintro e w2 ⟨rfl, rfl⟩)
                  go_roundg (gk - 1)
                  case measure => omega
                  case rel => exact ⟨j + 1, sm2, by omega, rfl, by go_num, HS2.out, HA2.out, HJ.out.2.2⟩
            · have hjk : ¬ (j : Int) < (k : Int) := by omega
              have HU : Hid (u.take j = u) := List.take_of_length_le (by rw [← HK.out]; omega)
              have h1 := HJ.out.1
              have h2 := HJ.out.2.1
              rw [HU.out] at h1 h2
              have hz0 := (sumI_zero u (fun y hy => (h2 y hy).1)).2
              have hall : u.all (fun x => decide (0 ≤ x ∧ x ≤ topF f)) = true := List.all_eq_true.2 (fun y hy => decide_eq_true (h2 y hy))
              have hs := i_eql 3 .i64 sm 0
              rw [← h1] at hz0
              by_cases hs0 : sm = 0
              · rw [decide_eq_true hs0] at hs
                have HRR := hideIt (HBAD.out (by rw [HRO.out, hz0.1 hs0]; simp))
                clear h1 h2 hz0 hall hs0
                go_wp2_with fail
                go_ret
                exact ⟨by rw [HRR.out]; rfl, HBL.out.trans (HJ.out.2.2.mono HBL.out.size)⟩
              · rw [decide_eq_false hs0] at hs
                have HRR := hideIt (HOK.out (by
                  rw [HRO.out, hall]
                  have : u.any (fun x => decide (x ≠ 0)) = true := by
                    rw [← Bool.not_eq_false]
                    exact fun h => hs0 (hz0.2 h)
                  rw [this]
                  simp))
                clear h1 h2 hz0 hall hs0
                go_wp2_with fail
                go_roundg (g0 - 1)
                case measure => omega
                case rel => exact ⟨i + 1, by omega, by go_num, HRR.out, HJ.out.2.2⟩
        · rw [decide_eq_true (by omega)] at hln
          have HRR := hideIt (HBAD.out (by rw [HRO.out, decide_eq_false (by omega)]; rfl))
          clear he
          go_wp2_with fail
          go_quiet (fail)
          go_wp2_with fail
          go_ret
          exact ⟨by rw [HRR.out]; rfl, HBL.out.trans ((below_drewN HI.out.2 _).mono HBL.out.size)⟩
      · have hji : ¬ (i : Int) < (n : Int) := by omega
        have hE : xs.all (rowOk f dn) = true := by
          have := HI.out.1
          rw [List.take_of_length_le (by rw [← HN.out]; omega)] at this
          exact this
        have hRR := HR.out
        rw [if_neg (by rw [hE]; decide)] at hRR
        by_cases q8 : 1 ≤ dm ∧ dm ≤ z
        · rw [if_neg (by rw [decide_eq_true q8]; decide)] at hRR
          have HRR := hideIt hRR
          have g1 : ¬ dm < 1 := by omega
          have g2 : ¬ dm > z := by omega
          clear hRR hE q8
          go_wp2_with fail
          go_ret
          exact ⟨by rw [HRR.out]; rfl, HBL.out.trans (HI.out.2.mono HBL.out.size)⟩
        · rw [if_pos (decide_eq_false q8)] at hRR
          have HRR := hideIt hRR
          clear hRR hE
          by_cases g1 : dm < 1
          · clear q8
            go_wp2_with fail
            go_ret
            exact ⟨by rw [HRR.out]; rfl, HBL.out.trans (HI.out.2.mono HBL.out.size)⟩
          · have g2 : dm > z := by omega
            clear q8
            go_wp2_with fail
            go_ret
            exact ⟨by rw [HRR.out]; rfl, HBL.out.trans (HI.out.2.mono HBL.out.size)⟩

def rheadS (x : Cd) : Bs := [99, 111, 100, 101, 32] ++ x.name ++ [32, 123, 10, 9, 102, 105, 101, 108, 100, 32] ++ numS x.field.toNat ++ [59, 10, 9, 100, 97, 116, 97, 32] ++ numS x.data.toNat ++ [59, 10]
theorem rprintS_is (x : Cd) : rheadS x ++ x.par.flatMap (fun l => [9] ++ rowS l ++ [10]) ++ [9, 100, 111, 109, 97, 105, 110, 32] ++ numS x.dom.toNat ++ [59, 10, 125, 10] = printS x := by
  unfold printS rheadS sp kCode kField kData kDomain
  simp only [List.append_assoc, List.cons_append, List.nil_append]
theorem rowS_len (l : List Int) (hr : ∀ x ∈ l, 0 ≤ x ∧ x ≤ 65535) (hl : l.length ≤ 31) : (rowS l).length ≤ 601 := by
  have := rowN_len l hr hl
  rw [rowS_is, List.length_append]
  show _ + 1 ≤ _
  omega

set_option maxHeartbeats 20000000 in
set_option maxRecDepth 100000 in
theorem rprint_any (x : Cd) (A : Option Addr) (c : Nat) (w : World) (hx : CIn w x A) (hnm : x.name.length ≤ 9223372036854775807) :
    Calls Tryz.prog 12 #[cdV x.name x.field x.data (.slice A x.par.length c) x.dom] w fun e w' => e = .returned (.tuple #[sv (printX x).1, .int .i64 (printX x).2]) ∧ Below w.heap.size w w' := by
  obtain ⟨W0, hW0⟩ : ∃ W0, W0 = w.alloc (.cells #[sv x.name, .int .i64 x.field, .int .i64 x.data, .slice A x.par.length c, .int .i64 x.dom] 24) := ⟨_, rfl⟩
  have hb : Blk W0 w.heap.size 24 [sv x.name, .int .i64 x.field, .int .i64 x.data, .slice A x.par.length c, .int .i64 x.dom] := by rw [hW0]; exact Blk.new w 24 [sv x.name, .int .i64 x.field, .int .i64 x.data, .slice A x.par.length c, .int .i64 x.dom]
  have hbl : Below w.heap.size w W0 := by rw [hW0]; exact below_new w _
  have c0 := hb.cell 0
  have c1 := hb.cell 1
  have c2 := hb.cell 2
  have c3 := hb.cell 3
  have c4 := hb.cell 4
  rw [hW0] at c0 c1 c2 c3 c4
  have HB := hideIt hb
  have HBL := hideIt hbl
  have HCK := hideIt (rcheck_any x A c W0 (hx.keep hbl) hnm)
  have HX := hideIt hx
  have HW0 := hideIt hW0
  have hne := i_neq 25 .i64 (checkX x) 0
  clear hb hbl hx hW0 hnm
  by_cases hq : checkX x ≠ 0
  · rw [decide_eq_true hq] at hne
    rw [show printX x = ([], checkX x) from if_pos hq]
    generalize checkX x = z at *
    clear hq
    go_enter Tryz.func12, Tryz.ntmps12
    go_wp2_with (go_at_call 15; rw [← HW0.out]; refine HCK.out.mono ?_; rintro e w1 ⟨rfl, hb⟩; have HX1 := hideIt (HBL.out.trans (hb.mono HBL.out.size)); clear hb)
    refine bodyPost_ret (results_tmp2 rfl _ _ _) rfl ?_
    exact ⟨rfl, HX1.out⟩
  · rw [decide_eq_false hq] at hne
    rw [show printX x = _ from if_neg hq]
    have hz : checkX x = 0 := Decidable.byContradiction hq
    have hgd := (checkC_good x).1 ((checkX_zero x (by have := HX.out.len; unfold maxLen; omega)).1 hz)
    have HG := hideIt hgd
    rw [hz] at hne HCK
    clear hz hq
    obtain ⟨R, hR⟩ : ∃ R : Bs × Int, R = if 2000 < (printS x).length then ([], 2) else (printS x, 0) := ⟨_, rfl⟩
    rw [← hR]
    have HR := hideIt hR
    clear hR
    have hfr : 0 ≤ x.field ∧ x.field ≤ 16 := by have := hgd.field; omega
    have hdr : 1 ≤ x.data ∧ x.data ≤ 31 := ⟨hgd.d1, hgd.d2⟩
    have hnl := hgd.len
    have HNF := hideIt (rnumber_any x.field.toNat (by omega))
    rw [Int.toNat_of_nonneg hfr.1] at HNF
    have HND := hideIt (rnumber_any x.data.toNat (by omega))
    rw [Int.toNat_of_nonneg (by omega)] at HND
    have lf := numS_len 6 x.field.toNat (by omega)
    have ld := numS_len 6 x.data.toNat (by omega)
    obtain ⟨s18, e18⟩ : ∃ s, s = numS x.field.toNat := ⟨_, rfl⟩
    obtain ⟨s23, e23⟩ : ∃ s, s = numS x.data.toNat := ⟨_, rfl⟩
    rw [← e18] at HNF lf
    rw [← e23] at HND ld
    obtain ⟨s14, e14⟩ : ∃ s, s = [99, 111, 100, 101, 32] ++ x.name := ⟨_, rfl⟩
    have l14 : s14.length ≤ 17 := by rw [e14, List.length_append]; show 5 + _ ≤ 17; omega
    have a14 : binOp .add 9 (.string ⟨#[99, 111, 100, 101, 32]⟩) (sv x.name) = pure (sv s14) := by
      rw [e14]; exact s_add 9 [99, 111, 100, 101, 32] x.name (by show 5 + _ ≤ _; omega)
    obtain ⟨s15, e15⟩ : ∃ s, s = s14 ++ [32, 123, 10, 9, 102, 105, 101, 108, 100, 32] := ⟨_, rfl⟩
    have l15 : s15.length ≤ 27 := by rw [e15, List.length_append]; show _ + 10 ≤ 27; omega
    have a15 : binOp .add 9 (sv s14) (.string ⟨#[32, 123, 10, 9, 102, 105, 101, 108, 100, 32]⟩) = pure (sv s15) := by
      rw [e15]; exact s_add 9 s14 _ (by show _ + 10 ≤ _; omega)
    obtain ⟨s19, e19⟩ : ∃ s, s = s15 ++ s18 := ⟨_, rfl⟩
    have l19 : s19.length ≤ 37 := by rw [e19, List.length_append]; omega
    have a19 : binOp .add 9 (sv s15) (sv s18) = pure (sv s19) := by rw [e19]; exact s_add 9 s15 s18 (by omega)
    obtain ⟨s20, e20⟩ : ∃ s, s = s19 ++ [59, 10, 9, 100, 97, 116, 97, 32] := ⟨_, rfl⟩
    have l20 : s20.length ≤ 45 := by rw [e20, List.length_append]; show _ + 8 ≤ 45; omega
    have a20 : binOp .add 9 (sv s19) (.string ⟨#[59, 10, 9, 100, 97, 116, 97, 32]⟩) = pure (sv s20) := by
      rw [e20]; exact s_add 9 s19 _ (by show _ + 8 ≤ _; omega)
    obtain ⟨s24, e24⟩ : ∃ s, s = s20 ++ s23 := ⟨_, rfl⟩
    have l24 : s24.length ≤ 55 := by rw [e24, List.length_append]; omega
    have a24 : binOp .add 9 (sv s20) (sv s23) = pure (sv s24) := by rw [e24]; exact s_add 9 s20 s23 (by omega)
    obtain ⟨s25, e25⟩ : ∃ s, s = s24 ++ [59, 10] := ⟨_, rfl⟩
    have l25 : s25.length ≤ 57 := by rw [e25, List.length_append]; show _ + 2 ≤ 57; omega
    have a25 : binOp .add 9 (sv s24) (.string ⟨#[59, 10]⟩) = pure (sv s25) := by
      rw [e25]; exact s_add 9 s24 [59, 10] (by show _ + 2 ≤ _; omega)
    have HE25 : Hid (s25 = rheadS x) := by
      show s25 = rheadS x
      rw [e25, e24, e23, e20, e19, e18, e15, e14]
      unfold rheadS
      rfl
    have HL25 := hideIt l25
    clear e14 e15 e18 e19 e20 e23 e24 e25 l14 l15 l19 l20 l24 l25 lf ld hfr hdr hnl hgd
    go_enter Tryz.func12, Tryz.ntmps12
    go_wp2_with (go_at_call 15; rw [← HW0.out]; refine HCK.out.mono ?_; rintro e w1 ⟨rfl, hb⟩; have HX1 := hideIt (HBL.out.trans (hb.mono HBL.out.size)); have HD1 := hideIt (HB.out.kept hb HB.out.lt); clear hb)
    have HXV : Hid (Below w.heap.size w w1.drew) := HX1.out.drew
    have HDV : Hid (Blk w1.drew w.heap.size 24 [sv x.name, .int .i64 x.field, .int .i64 x.data, .slice A x.par.length c, .int .i64 x.dom]) := HD1.out
    refine loads_begin_n 15 [(14, (fun W => Blk W w.heap.size 24 [sv x.name, .int .i64 x.field, .int .i64 x.data, .slice A x.par.length c, .int .i64 x.dom]))] rfl (by kernel_rfl) ?_
    clear c0 c1 c2 c3 c4 hne HX1 HD1 HCK HB HBL HW0
    generalize w1.drew = V at *
    refine wpAnyL_move (oi := ⟨some 12, _, _, _, _, _⟩) 0 ?_ rfl (by kernel_rfl) (by kernel_rfl) (by kernel_rfl) (by kernel_rfl) (fun _ _ _ h => h) (by kernel_rfl) ?_ (Hooks.add HDV.out (Hooks.nil _ _)) ?_
    rotate_left
    · intro W'; go_simp; first | done | with_reducible rfl
    try simp only [Act.put]
    try simp only [List.setIfInBounds_toArray]
    try simp only [List.set_cons_succ]
    try simp only [List.set_cons_zero]
    refine wpAnyL_take (oi := ⟨some 13, _, _, _, _, _⟩) 1 14 (sv x.name) _ rfl (by kernel_rfl) (by kernel_rfl) (by kernel_rfl) (by kernel_rfl) (by kernel_rfl) (by kernel_rfl) (.head _) (fun _ _ _ h => h) (by kernel_rfl) (fun W' hW' => by have hW' : Blk W' w.heap.size 24 [sv x.name, .int .i64 x.field, .int .i64 x.data, .slice A x.par.length c, .int .i64 x.dom] := hW'; have q := hW'.cell 0; go_simp) (Hooks.add HDV.out (Hooks.nil _ _)) ?_
    try simp only [Act.put]
    try simp only [List.setIfInBounds_toArray]
    try simp only [List.set_cons_succ]
    try simp only [List.set_cons_zero]
    refine wpAnyL_move (oi := ⟨some 14, _, _, _, _, _⟩) 2 ?_ rfl (by kernel_rfl) (by kernel_rfl) (by kernel_rfl) (by kernel_rfl) (fun _ _ _ h => h) (by kernel_rfl) ?_ (Hooks.add HDV.out (Hooks.nil _ _)) ?_
    rotate_left
    · intro W'; go_simp; first | done | with_reducible rfl
    try simp only [Act.put]
    try simp only [List.setIfInBounds_toArray]
    try simp only [List.set_cons_succ]
    try simp only [List.set_cons_zero]
    refine wpAnyL_move (oi := ⟨some 15, _, _, _, _, _⟩) 3 ?_ rfl (by kernel_rfl) (by kernel_rfl) (by kernel_rfl) (by kernel_rfl) (fun _ _ _ h => h) (by kernel_rfl) ?_ (Hooks.add HDV.out (Hooks.nil _ _)) ?_
    rotate_left
    · intro W'; go_simp; first | done | with_reducible rfl
    try simp only [Act.put]
    try simp only [List.setIfInBounds_toArray]
    try simp only [List.set_cons_succ]
    try simp only [List.set_cons_zero]
    refine wpAnyL_move (oi := ⟨some 16, _, _, _, _, _⟩) 4 ?_ rfl (by kernel_rfl) (by kernel_rfl) (by kernel_rfl) (by kernel_rfl) (fun _ _ _ h => h) (by kernel_rfl) ?_ (Hooks.add HDV.out (Hooks.nil _ _)) ?_
    rotate_left
    · intro W'; go_simp; first | done | with_reducible rfl
    try simp only [Act.put]
    try simp only [List.setIfInBounds_toArray]
    try simp only [List.set_cons_succ]
    try simp only [List.set_cons_zero]
    refine wpAnyL_take (oi := ⟨some 17, _, _, _, _, _⟩) 5 14 (.int .i64 x.field) _ rfl (by kernel_rfl) (by kernel_rfl) (by kernel_rfl) (by kernel_rfl) (by kernel_rfl) (by kernel_rfl) (.head _) (fun _ _ _ h => h) (by kernel_rfl) (fun W' hW' => by have hW' : Blk W' w.heap.size 24 [sv x.name, .int .i64 x.field, .int .i64 x.data, .slice A x.par.length c, .int .i64 x.dom] := hW'; have q := hW'.cell 1; go_simp) (Hooks.add HDV.out (Hooks.nil _ _)) ?_
    try simp only [Act.put]
    try simp only [List.setIfInBounds_toArray]
    try simp only [List.set_cons_succ]
    try simp only [List.set_cons_zero]
    refine wpAnyL_move (oi := ⟨some 21, _, _, _, _, _⟩) 9 ?_ rfl (by kernel_rfl) (by kernel_rfl) (by kernel_rfl) (by kernel_rfl) (fun _ _ _ h => h) (by kernel_rfl) ?_ (Hooks.add HDV.out (Hooks.nil _ _)) ?_
    rotate_left
    · intro W'; go_simp; first | done | with_reducible rfl
    try simp only [Act.put]
    try simp only [List.setIfInBounds_toArray]
    try simp only [List.set_cons_succ]
    try simp only [List.set_cons_zero]
    refine wpAnyL_take (oi := ⟨some 22, _, _, _, _, _⟩) 10 14 (.int .i64 x.data) _ rfl (by kernel_rfl) (by kernel_rfl) (by kernel_rfl) (by kernel_rfl) (by kernel_rfl) (by kernel_rfl) (.head _) (fun _ _ _ h => h) (by kernel_rfl) (fun W' hW' => by have hW' : Blk W' w.heap.size 24 [sv x.name, .int .i64 x.field, .int .i64 x.data, .slice A x.par.length c, .int .i64 x.dom] := hW'; have q := hW'.cell 2; go_simp) (Hooks.add HDV.out (Hooks.nil _ _)) ?_
    try simp only [Act.put]
    try simp only [List.setIfInBounds_toArray]
    try simp only [List.set_cons_succ]
    try simp only [List.set_cons_zero]
    refine wpAnyL_one 6 (by kernel_rfl) rfl (fun K hK => ?_)
    go_wp2_with (go_at_call 31; refine (HNF.out _).mono ?_; rintro e w2 ⟨rfl, hb⟩; have HX2 := hideIt (HXV.out.trans (hb.mono HXV.out.size)); have HD2 := hideIt (HDV.out.kept hb HDV.out.lt); clear hb)
    refine hK _ _ (Hooks.add HD2.out (Hooks.nil _ _)) ?_
    clear hK K
    refine wpAnyL_move (oi := ⟨some 19, _, _, _, _, _⟩) 7 ?_ rfl (by kernel_rfl) (by kernel_rfl) (by kernel_rfl) (by kernel_rfl) (fun _ _ _ h => h) (by kernel_rfl) ?_ (Hooks.add HD2.out (Hooks.nil _ _)) ?_
    rotate_left
    · intro W'; go_simp; first | done | with_reducible rfl
    try simp only [Act.put]
    try simp only [List.setIfInBounds_toArray]
    try simp only [List.set_cons_succ]
    try simp only [List.set_cons_zero]
    refine wpAnyL_move (oi := ⟨some 20, _, _, _, _, _⟩) 8 ?_ rfl (by kernel_rfl) (by kernel_rfl) (by kernel_rfl) (by kernel_rfl) (fun _ _ _ h => h) (by kernel_rfl) ?_ (Hooks.add HD2.out (Hooks.nil _ _)) ?_
    rotate_left
    · intro W'; go_simp; first | done | with_reducible rfl
    try simp only [Act.put]
    try simp only [List.setIfInBounds_toArray]
    try simp only [List.set_cons_succ]
    try simp only [List.set_cons_zero]
    refine wpAnyL_one 11 (by kernel_rfl) rfl (fun K hK => ?_)
    go_wp2_with (go_at_call 31; refine (HND.out _).mono ?_; rintro e w3 ⟨rfl, hb⟩; have HX3 := hideIt (HX2.out.trans (hb.mono HX2.out.size)); have HD3 := hideIt (HD2.out.kept hb HD2.out.lt); clear hb)
    refine hK _ _ (Hooks.add HD3.out (Hooks.nil _ _)) ?_
    clear hK K
    refine wpAnyL_move (oi := ⟨some 24, _, _, _, _, _⟩) 12 ?_ rfl (by kernel_rfl) (by kernel_rfl) (by kernel_rfl) (by kernel_rfl) (fun _ _ _ h => h) (by kernel_rfl) ?_ (Hooks.add HD3.out (Hooks.nil _ _)) ?_
    rotate_left
    · intro W'; go_simp; first | done | with_reducible rfl
    try simp only [Act.put]
    try simp only [List.setIfInBounds_toArray]
    try simp only [List.set_cons_succ]
    try simp only [List.set_cons_zero]
    refine wpAnyL_move (oi := ⟨some 25, _, _, _, _, _⟩) 13 ?_ rfl (by kernel_rfl) (by kernel_rfl) (by kernel_rfl) (by kernel_rfl) (fun _ _ _ h => h) (by kernel_rfl) ?_ (Hooks.add HD3.out (Hooks.nil _ _)) ?_
    rotate_left
    · intro W'; go_simp; first | done | with_reducible rfl
    try simp only [Act.put]
    try simp only [List.setIfInBounds_toArray]
    try simp only [List.set_cons_succ]
    try simp only [List.set_cons_zero]
    refine loads_tail 14 (by kernel_rfl) (by kernel_rfl) (by kernel_rfl) (by kernel_rfl) ?_
    simp only [List.drop_succ_cons, List.drop_zero]
    obtain ⟨n, hn⟩ : ∃ n, n = x.par.length := ⟨_, rfl⟩
    rw [← hn] at HD3
    have HN := hideIt hn
    have HGL := hideIt (fun l (hl : l ∈ x.par) => rowOk_is (HG.out.rows l hl))
    have hn2 : n ≤ 31 := by have := HG.out.width; have := HG.out.d1; omega
    have HTF : Hid (topF x.field ≤ 65535) := by show topF x.field ≤ 65535; unfold topF; split <;> omega
    have hl25 := HL25.out
    clear hn HXV HDV HNF HND HX2 HD2 a14 a15 a19 a20 a24 a25
    go_wp2_with fail
    go_loopg [5, 6] n (fun gk s5 s6 wr => ∃ (j : Nat) (t : Bs), j + gk = n ∧ s6 = .int .i64 (j : Int) ∧ s5 = sv t ∧ t.length ≤ 57 + 603 * j ∧ Aside (t = rheadS x ++ (x.par.take j).flatMap (fun l => [9] ++ rowS l ++ [10]) ∧ Below w.heap.size w wr ∧ Blk wr w.heap.size 24 [sv x.name, .int .i64 x.field, .int .i64 x.data, .slice A n c, .int .i64 x.dom]))
    case atStart => exact ⟨0, s25, by omega, rfl, rfl, by omega, by rw [HE25.out]; simp, HX3.out, HD3.out⟩
    case round =>
      obtain ⟨j, t, hj, rfl, rfl, htl, HI⟩ := hrel
      have e3 := HI.out.2.2.cell 3
      by_cases hlt : j < n
      · have hjl : j < x.par.length := by rw [← HN.out]; exact hlt
        obtain ⟨b, o, A', c', hA, hb, hcell, hsl⟩ := HX.out.pm.row hjl
        subst hA
        have hq : wr.cell? ⟨b, o + j, none⟩ = some (.slice A' (x.par[j]).length c') := (HI.out.2.1.cell (p := ⟨b, _, none⟩) hb).trans hcell
        have HTK := hideIt (take_snoc x.par j hjl)
        have hrk := HGL.out _ (List.getElem_mem hjl)
        have hinc := inc_w 3 j (by omega)
        have hji : (j : Int) < (n : Int) := by omega
        have hlr : ∀ y ∈ x.par[j], 0 ≤ y ∧ y ≤ 65535 := fun y hy => by have := hrk.2.1 y hy; have := HTF.out; omega
        have hll : (x.par[j]).length ≤ 31 := by have := hrk.1; have := HG.out.d2; omega
        have HRT := hideIt (rrow_any (x.par[j]) hlr hll A' c' w.heap.size wr (hsl.below HI.out.2.1) HI.out.2.1.size)
        have hrl := rowS_len (x.par[j]) hlr hll
        have HTN : Hid (t ++ [9] ++ rowS (x.par[j]) ++ [10] = rheadS x ++ (x.par.take (j + 1)).flatMap (fun l => [9] ++ rowS l ++ [10])) := by
          show _ = _
          rw [HTK.out, List.flatMap_append, HI.out.1]
          simp
        generalize x.par[j] = l at *
        generalize rowS l = rt at *
        have a34 : binOp .add 9 (sv t) (.string ⟨#[9]⟩) = pure (sv (t ++ [9])) := s_add 9 t [9] (by show _ + 1 ≤ _; omega)
        have k34 : (t ++ [9]).length = t.length + 1 := by rw [List.length_append]; rfl
        have a41 := s_add 9 (t ++ [9]) rt (by omega)
        have k41 : (t ++ [9] ++ rt).length = t.length + 1 + rt.length := by rw [List.length_append, k34]
        have a42 : binOp .add 9 (sv (t ++ [9] ++ rt)) (.string ⟨#[10]⟩) = pure (sv (t ++ [9] ++ rt ++ [10])) := s_add 9 (t ++ [9] ++ rt) [10] (by show _ + 1 ≤ _; omega)
        have k42 : (t ++ [9] ++ rt ++ [10]).length ≤ 57 + 603 * (j + 1) := by rw [List.length_append, k41]; show _ + 1 ≤ _; omega
        generalize t ++ [9] ++ rt ++ [10] = t4 at *
        generalize t ++ [9] ++ rt = t3 at *
        generalize t ++ [9] = t2 at *
        clear hjl hb hcell hsl hll hlr hrk hrl k34 k41
        go_wp2_with (go_at_call 32; refine HRT.out.mono ?_; rintro e w4 ⟨rfl, hb4⟩; have HX4 := hideIt (HI.out.2.1.trans (hb4.mono HI.out.2.1.size)); have HBK4 := hideIt (HI.out.2.2.kept hb4 HI.out.2.2.lt); clear hb4)
        go_roundg (gk - 1)
        case measure => omega
        case rel =>
          exact ⟨j + 1, t4, by omega, by go_num, rfl, k42, HTN.out, HX4.out, HBK4.out⟩
      · have hji : ¬ (j : Int) < (n : Int) := by omega
        have e4 := HI.out.2.2.cell 4
        have hdm : 0 ≤ x.dom ∧ x.dom ≤ 32 := by have := HG.out.dom1; have := HG.out.dom2; have := HG.out.width; omega
        have HTE : Hid (t = rheadS x ++ x.par.flatMap (fun l => [9] ++ rowS l ++ [10])) := by
          have := HI.out.1
          rw [List.take_of_length_le (by rw [← HN.out]; omega)] at this
          exact this
        have HNM := hideIt (rnumber_any x.dom.toNat (by omega))
        rw [Int.toNat_of_nonneg hdm.1] at HNM
        have lm := numS_len 6 x.dom.toNat (by omega)
        obtain ⟨sd, ed⟩ : ∃ s, s = numS x.dom.toNat := ⟨_, rfl⟩
        rw [← ed] at HNM lm
        obtain ⟨s44, e44⟩ : ∃ s, s = t ++ [9, 100, 111, 109, 97, 105, 110, 32] := ⟨_, rfl⟩
        have l44 : s44.length = t.length + 8 := by rw [e44, List.length_append]; rfl
        have a44 : binOp .add 9 (sv t) (.string ⟨#[9, 100, 111, 109, 97, 105, 110, 32]⟩) = pure (sv s44) := by
          rw [e44]; exact s_add 9 t _ (by show _ + 8 ≤ _; omega)
        obtain ⟨s48, e48⟩ : ∃ s, s = s44 ++ sd := ⟨_, rfl⟩
        have l48 : s48.length = s44.length + sd.length := by rw [e48, List.length_append]
        have a48 : binOp .add 9 (sv s44) (sv sd) = pure (sv s48) := by rw [e48]; exact s_add 9 s44 sd (by omega)
        obtain ⟨s49, e49⟩ : ∃ s, s = s48 ++ [59, 10, 125, 10] := ⟨_, rfl⟩
        have a49 : binOp .add 9 (sv s48) (.string ⟨#[59, 10, 125, 10]⟩) = pure (sv s49) := by
          rw [e49]; exact s_add 9 s48 _ (by show _ + 4 ≤ _; omega)
        have hE49 : s49 = printS x := by rw [e49, e48, e44, ed, HTE.out, ← rprintS_is]
        have hln := len_c s49
        have HX5 := hideIt HI.out.2.1
        rw [← hE49] at HR
        clear ed e44 e48 e49 l44 l48 lm hdm hE49
        by_cases hq2 : 2000 < s49.length
        · rw [if_pos hq2] at HR
          have hgt : (s49.length : Int) > 2000 := by omega
          clear hq2
          go_wp2_with (go_at_call 31; refine (HNM.out _).mono ?_; rintro e w6 ⟨rfl, hb6⟩; have HX6 := hideIt (HX5.out.trans (hb6.mono HX5.out.size)); clear hb6)
          refine bodyPost_ret (results_tmp2 rfl _ _ _) rfl ?_
          rw [HR.out]
          exact ⟨rfl, HX6.out⟩
        · rw [if_neg hq2] at HR
          have hgt : ¬ (s49.length : Int) > 2000 := by omega
          clear hq2
          go_wp2_with (go_at_call 31; refine (HNM.out _).mono ?_; rintro e w6 ⟨rfl, hb6⟩; have HX6 := hideIt (HX5.out.trans (hb6.mono HX5.out.size)); clear hb6)
          refine bodyPost_ret (results_tmp2 rfl _ _ _) rfl ?_
          rw [HR.out]
          exact ⟨rfl, HX6.out⟩

end Go.Proofs.YtcogkdnlpjfgdaaGreatDoor
