/-
  The reference's encoding of an integer, walked: Int.
-/
import Derived.Test.YtkjnimcapjjfdaaDoorWInt
namespace Go.Proofs.YtkjnimcapjjfdaaDoor
open Go.RowKit
set_option linter.unusedVariables false

theorem one_new (w : World) (t : TypeId) (u0 : Value) : ∀ j u, [u0][j]? = some u → (w.alloc (.cells #[u0] t)).cell? ((⟨w.heap.size, 0, none⟩ : Addr).add j) = some u := by
  intro j u hj
  match j, hj with
  | 0, hj =>
    simp only [List.getElem?_cons_zero, Option.some.injEq] at hj
    subst hj
    rw [addr_add, World.cell?_alloc_at _ _ _ _ rfl]
    rfl
theorem one_is (x : Int) : ∀ u ∈ [Value.int .u8 x], u.oneCell' = true := by
  intro u hu
  rw [List.mem_singleton] at hu
  subst hu; rfl
theorem below_one (w : World) (t : TypeId) (u0 : Value) : Below w.heap.size w (w.alloc (.cells #[u0] t)) := (Below.refl _ _).alloc (Nat.le_refl _) _
/-- One more byte behind an owned row. -/
theorem own_snoc {w : World} {base : Nat} {v : Value} {l : List UInt8} {n : Nat} {d : UInt8} {u : Value} (h : w.ownsRow base 5 1 v (n + 1) (l.map bv ++ [u])) (hn : n = l.length) (hu : u = bv d) :
    w.ownsRow base 5 1 v (l ++ [d]).length ((l ++ [d]).map bv) := by
  subst hn hu
  rw [List.length_append, List.map_append]
  exact h

theorem own_base {w : World} {base base' : Nat} {e : TypeId} {size n : Nat} {v : Value} {xs : List Value} (h : w.ownsRow base e size v n xs) (hb : base' ≤ base) : w.ownsRow base' e size v n xs :=
  ⟨h.1, h.2.imp id fun ⟨g, cp, cur, q1, q2, q3⟩ => ⟨g, cp, cur, q1, Nat.le_trans hb q2, q3⟩⟩

theorem dig_byte (m : Nat) : (.int .u8 ((m : Int) % 256) : Value) = bv (UInt8.ofNat (m % 256)) := by
  unfold bv
  congr 1
  rw [UInt8.toNat_ofNat']
  omega
theorem flip_u8_neg (n : Int) (d : UInt8) (h : n < 0) : (.int .u8 (255 - (d.toNat : Int)) : Value) = bv (flip n d) := by
  unfold bv flip
  rw [if_pos h]
  congr 1
  rw [UInt8.toNat_sub_of_le _ _ (by rw [UInt8.le_iff_toNat_le]; have := d.toNat_lt; simp; omega)]
  have := d.toNat_lt
  simp
  omega
theorem flip_u8_pos (n : Int) (d : UInt8) (h : ¬ n < 0) : (.int .u8 (d.toNat : Int) : Value) = bv (flip n d) := by
  unfold bv flip
  rw [if_neg h]

theorem rev_at (ds l : List UInt8) (h : l = ds.reverse) (i j : Nat) (hi : i + j + 1 = ds.length) (h1 : j < l.length) (h2 : i < ds.length) : l[j] = ds[i] := by
  subst h
  rw [List.getElem_reverse]
  congr 1
  omega


set_option maxHeartbeats 800000 in
set_option maxRecDepth 100000 in
theorem refInt_neg (n : Int) (w : World) (hn : -9223372036854775808 ≤ n) (hn' : n ≤ 9223372036854775807) (h0 : n < 0) :
    Calls Tryd.prog 64 #[.int .i64 n] w fun e w' =>
      ∃ v', e = .returned v' ∧ w'.ownsRow w.heap.size 5 1 v' (enc n).length ((enc n).map bv) ∧ Below w.heap.size w w' := by
  obtain ⟨i0, hi, hz0, hz1, hz2⟩ := info_parts Tryd.info5
  have hlt := mag_lt n hn hn'
  have hmag : (.int .i64 (-1 - n) : Value) = .int .i64 (mag n) := by unfold mag; rw [if_pos h0]; congr 1; omega
  have Hmag := hideIt hmag
  have HB8 := hideIt (be_mag_le n hn hn')
  clear hmag
  go_enter Tryd.func64, Tryd.ntmps64
  go_wp2
  go_loopg [3, 4] 9 (fun g s3 s4 wr => ∃ (k j m : Nat) (ds : List UInt8), g + k = 9 ∧ k + j = 8 ∧ s3 = .int .i64 m ∧ m < 9223372036854775808 ∧ ds.length = k ∧
    Hid (m < 256 ^ j) ∧ Hid (be (mag n) = be m ++ ds.reverse) ∧ Hid (wr.ownsRow w.heap.size 5 1 s4 ds.length (ds.map bv)) ∧ Hid (Below w.heap.size w wr))
  case atStart => exact ⟨0, 8, mag n, [], rfl, rfl, Hmag.out, hlt, rfl, Nat.lt_trans hlt (by decide), by simp [Hid], World.ownsRow_nil _ _ _ _, Below.refl _ _⟩
  case round =>
    obtain ⟨k, j, m, ds, hg, hk, rfl, hm, hdl, HP, HBE, HO, HB⟩ := hrel
    obtain ⟨w1, rfl⟩ : ∃ x, x = wr := ⟨wr, rfl⟩
    by_cases hm0 : m = 0
    · subst hm0
      obtain ⟨A, c, hv4, hc1, hc2⟩ := own_form HO.out
      subst hv4
      have hS := Sl.of_own HO.out
      have HS := hideIt hS
      clear hS
      have hrev : be (mag n) = ds.reverse := by
        have := HBE.out
        rwa [be_zero, List.nil_append] at this
      have HREV := hideIt hrev
      have hbl : (be (mag n)).length = k := by rw [hrev, List.length_reverse, hdl]
      have HBL := hideIt hbl
      have hszw := HB.out.size
      unfold maxLen at hc2
      clear hrev hbl HBE HP
      go_wp2_with (at_builtin; refine wpList_append_own _ rfl (.tmp 34) (.tmp 38) 22 rfl w1.heap.size 5 i0 (.int .u8 0) 1 1 Tryd.underlying22 hi hz0 hz1 hz2 rfl (by decide) _ 0 [] rfl (own_kept (World.ownsRow_nil _ _ _ _) (below_one w1 5 _)) ⟨w1.heap.size, 0, none⟩ 1 1 [.int .u8 (127 - (k : Int))] rfl rfl (one_new w1 5 _) (one_is _) (by unfold maxLen; omega) (by omega) (Nat.le_of_lt (by simp)) ?_)
      intro v6 w6 hown6 hg6 _
      have hb1 := below_one w1 5 (.int .u8 (127 - (k : Int)))
      have hb6 : Below w1.heap.size w1 w6 := hb1.grown hg6 hb1.size (by simp [Value.ownBlock])
      have hown7 := own_snoc (l := []) (d := lead n k) hown6 rfl (lead_neg n k (by omega) (by omega))
      have HO6 := hideIt hown7
      have HB6 := hideIt hb6
      clear hown6 hown7 hb6 hb1 hg6
      go_wp2
      go_loopg [6, 7] k (fun g s6 s7 wx => ∃ (j : Nat) (x : Int), g + j = k ∧ x + j + 1 = k ∧ s7 = .int .i64 x ∧
        Hid (wx.ownsRow w1.heap.size 5 1 s6 (lead n k :: ((be (mag n)).take j).map (flip n)).length ((lead n k :: ((be (mag n)).take j).map (flip n)).map bv)) ∧ Hid (Below w1.heap.size w1 wx))
      case atStart => exact ⟨0, k - 1, rfl, by omega, by go_num, by simpa using HO6, HB6⟩
      case round =>
        obtain ⟨j, x, hg2, hx, rfl, HO7, HB7⟩ := hrel
        by_cases hx0 : x < 0
        · go_wp2
          go_ret
          have hjk : j = k := by omega
          have h7 := HO7.out
          have he : lead n k :: ((be (mag n)).take j).map (flip n) = enc n := by
            have h8 : (be (mag n)).take j = be (mag n) := List.take_of_length_le (by rw [HBL.out]; omega)
            unfold enc
            rw [h8, HBL.out]
          rw [he] at h7
          refine ⟨_, rfl, ?_, HB.out.trans (HB7.out.mono HB.out.size)⟩
          exact own_base h7 HB.out.size
        · obtain ⟨i, rfl⟩ : ∃ i : Nat, x = i := ⟨x.toNat, by omega⟩
          have hi2 : i < ds.length := by omega
          obtain ⟨b, off, rfl, hb, hc⟩ := (HS.out.below HB7.out).byte hi2
          have hd : (.int .u8 (255 - (ds[i].toNat : Int)) : Value) = bv (flip n ds[i]) := flip_u8_neg n ds[i] (by omega)
          have HD := hideIt hd
          have hu := ds[i].toNat_lt
          have hlen : (lead n k :: ((be (mag n)).take j).map (flip n)).length = 1 + j := by simp; have := HBL.out; omega
          obtain ⟨L, hL⟩ : ∃ L, L = lead n k :: ((be (mag n)).take j).map (flip n) := ⟨_, rfl⟩
          have HO8 : Hid (wr.ownsRow w1.heap.size 5 1 u6 (1 + j) (L.map bv)) := by have := HO7.out; rw [hlen] at this; rw [hL]; exact this
          rw [← hL] at hlen
          have HL := hideIt hL
          clear hd hL
          go_wp2_with (at_builtin; refine wpList_append_own _ rfl (.tmp 54) (.tmp 56) 22 rfl w1.heap.size 5 i0 (.int .u8 0) 1 1 Tryd.underlying22 hi hz0 hz1 hz2 rfl (by decide) _ (1 + j) (L.map bv) rfl (own_kept HO8.out (below_one wr 5 _)) ⟨wr.heap.size, 0, none⟩ 1 1 [.int .u8 (255 - (ds[i].toNat : Int))] rfl rfl (one_new wr 5 _) (one_is _) (by unfold maxLen; omega) (by omega) (Nat.le_trans HB7.out.size (below_one _ _ _).size) ?_)
          intro v9 w9 hown9 hg9 _
          have hb1 := below_one wr 5 (.int .u8 (255 - (ds[i].toNat : Int)))
          have hb9 : Below w1.heap.size w1 w9 := below_grown (HB7.out.trans (hb1.mono HB7.out.size)) (own_kept HO8.out hb1) (Nat.le_refl _) (Nat.le_trans HB7.out.size hb1.size) hg9
          have hown10 := own_snoc hown9 hlen.symm HD.out
          have hj : (be (mag n))[j]'(by have := HBL.out; omega) = ds[i] := rev_at ds _ HREV.out i j (by omega) _ hi2
          have hts := take_snoc (be (mag n)) j (by have := HBL.out; omega)
          have hown11 : w9.ownsRow w1.heap.size 5 1 v9 (lead n k :: ((be (mag n)).take (j + 1)).map (flip n)).length ((lead n k :: ((be (mag n)).take (j + 1)).map (flip n)).map bv) := by
            rw [hts, hj, List.map_append, List.map_singleton, ← List.cons_append, ← HL.out]
            exact hown10
          have HO9 := hideIt hown11
          have HB9 := hideIt hb9
          clear hown9 hg9 hb1 hb9 hown10 hown11 hj hts
          go_wp2
          go_roundg (gk - 1)
          case measure => omega
          case rel => exact ⟨j + 1, (i : Int) - 1, by omega, by omega, by go_num, HO9, HB9⟩
    · have hm9 : m < 256 ^ 9 := Nat.lt_of_lt_of_le HP.out (Nat.pow_le_pow_right (by omega) (by omega))
      obtain ⟨j', rfl⟩ : ∃ j', j = j' + 1 := by
        rcases Nat.eq_zero_or_pos j with rfl | h
        · have := HP.out; simp at this; omega
        · exact ⟨j - 1, by omega⟩
      have hp2 : m / 256 < 256 ^ j' := by have := HP.out; rw [Nat.pow_succ] at this; omega
      have HP2 := hideIt hp2
      have hbe2 : be (mag n) = be (m / 256) ++ (ds ++ [UInt8.ofNat (m % 256)]).reverse := by
        rw [HBE.out, be_step m hm0 hm9]; simp
      have HBE2 := hideIt hbe2
      clear hbe2 hp2 hm9 HP
      go_wp2_with (at_builtin; refine wpList_append_own _ rfl (.tmp 16) (.tmp 20) 22 rfl w.heap.size 5 i0 (.int .u8 0) 1 1 Tryd.underlying22 hi hz0 hz1 hz2 rfl (by decide) _ ds.length (ds.map bv) rfl (own_kept HO.out (below_one w1 5 _)) ⟨w1.heap.size, 0, none⟩ 1 1 [.int .u8 ((m : Int) % 256)] rfl rfl (one_new w1 5 _) (one_is _) (by unfold maxLen; omega) (by omega) (Nat.le_trans HB.out.size (below_one _ _ _).size) ?_)
      intro v9 w9 hown9 hg9 _
      have hb1 := below_one w1 5 (.int .u8 ((m : Int) % 256))
      have hb9 : Below w.heap.size w w9 := below_grown (HB.out.trans (hb1.mono HB.out.size)) (own_kept HO.out hb1) (Nat.le_refl _) (Nat.le_trans HB.out.size hb1.size) hg9
      have hown10 := own_snoc hown9 hdl.symm (dig_byte m)
      have HO9 := hideIt hown10
      have HB9 := hideIt hb9
      clear hown9 hg9 hb1 hb9 hown10
      go_wp2
      go_roundg (gk - 1)
      case measure => omega
      case rel => exact ⟨k + 1, j', m / 256, ds ++ [UInt8.ofNat (m % 256)], by omega, by omega, by go_num, by omega, by simp; omega, HP2, HBE2, HO9, HB9⟩

set_option maxHeartbeats 800000 in
set_option maxRecDepth 100000 in
theorem refInt_pos (n : Int) (w : World) (hn : -9223372036854775808 ≤ n) (hn' : n ≤ 9223372036854775807) (h0 : ¬ n < 0) :
    Calls Tryd.prog 64 #[.int .i64 n] w fun e w' =>
      ∃ v', e = .returned v' ∧ w'.ownsRow w.heap.size 5 1 v' (enc n).length ((enc n).map bv) ∧ Below w.heap.size w w' := by
  obtain ⟨i0, hi, hz0, hz1, hz2⟩ := info_parts Tryd.info5
  have hlt := mag_lt n hn hn'
  have hmag : (.int .i64 (n) : Value) = .int .i64 (mag n) := by unfold mag; rw [if_neg h0]; congr 1; omega
  have Hmag := hideIt hmag
  have HB8 := hideIt (be_mag_le n hn hn')
  clear hmag
  go_enter Tryd.func64, Tryd.ntmps64
  go_wp2
  go_loopg [3, 4] 9 (fun g s3 s4 wr => ∃ (k j m : Nat) (ds : List UInt8), g + k = 9 ∧ k + j = 8 ∧ s3 = .int .i64 m ∧ m < 9223372036854775808 ∧ ds.length = k ∧
    Hid (m < 256 ^ j) ∧ Hid (be (mag n) = be m ++ ds.reverse) ∧ Hid (wr.ownsRow w.heap.size 5 1 s4 ds.length (ds.map bv)) ∧ Hid (Below w.heap.size w wr))
  case atStart => exact ⟨0, 8, mag n, [], rfl, rfl, Hmag.out, hlt, rfl, Nat.lt_trans hlt (by decide), by simp [Hid], World.ownsRow_nil _ _ _ _, Below.refl _ _⟩
  case round =>
    obtain ⟨k, j, m, ds, hg, hk, rfl, hm, hdl, HP, HBE, HO, HB⟩ := hrel
    obtain ⟨w1, rfl⟩ : ∃ x, x = wr := ⟨wr, rfl⟩
    by_cases hm0 : m = 0
    · subst hm0
      obtain ⟨A, c, hv4, hc1, hc2⟩ := own_form HO.out
      subst hv4
      have hS := Sl.of_own HO.out
      have HS := hideIt hS
      clear hS
      have hrev : be (mag n) = ds.reverse := by
        have := HBE.out
        rwa [be_zero, List.nil_append] at this
      have HREV := hideIt hrev
      have hbl : (be (mag n)).length = k := by rw [hrev, List.length_reverse, hdl]
      have HBL := hideIt hbl
      have hszw := HB.out.size
      unfold maxLen at hc2
      clear hrev hbl HBE HP
      go_wp2_with (at_builtin; refine wpList_append_own _ rfl (.tmp 28) (.tmp 32) 22 rfl w1.heap.size 5 i0 (.int .u8 0) 1 1 Tryd.underlying22 hi hz0 hz1 hz2 rfl (by decide) _ 0 [] rfl (own_kept (World.ownsRow_nil _ _ _ _) (below_one w1 5 _)) ⟨w1.heap.size, 0, none⟩ 1 1 [.int .u8 (128 + (k : Int))] rfl rfl (one_new w1 5 _) (one_is _) (by unfold maxLen; omega) (by omega) (Nat.le_of_lt (by simp)) ?_)
      intro v6 w6 hown6 hg6 _
      have hb1 := below_one w1 5 (.int .u8 (128 + (k : Int)))
      have hb6 : Below w1.heap.size w1 w6 := hb1.grown hg6 hb1.size (by simp [Value.ownBlock])
      have hown7 := own_snoc (l := []) (d := lead n k) hown6 rfl (lead_pos n k (by omega) (by omega))
      have HO6 := hideIt hown7
      have HB6 := hideIt hb6
      clear hown6 hown7 hb6 hb1 hg6
      go_wp2
      go_loopg [6, 7] k (fun g s6 s7 wx => ∃ (j : Nat) (x : Int), g + j = k ∧ x + j + 1 = k ∧ s7 = .int .i64 x ∧
        Hid (wx.ownsRow w1.heap.size 5 1 s6 (lead n k :: ((be (mag n)).take j).map (flip n)).length ((lead n k :: ((be (mag n)).take j).map (flip n)).map bv)) ∧ Hid (Below w1.heap.size w1 wx))
      case atStart => exact ⟨0, k - 1, rfl, by omega, by go_num, by simpa using HO6, HB6⟩
      case round =>
        obtain ⟨j, x, hg2, hx, rfl, HO7, HB7⟩ := hrel
        by_cases hx0 : x < 0
        · go_wp2
          go_ret
          have hjk : j = k := by omega
          have h7 := HO7.out
          have he : lead n k :: ((be (mag n)).take j).map (flip n) = enc n := by
            have h8 : (be (mag n)).take j = be (mag n) := List.take_of_length_le (by rw [HBL.out]; omega)
            unfold enc
            rw [h8, HBL.out]
          rw [he] at h7
          refine ⟨_, rfl, ?_, HB.out.trans (HB7.out.mono HB.out.size)⟩
          exact own_base h7 HB.out.size
        · obtain ⟨i, rfl⟩ : ∃ i : Nat, x = i := ⟨x.toNat, by omega⟩
          have hi2 : i < ds.length := by omega
          obtain ⟨b, off, rfl, hb, hc⟩ := (HS.out.below HB7.out).byte hi2
          have hd : (.int .u8 ((ds[i].toNat : Int)) : Value) = bv (flip n ds[i]) := flip_u8_pos n ds[i] (by omega)
          have HD := hideIt hd
          have hu := ds[i].toNat_lt
          have hlen : (lead n k :: ((be (mag n)).take j).map (flip n)).length = 1 + j := by simp; have := HBL.out; omega
          obtain ⟨L, hL⟩ : ∃ L, L = lead n k :: ((be (mag n)).take j).map (flip n) := ⟨_, rfl⟩
          have HO8 : Hid (wr.ownsRow w1.heap.size 5 1 u6 (1 + j) (L.map bv)) := by have := HO7.out; rw [hlen] at this; rw [hL]; exact this
          rw [← hL] at hlen
          have HL := hideIt hL
          clear hd hL
          go_wp2_with (at_builtin; refine wpList_append_own _ rfl (.tmp 54) (.tmp 56) 22 rfl w1.heap.size 5 i0 (.int .u8 0) 1 1 Tryd.underlying22 hi hz0 hz1 hz2 rfl (by decide) _ (1 + j) (L.map bv) rfl (own_kept HO8.out (below_one wr 5 _)) ⟨wr.heap.size, 0, none⟩ 1 1 [.int .u8 ((ds[i].toNat : Int))] rfl rfl (one_new wr 5 _) (one_is _) (by unfold maxLen; omega) (by omega) (Nat.le_trans HB7.out.size (below_one _ _ _).size) ?_)
          intro v9 w9 hown9 hg9 _
          have hb1 := below_one wr 5 (.int .u8 ((ds[i].toNat : Int)))
          have hb9 : Below w1.heap.size w1 w9 := below_grown (HB7.out.trans (hb1.mono HB7.out.size)) (own_kept HO8.out hb1) (Nat.le_refl _) (Nat.le_trans HB7.out.size hb1.size) hg9
          have hown10 := own_snoc hown9 hlen.symm HD.out
          have hj : (be (mag n))[j]'(by have := HBL.out; omega) = ds[i] := rev_at ds _ HREV.out i j (by omega) _ hi2
          have hts := take_snoc (be (mag n)) j (by have := HBL.out; omega)
          have hown11 : w9.ownsRow w1.heap.size 5 1 v9 (lead n k :: ((be (mag n)).take (j + 1)).map (flip n)).length ((lead n k :: ((be (mag n)).take (j + 1)).map (flip n)).map bv) := by
            rw [hts, hj, List.map_append, List.map_singleton, ← List.cons_append, ← HL.out]
            exact hown10
          have HO9 := hideIt hown11
          have HB9 := hideIt hb9
          clear hown9 hg9 hb1 hb9 hown10 hown11 hj hts
          go_wp2
          go_roundg (gk - 1)
          case measure => omega
          case rel => exact ⟨j + 1, (i : Int) - 1, by omega, by omega, by go_num, HO9, HB9⟩
    · have hm9 : m < 256 ^ 9 := Nat.lt_of_lt_of_le HP.out (Nat.pow_le_pow_right (by omega) (by omega))
      obtain ⟨j', rfl⟩ : ∃ j', j = j' + 1 := by
        rcases Nat.eq_zero_or_pos j with rfl | h
        · have := HP.out; simp at this; omega
        · exact ⟨j - 1, by omega⟩
      have hp2 : m / 256 < 256 ^ j' := by have := HP.out; rw [Nat.pow_succ] at this; omega
      have HP2 := hideIt hp2
      have hbe2 : be (mag n) = be (m / 256) ++ (ds ++ [UInt8.ofNat (m % 256)]).reverse := by
        rw [HBE.out, be_step m hm0 hm9]; simp
      have HBE2 := hideIt hbe2
      clear hbe2 hp2 hm9 HP
      go_wp2_with (at_builtin; refine wpList_append_own _ rfl (.tmp 16) (.tmp 20) 22 rfl w.heap.size 5 i0 (.int .u8 0) 1 1 Tryd.underlying22 hi hz0 hz1 hz2 rfl (by decide) _ ds.length (ds.map bv) rfl (own_kept HO.out (below_one w1 5 _)) ⟨w1.heap.size, 0, none⟩ 1 1 [.int .u8 ((m : Int) % 256)] rfl rfl (one_new w1 5 _) (one_is _) (by unfold maxLen; omega) (by omega) (Nat.le_trans HB.out.size (below_one _ _ _).size) ?_)
      intro v9 w9 hown9 hg9 _
      have hb1 := below_one w1 5 (.int .u8 ((m : Int) % 256))
      have hb9 : Below w.heap.size w w9 := below_grown (HB.out.trans (hb1.mono HB.out.size)) (own_kept HO.out hb1) (Nat.le_refl _) (Nat.le_trans HB.out.size hb1.size) hg9
      have hown10 := own_snoc hown9 hdl.symm (dig_byte m)
      have HO9 := hideIt hown10
      have HB9 := hideIt hb9
      clear hown9 hg9 hb1 hb9 hown10
      go_wp2
      go_roundg (gk - 1)
      case measure => omega
      case rel => exact ⟨k + 1, j', m / 256, ds ++ [UInt8.ofNat (m % 256)], by omega, by omega, by go_num, by omega, by simp; omega, HP2, HBE2, HO9, HB9⟩

theorem refInt_any (n : Int) (w : World) (hn : -9223372036854775808 ≤ n) (hn' : n ≤ 9223372036854775807) :
    Calls Tryd.prog 64 #[.int .i64 n] w fun e w' =>
      ∃ v', e = .returned v' ∧ w'.ownsRow w.heap.size 5 1 v' (enc n).length ((enc n).map bv) ∧ Below w.heap.size w w' := by
  by_cases h0 : n < 0
  · exact refInt_neg n w hn hn' h0
  · exact refInt_pos n w hn hn' h0

end Go.Proofs.YtkjnimcapjjfdaaDoor
