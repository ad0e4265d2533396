/-
  The reference of layer 4, walked: exponents, Twin.
-/
import Derived.Test.YtbejmcndflmgaaaDoorPLaw
import Derived.Laws.OwnMore
namespace Go.Proofs.YtbejmcndflmgaaaDoor
open Go.RowKit
set_option linter.unusedVariables false

/-- The polynomial's bits from the k-th on. -/
def pk (k : Nat) : Nat := 4812730177 / 2 ^ k
theorem pk_le (k : Nat) : pk k ≤ 4812730177 := Nat.div_le_self _ _
theorem pk_succ (k : Nat) : pk (k + 1) = pk k / 2 := by unfold pk; rw [Nat.pow_succ, Nat.div_div_eq_div_mul]
def exsR (k : Nat) : List Nat := (List.range k).filter fun g => pk g % 2 == 1
theorem exsR_end : exsR 33 = gs := by decide +kernel
theorem exsR_yes (k : Nat) (h : pk k % 2 = 1) : exsR (k + 1) = exsR k ++ [k] := by
  unfold exsR; rw [List.range_succ, List.filter_append]; simp [h]
theorem exsR_no (k : Nat) (h : pk k % 2 = 0) : exsR (k + 1) = exsR k := by
  unfold exsR; rw [List.range_succ, List.filter_append]; simp [h]
theorem exsR_len (k : Nat) : (exsR k).length ≤ k := by
  unfold exsR
  exact Nat.le_trans (List.length_filter_le _ _) (by simp)
theorem quo2_c (t : TypeId) (n : Nat) (hn : n ≤ 4812730177) : binOp .quo t (.int .i64 (n : Int)) (.int .i64 2) = pure (.int .i64 ((n / 2 : Nat) : Int)) := by
  rw [binOp_quo]
  have h : IntKind.i64.wrap ((n : Int).tdiv 2) = ((n / 2 : Nat) : Int) := by
    rw [Int.tdiv_eq_ediv_of_nonneg (by omega), IntWalk.i64_in _ (by omega)]
    omega
  simp only [Op.intDiv]
  rw [← h]
  rfl
theorem rem2_c (t : TypeId) (n : Nat) : binOp .rem t (.int .i64 (n : Int)) (.int .i64 2) = pure (.int .i64 ((n % 2 : Nat) : Int)) := by
  rw [binOp_rem]
  have h : (n : Int).tmod 2 = ((n % 2 : Nat) : Int) := by
    rw [Int.tmod_eq_emod_of_nonneg (by omega)]
    omega
  simp only [Op.intDiv]
  rw [← h]
  rfl
theorem one_new (w : World) (t : TypeId) (u0 : Value) : ∀ j u, [u0][j]? = some u → (w.alloc (.cells #[u0] t)).cell? ((⟨w.heap.size, 0, none⟩ : Addr).add j) = some u := by
  intro j u hj
  match j, hj with
  | 0, hj =>
    simp only [List.getElem?_cons_zero, Option.some.injEq] at hj
    subst hj
    rw [addr_add]
    exact cell_one w t u0
theorem num_one (x : Int) : ∀ u ∈ [iv x], u.oneCell' = true := fun u hu => by rw [List.mem_singleton] at hu; subst hu; rfl
abbrev nv (n : Nat) : Value := .int .i64 (n : Int)
theorem own_blk {w : World} {base n : Nat} {e : TypeId} {v : Value} {xs : List Value} (h : w.ownsRow base e 1 v n xs) (hn : 0 < n) : ∃ g cap sp, v = .slice (some ⟨g, 0, none⟩) n cap ∧ base ≤ g ∧ Blk w g e (xs ++ sp) := by
  rcases h.2 with ⟨_, h0⟩ | ⟨g, cap, cur, hv, hb, hg, h1, h2, h3, h4⟩
  · omega
  · refine ⟨g, cap, cur.toList.drop n, hv, hb, ?_⟩
    have hc : cur.toList = xs ++ cur.toList.drop n := by rw [← h4, Nat.mul_one, List.take_append_drop]
    unfold Blk
    rw [← hc, hg]

set_option maxHeartbeats 400000 in
set_option maxRecDepth 100000 in
theorem exps_any (w : World) : Calls Tryd.prog 19 #[] w fun e w' =>
    ∃ v, e = .returned v ∧ w'.ownsRow w.heap.size 3 1 v 18 (gs.map nv) ∧ Below w.heap.size w w' := by
  obtain ⟨i0, hi, hz0, hz1, hz2⟩ := info_parts (show (Tryd.prog.info? 3).map (fun i => (i.zero, i.size, i.bytes)) = some (some (Value.int .i64 0), 1, 8) by kernel_rfl)
  go_enter Tryd.func19, Tryd.ntmps19
  go_wp2_with fail
  go_loopg [1, 2, 3] 33 (fun g s1 s2 s3 wr => ∃ (k p n : Nat), g + k = 33 ∧ s3 = .int .i64 k ∧ s2 = .int .i64 p ∧ Aside (p = pk k ∧ n = (exsR k).length ∧ wr.ownsRow w.heap.size 3 1 s1 n ((exsR k).map nv) ∧ Below w.heap.size w wr))
  case atStart => exact ⟨0, 4812730177, 0, rfl, rfl, rfl, by decide, rfl, World.ownsRow_nil _ _ _ _, Below.refl _ _⟩
  case round =>
    obtain ⟨k, p, n, hg, rfl, rfl, HA⟩ := hrel
    by_cases hk : k < 33
    · have hp := HA.out.1
      have hple : p ≤ 4812730177 := by rw [hp]; exact pk_le k
      have hq := quo2_c 3 p hple
      have hr := rem2_c 3 p
      have hinc := inc_c 3 k (by omega)
      have hnl : n ≤ 33 := by have := exsR_len k; have := HA.out.2.1; omega
      have hki : (k : Int) ≤ 32 := by omega
      have HP1 := hideIt (show p / 2 = pk (k + 1) by rw [pk_succ, hp])
      by_cases hbit : p % 2 = 1
      · have HN := hideIt (exsR_yes k (by rw [← hp]; exact hbit))
        rw [hbit] at hr
        generalize p / 2 = p2 at *
        clear hp hple hbit
        go_wp2_with (at_builtin; refine wpList_append_own _ rfl (.tmp 11) (.tmp 13) 39 rfl w.heap.size 3 i0 (.int .i64 0) 1 8 Tryd.underlying39 hi hz0 hz1 hz2 rfl (by decide) _ n ((exsR k).map nv) rfl (own_kept HA.out.2.2.1 (below_new wr _)) ⟨wr.heap.size, 0, none⟩ 1 1 [nv k] rfl rfl (one_new wr 3 _) (num_one _) (by unfold maxLen; omega) (by omega) (Nat.le_trans HA.out.2.2.2.size (below_new wr _).size) ?_; intro v9 w9 hown9 hg9 _; have hb1 := below_new wr (.cells #[nv k] 3); have hbw2 := HA.out.2.2.2; have HB9 := hideIt (below_grown (hbw2.trans (hb1.mono hbw2.size)) (own_kept HA.out.2.2.1 hb1) (Nat.le_refl _) (Nat.le_trans hbw2.size hb1.size) hg9); have HO9 := hideIt hown9; clear hown9 hg9 hb1 hbw2)
        go_roundg (gk - 1)
        case measure => omega
        case rel =>
          refine ⟨k + 1, p2, n + 1, by omega, by go_num, rfl, HP1.out, ?_, ?_, HB9.out⟩
          · rw [HN.out, List.length_append, HA.out.2.1]; rfl
          · rw [HN.out, List.map_append]; exact HO9.out
      · have hb0 : p % 2 = 0 := by omega
        have HN := hideIt (exsR_no k (by rw [← hp]; exact hb0))
        rw [hb0] at hr
        generalize p / 2 = p2 at *
        clear hp hple hbit hb0
        go_wp2_with fail
        go_roundg (gk - 1)
        case measure => omega
        case rel => exact ⟨k + 1, p2, n, by omega, by go_num, rfl, HP1.out, by rw [HN.out]; exact HA.out.2.1, by rw [HN.out]; exact HA.out.2.2.1, HA.out.2.2.2⟩
    · obtain rfl : k = 33 := by omega
      have hki : ¬ (33 : Int) ≤ 32 := by omega
      have HO := hideIt HA.out.2.2.1
      have hn := HA.out.2.1
      rw [exsR_end] at HO hn
      have hn : n = 18 := hn
      subst hn
      go_wp2_with fail
      go_ret
      exact ⟨_, rfl, HO.out, HA.out.2.2.2⟩

theorem pow_byte (s : Nat) (h : s < 7) (t : TypeId) : binOp .mul t (.int .u8 2) (.int .u8 ((UInt8.ofNat (2 ^ s)).toNat : Int)) = pure (.int .u8 ((UInt8.ofNat (2 ^ (s + 1))).toNat : Int)) := by
  have h2 : ∀ s : Fin 7, IntKind.u8.wrap (2 * ((UInt8.ofNat (2 ^ s.val)).toNat : Int)) = ((UInt8.ofNat (2 ^ (s.val + 1))).toNat : Int) := by decide +kernel
  rw [binOp_mul]
  simp only [Op.intArith]
  have h3 := h2 ⟨s, h⟩
  simp only at h3
  rw [h3]
/-- The bits of the k-th twin, in the reference's order. -/
def bitsR (k : Nat) : List Nat := gs.map fun g => k + 32 - g
theorem bitsR_len (k : Nat) : (bitsR k).length = 18 := by unfold bitsR gs; simp
theorem bitsR_le (k : Nat) : ∀ x ∈ bitsR k, x ≤ k + 32 := fun x hx => by
  unfold bitsR at hx
  obtain ⟨g, _, rfl⟩ := List.mem_map.1 hx
  omega
theorem bitsR_at (k j : Nat) (h : j < 18) : (bitsR k)[j]'(by rw [bitsR_len]; exact h) = k + 32 - gs.getD j 0 := by
  unfold bitsR
  rw [List.getElem_map, List.getD_eq_getElem?_getD, List.getElem?_eq_getElem (by show j < 18; exact h)]
  rfl
theorem flipsR (u : List UInt8) (k : Nat) : flips u.length u (bitsR k) = twin u k := by unfold bitsR twin; rw [flips_twinE]
theorem gs_le (j : Nat) (h : j < 18) : gs.getD j 0 ≤ 32 := by
  have : ∀ j : Fin 18, gs.getD j.val 0 ≤ 32 := by decide +kernel
  exact this ⟨j, h⟩

set_option maxHeartbeats 1000000 in
set_option maxRecDepth 100000 in
theorem rtw_any (l : List UInt8) (k : Int) (w : World) :
    Calls Tryd.prog 14 #[.string (str l), .int .i64 k] w fun e w' => e = .returned (.tuple #[.string (str (twS l k)), .int .i64 (twE l k)]) ∧ Below w.heap.size w w' := by
  by_cases h0 : k < 0
  · obtain ⟨hS, hE⟩ := tw_no (l := l) (k := k) (by omega)
    rw [hS, hE]
    clear hS hE
    go_enter Tryd.func14, Tryd.ntmps14
    go_wp2_with fail
    go_ret2
    exact ⟨rfl, Below.refl _ _⟩
  have HZ := hideIt (str_size l)
  have HSP := hideIt (fun W => rspace_any (l.length : Int) W)
  by_cases h1 : k < spc l.length
  · obtain ⟨hS, hE, hj, h2000⟩ := tw_ok (l := l) (k := k) (by omega)
    rw [hS, hE]
    obtain ⟨m, rfl⟩ : ∃ m : Nat, k = (m : Int) := ⟨k.toNat, by omega⟩
    rw [show ((m : Int)).toNat = m by omega] at hj ⊢
    have hcv := Lib.run_convert_string_bytes w 9 32 5 (str l) Tryd.underlying9 Tryd.underlying32 Tryd.underlying5
    rw [str_size] at hcv
    have HB1 := hideIt (below_bytes w 5 (str l))
    have HR1 := hideIt (brow_new w 5 l)
    have HM := hideIt hj
    have HL := hideIt h2000
    have HF := hideIt (flipsR l m)
    clear hS hE hj h2000
    generalize Lib.bytesWorld w 5 (str l) = w1 at *
    generalize grownCap w l.length 0 5 = c at *
    generalize spc (l.length : Int) = z at *
    generalize str l = s at *
    go_enter Tryd.func14, Tryd.ntmps14
    go_wp2_with fail
    rw [HZ.out]
    refine (HSP.out _).mono ?_
    rintro e w' ⟨rfl, rfl⟩
    go_wp2_with fail
    refine (exps_any _).mono ?_
    rintro e w2 ⟨v, rfl, hown, hb2⟩
    obtain ⟨ge, cp, sp, rfl, hge, hblk⟩ := own_blk hown (by omega)
    have HBK := hideIt hblk
    have HB2 := hideIt hb2
    have HGE := hideIt (show w.heap.size < ge by have := HR1.out.lt; omega)
    clear hown hge hblk hb2 hcv
    go_wp2_with fail
    obtain ⟨g, hg⟩ : ∃ g, g = w.heap.size := ⟨_, rfl⟩
    have HGG := hideIt hg
    have HR2 := hideIt (HR1.out.kept HB2.out HR1.out.lt)
    rw [← hg] at HR2 HGE ⊢
    have HBW := hideIt (HB1.out.trans (HB2.out.mono HB1.out.size))
    rw [← hg] at HBW
    have HGW := hideIt hg
    clear hg HB1 HR1 HB2 HGG
    go_loopg [8] 18 (fun gg s8 wr => ∃ j : Nat, gg + j = 18 ∧ s8 = .int .i64 j ∧ Aside (BRow wr g (flips l.length l ((bitsR m).take j)) ∧ Blk wr ge 3 (gs.map nv ++ sp) ∧ Below g w wr))
    case atStart => exact ⟨0, rfl, rfl, HR2.out, HBK.out, HBW.out⟩
    case round =>
      obtain ⟨j, hg, rfl, HA⟩ := hrel
      by_cases hjl : j < 18
      · have hji : (j : Int) < 18 := by omega
        have hce : wr.cell? ⟨ge, j, none⟩ = some (.int .i64 ((gs.getD j 0 : Nat) : Int)) := by
          rw [HA.out.2.1.cell j, List.getElem?_append_left (by rw [List.length_map]; exact hjl), List.getElem?_map, List.getElem?_eq_getElem (by exact hjl), List.getD_eq_getElem?_getD, List.getElem?_eq_getElem (by exact hjl)]
          rfl
        have hgl := gs_le j hjl
        have hmm := HM.out
        have hl2 := HL.out
        have hadd := add32_c 3 m (by omega)
        have hsub := subg_c 3 (m + 32) (gs.getD j 0) (by omega) (by omega)
        have hbx := bitsR_at m j hjl
        have hsn : (bitsR m).take (j + 1) = (bitsR m).take j ++ [(bitsR m)[j]'(by rw [bitsR_len]; exact hjl)] := take_snoc _ _ _
        rw [hbx] at hsn
        have hx8 : m + 32 - gs.getD j 0 < 8 * l.length := by omega
        have hLl : (flips l.length l ((bitsR m).take j)).length = l.length := flips_len _ _ rfl _ fun y hy => by
          have := bitsR_le m y (List.mem_of_mem_take hy)
          omega
        have hfs := flips_snoc l.length l ((bitsR m).take j) (m + 32 - gs.getD j 0)
        rw [← hsn] at hfs
        have hI := HA.out.1
        obtain ⟨L, hL⟩ : ∃ L, L = flips l.length l ((bitsR m).take j) := ⟨_, rfl⟩
        rw [← hL] at hI hLl hfs
        obtain ⟨x, hx⟩ : ∃ x, x = m + 32 - gs.getD j 0 := ⟨_, rfl⟩
        rw [← hx] at hsub hx8 hfs
        obtain ⟨M, hM⟩ : ∃ M, M = m + 32 := ⟨_, rfl⟩
        rw [← hM] at hadd hsub
        have hq8 : x / 8 < L.length := by omega
        have hcell := hI.cell _ hq8
        have hfree := hI.free _ hq8
        have hquo := quo8_c 3 x (by omega)
        have hrem := rem8_c 3 x (by omega)
        have hxor := xor_c 5 (L[x / 8]) (UInt8.ofNat (2 ^ (x % 8)))
        have hset := set_bit' L l.length x (x / 8) _ _ hLl hx8 rfl rfl hq8 rfl
        have hst := hI.store _ hq8 (L[x / 8] ^^^ UInt8.ofNat (2 ^ (x % 8)))
        rw [hset, ← hfs] at hst
        have HST := hideIt hst
        have HBS := hideIt (HA.out.2.1.store_other (k := g) (i := x / 8) (u := bv (L[x / 8] ^^^ UInt8.ofNat (2 ^ (x % 8)))) (by have := HGE.out; omega))
        have HBE := hideIt (HA.out.2.2.setCell (p := ⟨g, x / 8, none⟩) (Nat.le_refl _) (bv (L[x / 8] ^^^ UInt8.ofNat (2 ^ (x % 8)))))
        have hqi : ((x / 8 : Nat) : Int) < (l.length : Int) := by omega
        have hr7 : x % 8 < 8 := by omega
        have hinc := inc_c 3 j (by omega)
        clear hset hst hfs hsn hbx hI hL hx hM hLl hgl hx8 hmm
        generalize L[x / 8] = u at *
        generalize x / 8 = q at *
        generalize x % 8 = r at *
        generalize gs.getD j 0 = gj at *
        go_wp2_with fail
        obtain ⟨wo, rfl⟩ : ∃ x, x = wr := ⟨wr, rfl⟩
        obtain ⟨ko, rfl⟩ : ∃ x, x = gk := ⟨gk, rfl⟩
        go_loopg [10, 11] r (fun gg s10 s11 wr => ∃ i : Nat, gg + i = r ∧ s11 = .int .i64 i ∧ s10 = .int .u8 ((UInt8.ofNat (2 ^ i)).toNat : Int) ∧ wr = wo)
        case atStart => exact ⟨0, rfl, rfl, rfl, rfl⟩
        case round =>
          obtain ⟨i, hgi, rfl, rfl, rfl⟩ := hrel
          by_cases hi : i < r
          · have hii : (i : Int) < (r : Int) := by omega
            have hmul := pow_byte i (by omega) 5
            have hin2 := inc_c 3 i (by omega)
            have HPW := hideIt (rfl : (UInt8.ofNat (2 ^ (i + 1))) = (UInt8.ofNat (2 ^ (i + 1))))
            generalize (UInt8.ofNat (2 ^ i)) = e1 at *
            obtain ⟨e2, he2⟩ : ∃ e2, e2 = UInt8.ofNat (2 ^ (i + 1)) := ⟨_, rfl⟩
            rw [← he2] at hmul
            have HE2 := hideIt he2
            clear he2
            go_wp2_with fail
            go_roundg (gk - 1)
            case measure => omega
            case rel => exact ⟨i + 1, by omega, by go_num, by rw [← HE2.out], rfl⟩
          · have hii : ¬ (i : Int) < (r : Int) := by omega
            obtain rfl : i = r := by omega
            generalize (UInt8.ofNat (2 ^ i)) = e1 at *
            generalize u ^^^ e1 = y at *
            go_wp2_with fail
            go_roundg (ko - 1)
            case measure => omega
            case rel => exact ⟨j + 1, by omega, by go_num, HST.out, HBS.out, HBE.out⟩
      · obtain rfl : j = 18 := by omega
        have hI := HA.out.1
        rw [List.take_of_length_le (by rw [bitsR_len]; omega), HF.out] at hI
        have hlt : (twin l m).length = l.length := twin_len _ _ HM.out
        have hcv := conv_bytes (P := Tryd.prog) (T := 32) (S := 9) (e := 5) Tryd.underlying32 Tryd.underlying5 Tryd.underlying9 (c := c) hI.sl
        rw [hlt] at hcv
        change (convert 32 9 (.slice (some ⟨g, 0, none⟩) l.length c)).run Tryd.prog wr = .ok (.string (str (twin l m))) wr at hcv
        obtain ⟨t, ht⟩ : ∃ t, t = str (twin l m) := ⟨_, rfl⟩
        rw [← ht] at hcv
        have HTT := hideIt ht
        clear hI hlt ht
        go_wp2_with fail
        go_ret2
        exact ⟨by rw [← HTT.out]; rfl, by rw [← HGW.out]; exact HA.out.2.2⟩
  · obtain ⟨hS, hE⟩ := tw_no (l := l) (k := k) (by omega)
    rw [hS, hE]
    clear hS hE
    generalize spc (l.length : Int) = z at *
    generalize str l = s at *
    go_enter Tryd.func14, Tryd.ntmps14
    go_wp2_with fail
    rw [HZ.out]
    refine (HSP.out _).mono ?_
    rintro e w' ⟨rfl, rfl⟩
    go_wp2_with fail
    go_ret2
    exact ⟨rfl, Below.refl _ _⟩

end Go.Proofs.YtbejmcndflmgaaaDoor
