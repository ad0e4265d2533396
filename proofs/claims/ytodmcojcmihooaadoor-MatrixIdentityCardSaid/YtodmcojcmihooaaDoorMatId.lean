/-
  Identity, walked.
-/
import Derived.Test.YtodmcojcmihooaaDoorMatI
namespace Go.Proofs.YtodmcojcmihooaaDoor
open Go.RowKit
set_option linter.unusedVariables false

/-- What Identity answers. -/
def idM (m n : Int) : Mt × Int := if vd m 0 = true ∧ isz n = true then (mkM m.toNat n.toNat n.toNat idm, 0) else (zeroM, 1)
def idK (k : Nat) : Mx := fun i j => if i < k ∧ i = j then 1 else 0
theorem idK_next (k : Nat) : upd2 (idK k) k k 1 = idK (k + 1) := by
  funext i j
  unfold upd2 idK
  by_cases e : i = k ∧ j = k
  · rw [if_pos e, if_pos (by omega)]
  · rw [if_neg e]
    by_cases e2 : i < k ∧ i = j
    · rw [if_pos e2, if_pos (by omega)]
    · rw [if_neg e2, if_neg (by omega)]
theorem idK_all {n i j : Nat} (hi : i < n) : idK n i j = idm i j := by
  unfold idK idm
  by_cases e : i = j
  · rw [if_pos ⟨hi, e⟩, if_pos e]
  · rw [if_neg (fun q => e q.2), if_neg e]

set_option maxHeartbeats 1000000 in
set_option maxRecDepth 100000 in
theorem ident_any (m n : Int) (w : World) (hT : Tabs w) :
    Calls Tryd.prog 30 #[.int .i64 m, .int .i64 n] w (MRes w (idM m n)) := by
  have HV := hideIt (fun W (hW : Below w.heap.size w W) => valid_any m 0 W (hT.keep hW))
  have HZ := hideIt (fun W => isz_any n W)
  have HPR := hideIt (Blk.new w 24 (mtC 0 0 0 (.slice none 0 0)))
  obtain ⟨r, hr⟩ : ∃ r, r = idM m n := ⟨_, rfl⟩
  rw [← hr]
  have HR := hideIt hr
  clear hr hT
  by_cases h1 : vd m 0 = true
  · by_cases h2 : isz n = true
    · rw [h1] at HV
      rw [h2] at HZ
      have HR2 : Hid (r = (mkM m.toNat n.toNat n.toNat idm, 0)) := hideIt (by rw [HR.out]; unfold idM; rw [if_pos ⟨h1, h2⟩])
      obtain ⟨k, x, rfl, hx0, hk, _⟩ := vd_spec h1
      clear hx0
      obtain ⟨q, rfl, hq⟩ := isz_spec h2
      rw [Int.toNat_natCast, Int.toNat_natCast] at HR2
      have HZS := hideIt (fun W => zeros_any k q q (by omega) (by omega) W)
      clear h1 h2 HR
      go_enter Tryd.func30, Tryd.ntmps30
      go_wp2_with (first
        | (go_at_call 41; refine (HV.out _ (below_new w _)).mono ?_; rintro e w2 ⟨rfl, rfl⟩)
        | (go_at_call 40; refine (HZ.out _).mono ?_; rintro e w2 ⟨rfl, rfl⟩)
        | (go_at_call 35; refine (HZS.out _).mono ?_; rintro e w5 ⟨gp, rfl, hg, hc, hb5⟩; have HMK := hideIt (Mk.start (m := k) (below_new w _) HPR.out (Nat.le_refl _) hb5 hg hc rfl); clear hg hc hb5))
      obtain ⟨p6, hp6⟩ : ∃ p6, p6 = w5.heap.size := ⟨_, rfl⟩
      rw [← hp6] at HMK ⊢
      clear hp6 HV HZ HZS HPR
      have hqq : q * q ≤ 32 * 32 := Nat.mul_le_mul hq hq
      go_loopg [22] q (fun gk s22 wr => ∃ i : Nat, i + gk = q ∧ s22 = .int .i64 (i : Int) ∧ Aside (MkE w w.heap.size p6 gp k q q wr (idK i)))
      case atStart => exact ⟨0, by omega, rfl, _, HMK.out.congr (fun i j _ _ => by unfold idK; rw [if_neg (by omega)])⟩
      case round =>
        obtain ⟨i, hi, rfl, HI⟩ := hrel
        by_cases hlt : i < q
        · have hinc := inc_c 3 i (by omega)
          have hiq : (i : Int) < (q : Int) := by omega
          have HROW := hideIt (fun W => row_mk (gp := gp) (R := q) (C := q) (i := i) k hlt (by omega) (by omega) (by omega) W)
          obtain ⟨w6, hmk⟩ := HI.out
          have HM := hideIt hmk
          clear HI hmk HMK
          go_wp2_with (first
            | ((with_reducible refine at_load ?_); refine wpList_ldM rfl (.tmp 6) rfl p6 _ _ _ _ rfl HM.out.box ?_)
            | (go_at_call 36; refine (HROW.out _).mono ?_; rintro e w7 ⟨rfl, hb7⟩; have HM7 := hideIt (HM.out.below hb7); obtain ⟨hcell, hfr⟩ := HM7.out.cell (i := i) (j := i) hlt hlt; clear hb7))
          go_roundg (gk - 1)
          case measure => omega
          case rel => exact ⟨i + 1, by omega, by go_num, w6, by rw [← idK_next]; exact HM7.out.store (x := 1) hlt hlt⟩
        · have hiq : ¬ (i : Int) < (q : Int) := by omega
          obtain rfl : i = q := by omega
          obtain ⟨w6, hmk⟩ := HI.out
          have HM := hideIt (hmk.congr (fun r j hr hj => idK_all (j := j) hr))
          clear HI hmk HMK
          go_wp2_with (first
            | ((with_reducible refine at_load ?_); refine wpList_ldM rfl (.tmp 6) rfl p6 _ _ _ _ rfl HM.out.box ?_)
            | ((with_reducible refine at_store ?_); refine wpList_stM rfl (.tmp 4) (.tmp 31) rfl w.heap.size _ _ _ _ _ _ _ _ rfl rfl rfl HM.out.res ?_; intro w8 HT8 HB8))
          refine bodyPost_ret (results_two rfl _ _ w.heap.size _ _ _ rfl HB8.out Tryd.underlying24 rfl isz4) rfl ?_
          rw [HR2.out]
          exact HM.out.fin (by omega) (by omega) HT8.out
    · have HR2 : Hid (r = (zeroM, 1)) := hideIt (by rw [HR.out]; unfold idM; rw [if_neg (fun h => h2 h.2)])
      rw [h1] at HV
      rw [Bool.eq_false_iff.2 h2] at HZ
      clear h1 h2 HR
      go_enter Tryd.func30, Tryd.ntmps30
      go_wp2_with (first
        | (go_at_call 41; refine (HV.out _ (below_new w _)).mono ?_; rintro e w2 ⟨rfl, rfl⟩)
        | (go_at_call 40; refine (HZ.out _).mono ?_; rintro e w2 ⟨rfl, rfl⟩)
        | ((with_reducible refine at_store ?_); refine wpList_stM rfl (.tmp 4) (.tmp 16) rfl w.heap.size 0 0 0 0 0 0 (.slice none 0 0) (.slice none 0 0) rfl rfl rfl HPR.out ?_; intro w8 HT8 HB8))
      refine bodyPost_ret (results_two rfl _ _ w.heap.size _ _ _ rfl HB8.out Tryd.underlying24 rfl isz4) rfl ?_
      rw [HR2.out]
      exact MRes.bad (HT8.out.below (below_new w _) (Nat.le_refl _)) 1
  · have HR2 : Hid (r = (zeroM, 1)) := hideIt (by rw [HR.out]; unfold idM; rw [if_neg (fun h => h1 h.1)])
    rw [Bool.eq_false_iff.2 h1] at HV
    clear h1 HR
    go_enter Tryd.func30, Tryd.ntmps30
    go_wp2_with (first
        | (go_at_call 41; refine (HV.out _ (below_new w _)).mono ?_; rintro e w2 ⟨rfl, rfl⟩)
        | ((with_reducible refine at_store ?_); refine wpList_stM rfl (.tmp 4) (.tmp 16) rfl w.heap.size 0 0 0 0 0 0 (.slice none 0 0) (.slice none 0 0) rfl rfl rfl HPR.out ?_; intro w8 HT8 HB8))
    refine bodyPost_ret (results_two rfl _ _ w.heap.size _ _ _ rfl HB8.out Tryd.underlying24 rfl isz4) rfl ?_
    rw [HR2.out]
    exact MRes.bad (HT8.out.below (below_new w _) (Nat.le_refl _)) 1

end Go.Proofs.YtodmcojcmihooaaDoor
