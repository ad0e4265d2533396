/-
  The program's Reads, the library's Compare (of integers, of slices) and Or, the comparison of two plans, walked.
-/
import Derived.Test.YtklngodlijiccaaDoorRepG
namespace Go.Proofs.YtklngodlijiccaaDoor
open Go.RowKit
set_option linter.unusedVariables false
set_option linter.unusedSimpArgs false

/-- The first j numbers, then zeros. -/
def part9 (xs : List Int) (j : Nat) : List Int := xs.take j ++ List.replicate (xs.length - j) 0
theorem part9_len {xs : List Int} {j : Nat} (h : j ≤ xs.length) : (part9 xs j).length = xs.length := by unfold part9; simp; omega
theorem part9_set {xs : List Int} {j : Nat} (h : j < xs.length) : ((part9 xs j).map iv).set j (iv xs[j]) = (part9 xs (j + 1)).map iv := by
  rw [← List.map_set]
  congr 1
  unfold part9
  have ht : (xs.take j).length = j := by rw [List.length_take]; omega
  rw [List.set_append_right _ _ (by omega), ht, Nat.sub_self, show xs.length - j = (xs.length - (j + 1)) + 1 by omega, List.replicate_succ, List.set_cons_zero, take_snoc xs j h, List.append_assoc]
  rfl
theorem part9_end (xs : List Int) : part9 xs xs.length = xs := by unfold part9; simp
theorem sl_blk9 {W : World} {g n : Nat} {t : TypeId} {cs : List Value} (h : Blk W g t cs) (hl : cs.length = n) : Sl W W.heap.size (some ⟨g, 0, none⟩) 1 n cs :=
  ⟨by rw [hl, Nat.mul_one], fun _ => ⟨g, 0, rfl, h.lt, fun j u hj => by rw [Nat.zero_add, h.cell]; exact hj⟩⟩
/-- A new row of numbers. -/
def RdV (w : World) (xs : List Int) (e : Ending) (w' : World) : Prop := ∃ A c, e = .returned (.slice A xs.length c) ∧ Sl w' w'.heap.size A 1 xs.length (xs.map iv) ∧ Below w.heap.size w w'
set_option maxHeartbeats 1000000 in
set_option maxRecDepth 100000 in
theorem reads_any (u : Int) (l : List (Int × Int)) (hl : l.length ≤ 1000) (A : Option Addr) (c : Nat) (w : World) (h : Sl w w.heap.size A 2 l.length (zcs l)) :
    Calls Tryd.prog 18 #[.agg #[.int .i64 u, .slice A l.length c]] w (RdV w (l.map (·.1))) := by
  obtain ⟨W, hW⟩ : ∃ W, W = w.alloc (.cells #[.int .i64 u, .slice A l.length c] 30) := ⟨_, rfl⟩
  have hbw : Below w.heap.size w W := by rw [hW]; exact below_new w _
  have HB := hideIt hbw
  have HBK := hideIt (show Blk W w.heap.size 30 [.int .i64 u, .slice A l.length c] by rw [hW]; exact Blk.new w 30 [.int .i64 u, .slice A l.length c])
  have HS := hideIt ((h.below hbw).wide hbw.size)
  have HWE := hideIt hW
  obtain ⟨xs, hxs⟩ : ∃ xs, xs = l.map (·.1) := ⟨_, rfl⟩
  have HXL := hideIt (show xs.length = l.length by rw [hxs, List.length_map])
  have HXA := hideIt (fun (k : Nat) (h : k < l.length) (h2 : k < xs.length) => show xs[k] = l[k].1 by simp only [hxs, List.getElem_map])
  rw [← hxs]
  clear hbw h hW hxs
  go_enter Tryd.func18, Tryd.ntmps18
  go_wp2_with ((with_reducible refine at_make ?_); rw [← HWE.out]; refine wpList_zeros _ rfl (.tmp 8) (.tmp 8) rfl l.length rfl rfl (by omega) ?_; intro w2 HB2 HW2; have c2 : w2.cell? ⟨w.heap.size, 1, none⟩ = some (.slice A l.length c) := (HBK.out.kept HW2.out HBK.out.lt).cell 1)
  clear c2
  go_loopg [13] l.length (fun gk s13 wr => ∃ k : Nat, k + gk = l.length ∧ s13 = .int .i64 (k : Int) ∧ Aside (Blk wr W.heap.size 3 ((part9 xs k).map iv)) ∧ Aside (Below W.heap.size W wr))
  case atStart => exact ⟨0, by omega, rfl, by
    have h := HB2.out
    rw [show nl l.length (fun _ => 0) = part9 xs 0 by unfold part9 nl; rw [List.take_zero, List.nil_append, HXL.out, Nat.sub_zero, List.map_const', List.length_range]; rfl] at h
    exact h, HW2.out⟩
  case round =>
    obtain ⟨k, hk, rfl, HW, HL⟩ := hrel
    obtain ⟨w4, rfl⟩ : ∃ x, x = wr := ⟨wr, rfl⟩
    by_cases hlt : k < l.length
    · obtain ⟨b, o, rfl, hb, hrg⟩ := (HS.out.below HL.out).zr hlt
      have HRG := hideIt hrg
      have hinc := inc_c 3 k (by omega)
      have hki : (k : Int) < (l.length : Int) := by omega
      have hkx : k < xs.length := by rw [HXL.out]; exact hlt
      have HX := hideIt (HXA.out k hlt hkx)
      have HST := hideIt (part9_set (xs := xs) (j := k) hkx)
      rw [HX.out] at HST
      have HSZ := hideIt HL.out.size
      generalize l[k] = t at *
      have hcx : ∀ w8, Below w4.heap.size w4 w8 → ∃ v, w8.cell? ⟨W.heap.size, k, none⟩ = some v ∧ w8.frozen? ⟨W.heap.size, k, none⟩ = false ∧ Blk (w8.setCell ⟨W.heap.size, k, none⟩ (iv t.1)) W.heap.size 3 ((part9 xs (k + 1)).map iv) := fun w8 hb8 => by
        have hB := HW.out.kept hb8 HW.out.lt
        have hce := hB.cell k
        rw [List.getElem?_eq_getElem (by rw [List.length_map, part9_len (by omega)]; exact hkx)] at hce
        refine ⟨_, hce, hB.free k, ?_⟩
        have := hB.store k (iv t.1)
        rwa [HST.out] at this
      have HCX := hideIt hcx
      clear hb hrg hcx HX HST hkx
      go_wp2_with (first
        | ((with_reducible refine at_load ?_); refine wpList_ldT (by kernel_rfl) (.tmp 16) rfl (t := t) rfl HRG.out ?_)
        | ((with_reducible refine at_store ?_); refine wpList_put rfl _ (.tmp 5) (.tmp 17) rfl w4.heap.size (zc t) [.int .i64 0, .int .i64 0] 54 rfl rfl (Blk.new w4 54 [.int .i64 0, .int .i64 0]) isz2 rfl (by simp [Value.oneCell']) ?_; intro w8 ht8 hb8; have c0 := hb8.cell 0; have hbb := ht8.below (below_new w4 (.cells #[.int .i64 0, .int .i64 0] 54)) (Nat.le_refl _); obtain ⟨v8, hv8, hf8, hs8⟩ := HCX.out w8 hbb; have HS8 := hideIt hs8; have HL8 := hideIt (below_set (HL.out.trans (hbb.mono HL.out.size)) (Nat.le_refl _) k (iv t.1)); clear ht8 hb8 hbb hs8))
      go_roundg (gk - 1)
      case measure => omega
      case rel => exact ⟨k + 1, by omega, by go_num, HS8.out, HL8.out⟩
    · have hki : ¬ (k : Int) < (l.length : Int) := by omega
      obtain rfl : k = l.length := by omega
      have HW2 := hideIt HW.out
      rw [← HXL.out, part9_end] at HW2
      go_wp2_with fail
      go_ret
      refine ⟨some ⟨W.heap.size, 0, none⟩, l.length, by rw [HXL.out]; rfl, sl_blk9 HW2.out (by rw [List.length_map]), HB.out.trans (HL.out.mono HB.out.size)⟩
/-- -1, 0 or 1. -/
def cmpZ (a b : Int) : Int := if a < b then -1 else if b < a then 1 else 0
theorem isnan_any (a : Int) (w : World) : Calls Tryd.prog 58 #[.int .i64 a] w fun e w' => e = .returned (.bool false) ∧ w = w' := by
  have h := i_neq 3 .i64 a a
  rw [decide_eq_false (fun h => h rfl)] at h
  go_enter Tryd.func58, Tryd.ntmps58
  go_wp2_with fail
  go_ret
  exact ⟨rfl, rfl⟩
theorem compare_any (a b : Int) (w : World) : Calls Tryd.prog 38 #[.int .i64 a, .int .i64 b] w fun e w' => e = .returned (.int .i64 (cmpZ a b)) ∧ w = w' := by
  have HN := hideIt (fun a w => isnan_any a w)
  obtain ⟨r, hr⟩ : ∃ r, r = cmpZ a b := ⟨_, rfl⟩
  rw [← hr]
  unfold cmpZ at hr
  by_cases h1 : a < b
  · have HR := hideIt (hr.trans (if_pos h1))
    clear hr
    rw [HR.out]
    go_enter Tryd.func38, Tryd.ntmps38
    go_wp2_with (go_at_call 58; refine (HN.out _ _).mono ?_; rintro e w' ⟨rfl, rfl⟩)
    go_ret
    exact ⟨rfl, rfl⟩
  · rw [if_neg h1] at hr
    by_cases h2 : a > b
    · have HR := hideIt (hr.trans (if_pos h2))
      clear hr
      rw [HR.out]
      go_enter Tryd.func38, Tryd.ntmps38
      go_wp2_with (go_at_call 58; refine (HN.out _ _).mono ?_; rintro e w' ⟨rfl, rfl⟩)
      go_ret
      exact ⟨rfl, rfl⟩
    · have HR := hideIt (hr.trans (if_neg h2))
      clear hr
      rw [HR.out]
      go_enter Tryd.func38, Tryd.ntmps38
      go_wp2_with (go_at_call 58; refine (HN.out _ _).mono ?_; rintro e w' ⟨rfl, rfl⟩)
      go_ret
      exact ⟨rfl, rfl⟩
/-- The first number that is not 0. -/
def orZ : List Int → Int
  | [] => 0
  | a :: l => if a = 0 then orZ l else a
set_option maxHeartbeats 1000000 in
theorem or_any (l : List Int) (hn : l.length ≤ 1000) (D : Option Addr) (cd : Nat) (w : World) (hD : Sl w w.heap.size D 1 l.length (l.map iv)) :
    Calls Tryd.prog 37 #[.slice D l.length cd] w fun e w' => e = .returned (.int .i64 (orZ l)) ∧ w = w' := by
  have HS := hideIt hD
  obtain ⟨R, hR⟩ : ∃ R, R = orZ l := ⟨_, rfl⟩
  have HR := hideIt hR
  rw [← hR]
  clear hD hR
  go_enter Tryd.func37, Tryd.ntmps37
  go_wp2_with fail
  go_loopg [8] l.length (fun gk s8 wr => ∃ k : Nat, k + gk = l.length ∧ s8 = .int .i64 (k : Int) ∧ wr = w ∧ Aside (orZ (l.drop k) = orZ l))
  case atStart => exact ⟨0, by omega, rfl, rfl, rfl⟩
  case round =>
    obtain ⟨k, hk, rfl, rfl, HA⟩ := hrel
    obtain ⟨w, rfl⟩ : ∃ x, x = wr := ⟨wr, rfl⟩
    by_cases hlt : k < l.length
    · obtain ⟨b, o, rfl, hb, hc⟩ := HS.out.num hlt
      have hinc := inc_c 3 k (by omega)
      have hki : (k : Int) < (l.length : Int) := by omega
      have HD := hideIt (List.drop_eq_getElem_cons hlt)
      have hn0 := i_neq 3 .i64 l[k] 0
      generalize l[k] = q at *
      clear hb
      by_cases he : q = 0
      · rw [decide_eq_false (fun h => h he)] at hn0
        have HE := hideIt (show orZ (l.drop (k + 1)) = orZ l by rw [← HA.out, HD.out]; exact (if_pos he).symm)
        clear he HD
        go_wp2_with fail
        go_roundg (gk - 1)
        case measure => omega
        case rel => exact ⟨k + 1, by omega, by go_num, rfl, HE.out⟩
      · rw [decide_eq_true he] at hn0
        have HE := hideIt (show R = q by rw [HR.out, ← HA.out, HD.out]; exact if_neg he)
        clear he HD
        go_wp2_with fail
        go_ret
        exact ⟨by rw [HE.out]; rfl, rfl⟩
    · have hki : ¬ (k : Int) < (l.length : Int) := by omega
      have HE := hideIt (show R = 0 by rw [HR.out, ← HA.out, List.drop_eq_nil_of_le (by omega)]; rfl)
      go_wp2_with fail
      go_ret
      exact ⟨by rw [HE.out]; rfl, rfl⟩
/-- Two lists compared. -/
def cmpL : List Int → List Int → Int
  | [], [] => 0
  | [], _ :: _ => -1
  | _ :: _, [] => 1
  | a :: r, b :: s => if cmpZ a b = 0 then cmpL r s else cmpZ a b
set_option maxHeartbeats 1000000 in
theorem cmpsl_any (l r : List Int) (hn : l.length ≤ 1000) (hr : r.length ≤ 1000) (D E : Option Addr) (cd ce : Nat) (w : World) (hD : Sl w w.heap.size D 1 l.length (l.map iv)) (hE : Sl w w.heap.size E 1 r.length (r.map iv)) :
    Calls Tryd.prog 39 #[.slice D l.length cd, .slice E r.length ce] w fun e w' => e = .returned (.int .i64 (cmpL l r)) ∧ w = w' := by
  have HS := hideIt hD
  have HS2 := hideIt hE
  have HC := hideIt (fun a b w => compare_any a b w)
  obtain ⟨R, hR⟩ : ∃ R, R = cmpL l r := ⟨_, rfl⟩
  have HR := hideIt hR
  rw [← hR]
  clear hD hE hR
  go_enter Tryd.func39, Tryd.ntmps39
  go_wp2_with fail
  go_loopg [11] l.length (fun gk s11 wr => ∃ k : Nat, k + gk = l.length ∧ s11 = .int .i64 (k : Int) ∧ wr = w ∧ Aside (cmpL (l.drop k) (r.drop k) = cmpL l r) ∧ Aside (k ≤ r.length))
  case atStart => exact ⟨0, by omega, rfl, rfl, rfl, Nat.zero_le _⟩
  case round =>
    obtain ⟨k, hk, rfl, rfl, HA, HKR⟩ := hrel
    obtain ⟨w, rfl⟩ : ∃ x, x = wr := ⟨wr, rfl⟩
    by_cases hlt : k < l.length
    · obtain ⟨b, o, rfl, hb, hc⟩ := HS.out.num hlt
      have hinc := inc_c 3 k (by omega)
      have hki : (k : Int) < (l.length : Int) := by omega
      have HD := hideIt (List.drop_eq_getElem_cons hlt)
      generalize l[k] = q at *
      clear hb
      by_cases hlr : k < r.length
      · obtain ⟨b2, o2, rfl, hb2, hc2⟩ := HS2.out.num hlr
        have hkr : ¬ (k : Int) ≥ (r.length : Int) := by omega
        have HD2 := hideIt (List.drop_eq_getElem_cons hlr)
        generalize r[k] = q2 at *
        clear hb2
        have HCC := hideIt (HC.out q q2 w)
        have hn0 := i_neq 3 .i64 (cmpZ q q2) 0
        have HCL := hideIt (show cmpL l r = if cmpZ q q2 = 0 then cmpL (l.drop (k + 1)) (r.drop (k + 1)) else cmpZ q q2 by rw [← HA.out, HD.out, HD2.out]; rfl)
        generalize cmpZ q q2 = z at *
        by_cases he : z = 0
        · rw [decide_eq_false (fun h => h he)] at hn0
          have HE := hideIt (show cmpL (l.drop (k + 1)) (r.drop (k + 1)) = cmpL l r from (HCL.out.trans (if_pos he)).symm)
          clear he HD HCL
          go_wp2_with (go_at_call 38; refine HCC.out.mono ?_; rintro e w' ⟨rfl, rfl⟩; clear HCC)
          go_roundg (gk - 1)
          case measure => omega
          case rel => exact ⟨k + 1, by omega, by go_num, rfl, HE.out, hlr⟩
        · rw [decide_eq_true he] at hn0
          have HE := hideIt (show R = z from HR.out.trans (HCL.out.trans (if_neg he)))
          clear he HD HCL
          go_wp2_with (go_at_call 38; refine HCC.out.mono ?_; rintro e w' ⟨rfl, rfl⟩; clear HCC)
          go_ret
          exact ⟨by rw [HE.out]; rfl, rfl⟩
      · have hkr : (k : Int) ≥ (r.length : Int) := by omega
        have HE := hideIt (show R = 1 by rw [HR.out, ← HA.out, HD.out, List.drop_eq_nil_of_le (show r.length ≤ k by omega)]; rfl)
        go_wp2_with fail
        go_ret
        exact ⟨by rw [HE.out]; rfl, rfl⟩
    · have hki : ¬ (k : Int) < (l.length : Int) := by omega
      have HKR2 := HKR.out
      by_cases hll : l.length < r.length
      · have hlli : (l.length : Int) < (r.length : Int) := by omega
        have HE := hideIt (show R = -1 by rw [HR.out, ← HA.out, List.drop_eq_nil_of_le (show l.length ≤ k by omega), List.drop_eq_getElem_cons (show k < r.length by omega)]; rfl)
        clear HKR2
        go_wp2_with fail
        go_ret
        exact ⟨by rw [HE.out]; rfl, rfl⟩
      · have hlli : ¬ (l.length : Int) < (r.length : Int) := by omega
        have HE := hideIt (show R = 0 by rw [HR.out, ← HA.out, List.drop_eq_nil_of_le (show l.length ≤ k by omega), List.drop_eq_nil_of_le (show r.length ≤ k by omega)]; rfl)
        clear HKR2
        go_wp2_with fail
        go_ret
        exact ⟨by rw [HE.out]; rfl, rfl⟩
theorem cmpZ_eq {a b : Int} (h : a = b) : cmpZ a b = 0 := by unfold cmpZ; rw [if_neg (by omega), if_neg (by omega)]
theorem cmpZ_lt {a b : Int} (h : a < b) : cmpZ a b = -1 := if_pos h
theorem cmpZ_gt {a b : Int} (h : b < a) : cmpZ a b = 1 := by unfold cmpZ; rw [if_neg (by omega), if_pos h]
theorem cmpL_lt : ∀ {a b : TL}, a.length = b.length → decide (cmpL (a.map fun t => (t.1 : Int)) (b.map fun t => (t.1 : Int)) < 0) = ltU a b
  | [], [], _ => rfl
  | [], _ :: _, h => by cases h
  | _ :: _, [], h => by cases h
  | p :: a, q :: b, h => by
    have ih := cmpL_lt (a := a) (b := b) (by simpa using h)
    show decide ((if cmpZ (p.1 : Int) (q.1 : Int) = 0 then cmpL (a.map fun t => (t.1 : Int)) (b.map fun t => (t.1 : Int)) else cmpZ (p.1 : Int) (q.1 : Int)) < 0) = if p.1 ≠ q.1 then decide (p.1 < q.1) else ltU a b
    by_cases e : p.1 = q.1
    · rw [if_pos (cmpZ_eq (show (p.1 : Int) = q.1 by omega)), if_neg (fun h => h e)]; exact ih
    · rw [if_pos (show p.1 ≠ q.1 from e)]
      by_cases l : p.1 < q.1
      · rw [cmpZ_lt (show (p.1 : Int) < q.1 by omega), if_neg (by decide), decide_eq_true l]; rfl
      · rw [cmpZ_gt (show (q.1 : Int) < p.1 by omega), if_neg (by decide), decide_eq_false l]; rfl
/-- Which of two plans is better, by the sign. -/
theorem cmp_bt (a b : TL) : decide (orZ [cmpZ (a.length : Int) (b.length : Int), cmpL (a.map fun t => (t.1 : Int)) (b.map fun t => (t.1 : Int))] < 0) = bt a b := by
  obtain ⟨z, hz⟩ : ∃ z, z = cmpL (a.map fun t => (t.1 : Int)) (b.map fun t => (t.1 : Int)) := ⟨_, rfl⟩
  rw [← hz]
  show decide ((if cmpZ (a.length : Int) (b.length : Int) = 0 then (if z = 0 then 0 else z) else cmpZ (a.length : Int) (b.length : Int)) < 0) = if a.length ≠ b.length then decide (a.length < b.length) else ltU a b
  by_cases e : a.length = b.length
  · rw [if_pos (cmpZ_eq (show (a.length : Int) = b.length by omega)), if_neg (show ¬ (a.length ≠ b.length) from fun h => h e), ← cmpL_lt e, ← hz]
    by_cases h0 : z = 0
    · rw [if_pos h0, h0]
    · rw [if_neg h0]
  · rw [if_pos (show a.length ≠ b.length from e)]
    by_cases l : a.length < b.length
    · rw [cmpZ_lt (show (a.length : Int) < b.length by omega), if_neg (by decide), decide_eq_true l]; rfl
    · rw [cmpZ_gt (show (b.length : Int) < a.length by omega), if_neg (by decide), decide_eq_false l]; rfl
end Go.Proofs.YtklngodlijiccaaDoor
