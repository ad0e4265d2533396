/-
  Prefix proofs, checked: digest.VerifyPrefix, walked; and that the prefix proofs of a list are accepted.
-/
import Derived.Test.YtefalanfkihcdaaDoorPair
import Derived.Test.YtefalanfkihcdaaDoorSub
namespace Go.Proofs.YtefalanfkihcdaaDoor
open Go.RowKit
set_option linter.unusedVariables false

theorem pair_any (old : List UInt8) (ho : old.length = 16) (A : Option Addr) (B c : Nat) (ds : List (List UInt8)) : ∀ (p m n : Nat) (whole : Bool) (w : World), n ≤ 9223372036854775807 → 1 ≤ m → m ≤ n → p ≤ ds.length → p ≤ c → p ≤ 1000000000 → Ds w B A ds.length ds → B ≤ w.heap.size → Tab w 1 →
    Calls Tryd.prog 49 #[dv old, .int .i64 (m : Int), .int .i64 (n : Int), .bool whole, .slice A p c] w fun e w' =>
      e = .returned (.tuple #[dv (pairG false old ds p m n whole).1, dv (pairG false old ds p m n whole).2.1, .bool (pairG false old ds p m n whole).2.2]) ∧ Below w.heap.size w w' := by
  intro p
  induction p with
  | zero =>
    intro m n whole w hn hm1 hm hp hpc hp9 hD hB hT
    unfold pairG
    by_cases hw : m = n ∧ whole = true
    · obtain ⟨rfl, rfl⟩ := hw
      have := pair_whole old ho A m 0 c w hn (by omega)
      simpa using this
    · rw [if_neg hw]
      exact pair_short old ho A m n c whole w hn hm hw
  | succ p ih =>
    intro m n whole w hn hm1 hm hp hpc hp9 hD hB hT
    have hdl := hD.2.1
    by_cases hw : m = n ∧ whole = true
    · obtain ⟨rfl, rfl⟩ := hw
      have := pair_whole old ho A m (p + 1) c w hn (by omega)
      unfold pairG
      simpa using this
    · by_cases hmn : m = n
      · subst hmn
        obtain rfl : whole = false := by cases whole <;> simp_all
        have := pair_one old ho A B m p c ds w hn hp9 hD hp hB
        unfold pairG
        rw [if_neg hw, if_pos rfl]
        exact this
      · have hs := splitK_spec n (by omega)
        by_cases hk : m ≤ splitK n
        · have hl := pairG_len false old ds ho hdl p m (splitK n) whole (by omega)
          have := pair_left old ho A B m n p c whole ds w hn hm1 (by omega) hk hp9 hD hp hpc hB hT _ _ hl.1 hl.2 (pairG false old ds p m (splitK n) whole).2.2
            (fun W hW => ih m (splitK n) whole W (by omega) hm1 hk (by omega) (by omega) (by omega) (hD.below hW hB) (Nat.le_trans hB hW.size) (hT.keep hW))
          unfold pairG
          rw [if_neg hw, if_neg hmn, if_pos hk]
          exact this
        · have hl := pairG_len false old ds ho hdl p (m - splitK n) (n - splitK n) false (by omega)
          have := pair_right old ho A B m n p c whole ds w hn hm1 (by omega) hk hp9 hD hp hpc hB hT _ _ hl.1 hl.2 (pairG false old ds p (m - splitK n) (n - splitK n) false).2.2
            (fun W hW => by
              have h9 := ih (m - splitK n) (n - splitK n) false W (by omega) (by omega) (by omega) (by omega) (by omega) (by omega) (hD.below hW hB) (Nat.le_trans hB hW.size) (hT.keep hW)
              rw [show ((m - splitK n : Nat) : Int) = (m : Int) - (splitK n : Int) by omega, show ((n - splitK n : Nat) : Int) = (n : Int) - (splitK n : Int) by omega] at h9
              exact h9)
          unfold pairG
          rw [if_neg hw, if_neg hmn, if_neg hk]
          exact this

set_option maxHeartbeats 800000 in
set_option maxRecDepth 100000 in
theorem vp_out (old root : List UInt8) (m n : Int) (A : Option Addr) (p c : Nat) (w : World) (h : m < 1 ∨ n < m) :
    Calls Tryd.prog 24 #[dv old, dv root, .int .i64 m, .int .i64 n, .slice A p c] w fun e w' => e = .returned (.bool false) ∧ Below w.heap.size w w' := by
  have hz1 : (w.alloc (.cells (old.map bv).toArray 30)).heap.size = w.heap.size + 1 := by simp
  have HB0 := hideIt ((below_new w (.cells (old.map bv).toArray 30)).alloc (by rw [hz1]; omega) (.cells (root.map bv).toArray 30))
  clear hz1
  by_cases h0 : m < 1
  · clear h
    go_enter Tryd.func24, Tryd.ntmps24
    go_wp2
    go_ret
    exact ⟨rfl, HB0.out⟩
  · have h1 : n < m := by omega
    have h2 : decide (m < 1) = false := by simpa using h0
    have h3 : decide (n < m) = true := by simpa using h1
    clear h
    go_enter Tryd.func24, Tryd.ntmps24
    go_wp2
    go_ret
    exact ⟨rfl, HB0.out⟩

set_option maxHeartbeats 1600000 in
set_option maxRecDepth 100000 in
theorem vp_of (old root : List UInt8) (ho : old.length = 16) (hr : root.length = 16) (m n : Int) (A : Option Addr) (p c : Nat) (w : World) (hm1 : 1 ≤ m) (hm : m ≤ n) (x y : List UInt8) (hx : x.length = 16) (hy : y.length = 16) (ok : Bool)
    (hP : ∀ W, Below w.heap.size w W → Calls Tryd.prog 49 #[dv old, .int .i64 m, .int .i64 n, .bool true, .slice A p c] W fun e w' => e = .returned (.tuple #[dv x, dv y, .bool ok]) ∧ Below W.heap.size W w') :
    Calls Tryd.prog 24 #[dv old, dv root, .int .i64 m, .int .i64 n, .slice A p c] w fun e w' => e = .returned (.bool (ok && decide (x = old) && decide (y = root))) ∧ Below w.heap.size w w' := by
  have h2 : decide (m < 1) = false := by simp; omega
  have h3 : decide (n < m) = false := by simp; omega
  have HO := hideIt ho
  have HR := hideIt hr
  have HX := hideIt hx
  have HY := hideIt hy
  have HP := hideIt hP
  have hz1 : (w.alloc (.cells (old.map bv).toArray 30)).heap.size = w.heap.size + 1 := by simp
  have HB0 := hideIt ((below_new w (.cells (old.map bv).toArray 30)).alloc (by rw [hz1]; omega) (.cells (root.map bv).toArray 30))
  have HK0 := hideIt ((Blk.new w 30 (old.map bv)).alloc (.cells (root.map bv).toArray 30))
  have HK1 : Hid (Blk ((w.alloc (.cells (old.map bv).toArray 30)).alloc (.cells (root.map bv).toArray 30)) (w.heap.size + 1) 30 (root.map bv)) := hz1 ▸ Blk.new (w.alloc (.cells (old.map bv).toArray 30)) 30 (root.map bv)
  have he1 := equal_digest x old hx ho
  have he2 := equal_digest y root hy hr
  clear hr ho hx hy hP hz1
  obtain ⟨q1, hq1⟩ : ∃ q, q = decide (x = old) := ⟨_, rfl⟩
  obtain ⟨q2, hq2⟩ : ∃ q, q = decide (y = root) := ⟨_, rfl⟩
  rw [← hq1] at he1 ⊢
  rw [← hq2] at he2 ⊢
  clear hq1 hq2
  cases ok with
  | false =>
    go_enter Tryd.func24, Tryd.ntmps24
    go_wp2_with (first
      | ((with_reducible refine at_load ?_); refine wpList_get rfl 30 (.tmp 5) rfl w.heap.size (old.map bv) 30 (.array 16 5) rfl HK0.out (by kernel_rfl) rfl (isize16 _ HO.out) ?_)
      | (go_at_call 49; refine (HP.out _ HB0.out).mono ?_; rintro e w1 ⟨rfl, hb⟩; have HB1 := hideIt (HB0.out.trans (hb.mono HB0.out.size)); have HK01 := hideIt (HK0.out.kept hb HK0.out.lt); have HK11 := hideIt (HK1.out.kept hb HK1.out.lt); have hs1 := HB1.out.size; have HN1 : Hid (Blk (w1.alloc (.cells (List.replicate 16 (Value.int .u8 0)).toArray 30)) w1.heap.size 30 (List.replicate 16 (Value.int .u8 0))) := Blk.new w1 _ _; have HN2 : Hid (Blk ((w1.alloc (.cells (List.replicate 16 (Value.int .u8 0)).toArray 30)).alloc (.cells (List.replicate 16 (Value.int .u8 0)).toArray 30)) (w1.heap.size + 1) 30 (List.replicate 16 (Value.int .u8 0))) := Blk.new2 w1 _ _ _; clear hb)
      | ((with_reducible refine at_store ?_); refine wpList_put rfl 30 (.tmp 11) (.tmp 27) rfl w1.heap.size (x.map bv) _ _ rfl rfl (HN1.out.alloc _) (by rw [List.length_map, HX.out]; kernel_rfl) (by rw [List.length_map, HX.out]; rfl) (bv_one _) ?_; intro w2 ht hb; have HX2 := hideIt hb; have HN22 := hideIt (ht.blk HN2.out (by omega)); have HK02 := hideIt (ht.blk ((HK01.out.alloc _).alloc _) (by have := HK01.out.lt; omega)); have HK12 := hideIt (ht.blk ((HK11.out.alloc _).alloc _) (by have := HK11.out.lt; omega)); have HB2 := hideIt (ht.below ((HB1.out.alloc HB1.out.size _).alloc (by simp; omega) _) hs1); clear ht hb)
      | ((with_reducible refine at_store ?_); refine wpList_put rfl 30 (.tmp 12) (.tmp 28) rfl (w1.heap.size + 1) (y.map bv) _ _ rfl rfl HN22.out (by rw [List.length_map, HY.out]; kernel_rfl) (by rw [List.length_map, HY.out]; rfl) (bv_one _) ?_; intro w3 ht hb; have HY3 := hideIt hb; have HX3 := hideIt (ht.blk HX2.out (by omega)); have HK03 := hideIt (ht.blk HK02.out (by have := HK01.out.lt; omega)); have HK13 := hideIt (ht.blk HK12.out (by have := HK11.out.lt; omega)); have HB3 := hideIt (ht.below HB2.out (by omega)); clear ht hb))
    go_ret
    exact ⟨rfl, HB3.out⟩
  | true =>
    cases q1 with
    | false =>
      go_enter Tryd.func24, Tryd.ntmps24
      go_wp2_with (first
        | ((with_reducible refine at_load ?_); refine wpList_get rfl 30 (.tmp 5) rfl w.heap.size (old.map bv) 30 (.array 16 5) rfl HK0.out (by kernel_rfl) rfl (isize16 _ HO.out) ?_)
        | (go_at_call 49; refine (HP.out _ HB0.out).mono ?_; rintro e w1 ⟨rfl, hb⟩; have HB1 := hideIt (HB0.out.trans (hb.mono HB0.out.size)); have HK01 := hideIt (HK0.out.kept hb HK0.out.lt); have HK11 := hideIt (HK1.out.kept hb HK1.out.lt); have hs1 := HB1.out.size; have HN1 : Hid (Blk (w1.alloc (.cells (List.replicate 16 (Value.int .u8 0)).toArray 30)) w1.heap.size 30 (List.replicate 16 (Value.int .u8 0))) := Blk.new w1 _ _; have HN2 : Hid (Blk ((w1.alloc (.cells (List.replicate 16 (Value.int .u8 0)).toArray 30)).alloc (.cells (List.replicate 16 (Value.int .u8 0)).toArray 30)) (w1.heap.size + 1) 30 (List.replicate 16 (Value.int .u8 0))) := Blk.new2 w1 _ _ _; clear hb)
        | ((with_reducible refine at_store ?_); refine wpList_put rfl 30 (.tmp 11) (.tmp 27) rfl w1.heap.size (x.map bv) _ _ rfl rfl (HN1.out.alloc _) (by rw [List.length_map, HX.out]; kernel_rfl) (by rw [List.length_map, HX.out]; rfl) (bv_one _) ?_; intro w2 ht hb; have HX2 := hideIt hb; have HN22 := hideIt (ht.blk HN2.out (by omega)); have HK02 := hideIt (ht.blk ((HK01.out.alloc _).alloc _) (by have := HK01.out.lt; omega)); have HK12 := hideIt (ht.blk ((HK11.out.alloc _).alloc _) (by have := HK11.out.lt; omega)); have HB2 := hideIt (ht.below ((HB1.out.alloc HB1.out.size _).alloc (by simp; omega) _) hs1); clear ht hb)
        | ((with_reducible refine at_store ?_); refine wpList_put rfl 30 (.tmp 12) (.tmp 28) rfl (w1.heap.size + 1) (y.map bv) _ _ rfl rfl HN22.out (by rw [List.length_map, HY.out]; kernel_rfl) (by rw [List.length_map, HY.out]; rfl) (bv_one _) ?_; intro w3 ht hb; have HY3 := hideIt hb; have HX3 := hideIt (ht.blk HX2.out (by omega)); have HK03 := hideIt (ht.blk HK02.out (by have := HK01.out.lt; omega)); have HK13 := hideIt (ht.blk HK12.out (by have := HK11.out.lt; omega)); have HB3 := hideIt (ht.below HB2.out (by omega)); clear ht hb)
        | ((with_reducible refine at_load ?_); refine wpList_get_g (by kernel_rfl) 30 (.tmp 11) rfl w1.heap.size (x.map bv) 30 (.array 16 5) rfl HX3.out (by kernel_rfl) rfl (isize16 _ HX.out) ?_)
        | ((with_reducible refine at_load ?_); refine wpList_get_g (by kernel_rfl) 30 (.tmp 5) rfl w.heap.size (old.map bv) 30 (.array 16 5) rfl HK03.out (by kernel_rfl) rfl (isize16 _ HO.out) ?_))
      go_ret
      exact ⟨rfl, HB3.out⟩
    | true =>
      go_enter Tryd.func24, Tryd.ntmps24
      go_wp2_with (first
        | ((with_reducible refine at_load ?_); refine wpList_get rfl 30 (.tmp 5) rfl w.heap.size (old.map bv) 30 (.array 16 5) rfl HK0.out (by kernel_rfl) rfl (isize16 _ HO.out) ?_)
        | (go_at_call 49; refine (HP.out _ HB0.out).mono ?_; rintro e w1 ⟨rfl, hb⟩; have HB1 := hideIt (HB0.out.trans (hb.mono HB0.out.size)); have HK01 := hideIt (HK0.out.kept hb HK0.out.lt); have HK11 := hideIt (HK1.out.kept hb HK1.out.lt); have hs1 := HB1.out.size; have HN1 : Hid (Blk (w1.alloc (.cells (List.replicate 16 (Value.int .u8 0)).toArray 30)) w1.heap.size 30 (List.replicate 16 (Value.int .u8 0))) := Blk.new w1 _ _; have HN2 : Hid (Blk ((w1.alloc (.cells (List.replicate 16 (Value.int .u8 0)).toArray 30)).alloc (.cells (List.replicate 16 (Value.int .u8 0)).toArray 30)) (w1.heap.size + 1) 30 (List.replicate 16 (Value.int .u8 0))) := Blk.new2 w1 _ _ _; clear hb)
        | ((with_reducible refine at_store ?_); refine wpList_put rfl 30 (.tmp 11) (.tmp 27) rfl w1.heap.size (x.map bv) _ _ rfl rfl (HN1.out.alloc _) (by rw [List.length_map, HX.out]; kernel_rfl) (by rw [List.length_map, HX.out]; rfl) (bv_one _) ?_; intro w2 ht hb; have HX2 := hideIt hb; have HN22 := hideIt (ht.blk HN2.out (by omega)); have HK02 := hideIt (ht.blk ((HK01.out.alloc _).alloc _) (by have := HK01.out.lt; omega)); have HK12 := hideIt (ht.blk ((HK11.out.alloc _).alloc _) (by have := HK11.out.lt; omega)); have HB2 := hideIt (ht.below ((HB1.out.alloc HB1.out.size _).alloc (by simp; omega) _) hs1); clear ht hb)
        | ((with_reducible refine at_store ?_); refine wpList_put rfl 30 (.tmp 12) (.tmp 28) rfl (w1.heap.size + 1) (y.map bv) _ _ rfl rfl HN22.out (by rw [List.length_map, HY.out]; kernel_rfl) (by rw [List.length_map, HY.out]; rfl) (bv_one _) ?_; intro w3 ht hb; have HY3 := hideIt hb; have HX3 := hideIt (ht.blk HX2.out (by omega)); have HK03 := hideIt (ht.blk HK02.out (by have := HK01.out.lt; omega)); have HK13 := hideIt (ht.blk HK12.out (by have := HK11.out.lt; omega)); have HB3 := hideIt (ht.below HB2.out (by omega)); clear ht hb)
        | ((with_reducible refine at_load ?_); refine wpList_get_g (by kernel_rfl) 30 (.tmp 11) rfl w1.heap.size (x.map bv) 30 (.array 16 5) rfl HX3.out (by kernel_rfl) rfl (isize16 _ HX.out) ?_)
        | ((with_reducible refine at_load ?_); refine wpList_get_g (by kernel_rfl) 30 (.tmp 5) rfl w.heap.size (old.map bv) 30 (.array 16 5) rfl HK03.out (by kernel_rfl) rfl (isize16 _ HO.out) ?_)
        | ((with_reducible refine at_load ?_); refine wpList_get_g (by kernel_rfl) 30 (.tmp 12) rfl (w1.heap.size + 1) (y.map bv) 30 (.array 16 5) rfl HY3.out (by kernel_rfl) rfl (isize16 _ HY.out) ?_)
        | ((with_reducible refine at_load ?_); refine wpList_get_g (by kernel_rfl) 30 (.tmp 6) rfl (w.heap.size + 1) (root.map bv) 30 (.array 16 5) rfl HK13.out (by kernel_rfl) rfl (isize16 _ HR.out) ?_))
      go_ret
      exact ⟨by simp, HB3.out⟩

/-- What VerifyPrefix answers. -/
def vpB (rf : Bool) (old root : List UInt8) (m n : Int) (ds : List (List UInt8)) : Bool :=
  decide (1 ≤ m ∧ m ≤ n) && ((pairG rf old ds ds.length m.toNat n.toNat true).2.2 && decide ((pairG rf old ds ds.length m.toNat n.toNat true).1 = old) && decide ((pairG rf old ds ds.length m.toNat n.toNat true).2.1 = root))
theorem vp_any (old root : List UInt8) (ho : old.length = 16) (hr : root.length = 16) (m n : Int) (hn : n ≤ 9223372036854775807) (A : Option Addr) (c : Nat) (ds : List (List UInt8)) (w : World) (hD : Ds w w.heap.size A ds.length ds) (hpc : ds.length ≤ c) (hp9 : ds.length ≤ 1000000000) (hT : Tab w 1) :
    Calls Tryd.prog 24 #[dv old, dv root, .int .i64 m, .int .i64 n, .slice A ds.length c] w fun e w' => e = .returned (.bool (vpB false old root m n ds)) ∧ Below w.heap.size w w' := by
  unfold vpB
  by_cases h : 1 ≤ m ∧ m ≤ n
  · rw [decide_eq_true h, Bool.true_and]
    have hl := pairG_len false old ds ho hD.2.1 ds.length m.toNat n.toNat true (Nat.le_refl _)
    refine vp_of old root ho hr m n A ds.length c w h.1 h.2 _ _ hl.1 hl.2 _ (fun W hW => ?_)
    have h9 := pair_any old ho A w.heap.size c ds ds.length m.toNat n.toNat true W (by omega) (by omega) (by omega) (Nat.le_refl _) hpc hp9 (hD.below hW (Nat.le_refl _)) hW.size (hT.keep hW)
    rw [show ((m.toNat : Nat) : Int) = m by omega, show ((n.toNat : Nat) : Int) = n by omega] at h9
    exact h9
  · rw [decide_eq_false h, Bool.false_and]
    exact vp_out old root m n A _ c w (by omega)

/-- The two ways differ where the proof is too long alone. -/
theorem pairG_same (old : List UInt8) (ds : List (List UInt8)) : ∀ (p m n : Nat) (whole : Bool), (pairG true old ds p m n whole).2.2 = (pairG false old ds p m n whole).2.2 ∧
    ((pairG false old ds p m n whole).2.2 = true → pairG true old ds p m n whole = pairG false old ds p m n whole)
  | 0, m, n, whole => by unfold pairG; exact ⟨rfl, fun _ => rfl⟩
  | p + 1, m, n, whole => by
    unfold pairG
    split
    · exact ⟨rfl, fun _ => rfl⟩
    · split
      · refine ⟨rfl, fun h => ?_⟩
        have : p = 0 := by simpa using h
        subst this
        rfl
      · split
        · have ih := pairG_same old ds p m (splitK n) whole
          refine ⟨ih.1, fun h => ?_⟩
          rw [ih.2 h]
        · have ih := pairG_same old ds p (m - splitK n) (n - splitK n) false
          refine ⟨ih.1, fun h => ?_⟩
          rw [ih.2 h]
theorem vpB_same (old root : List UInt8) (m n : Int) (ds : List (List UInt8)) : vpB true old root m n ds = vpB false old root m n ds := by
  unfold vpB
  have h := pairG_same old ds ds.length m.toNat n.toNat true
  cases hq : (pairG false old ds ds.length m.toNat n.toNat true).2.2 with
  | false => rw [h.1, hq]; simp
  | true => simp only [h.2 hq, hq]
theorem pairG_app (rf : Bool) (old : List UInt8) (ds ds' : List (List UInt8)) : ∀ (p m n : Nat) (whole : Bool), p ≤ ds.length → pairG rf old (ds ++ ds') p m n whole = pairG rf old ds p m n whole
  | 0, m, n, whole, _ => by unfold pairG; rfl
  | p + 1, m, n, whole, hp => by
    have g : ∀ j, j < ds.length → (ds ++ ds').getD j [] = ds.getD j [] := fun j hj => by
      simp only [List.getD_eq_getElem?_getD]; rw [List.getElem?_append_left hj]
    unfold pairG
    rw [pairG_app rf old ds ds' p _ _ _ (by omega), pairG_app rf old ds ds' p _ _ _ (by omega), g p (by omega), g (if rf then p else 0) (by cases rf <;> simp <;> omega)]
/-- A list's own prefix proof is accepted. -/
theorem pair_accept (L : List (List UInt8)) : ∀ (e : Nat) (l : List (List UInt8)) (m : Nat) (whole : Bool) (old : List UInt8), l.length ≤ 2 ^ e → 1 ≤ m → m ≤ l.length → (whole = true → old = rootD (l.take m)) →
    pairG false old (subD l m whole) (subD l m whole).length m l.length whole = (rootD (l.take m), rootD l, true) := by
  have all : ∀ (l : List (List UInt8)) (whole : Bool) (old : List UInt8), (whole = true → old = rootD (l.take l.length)) →
      pairG false old (subD l l.length whole) (subD l l.length whole).length l.length l.length whole = (rootD (l.take l.length), rootD l, true) := by
    intro l whole old h
    rw [subD_all]
    rw [List.take_length] at h ⊢
    cases whole with
    | true => simp only [if_true, List.length_nil]; unfold pairG; rw [if_pos ⟨rfl, rfl⟩, h rfl]
    | false =>
      rw [if_neg (by decide)]
      simp only [List.length_cons, List.length_nil]
      unfold pairG
      rw [if_neg (by simp), if_pos rfl]
      rfl
  intro e
  induction e with
  | zero =>
    intro l m whole old h h1 h2 h3
    obtain rfl : m = l.length := by simp at h; omega
    exact all l whole old h3
  | succ e ih =>
    intro l m whole old h h1 h2 h3
    by_cases hm : m = l.length
    · subst hm; exact all l whole old h3
    · have h5 : 2 ≤ l.length := by omega
      have hs := splitK_spec _ h5
      have hl := splitK_le _ e h5 h
      have hroot := rootD_two l h5
      by_cases hk : m ≤ splitK l.length
      · have ih1 := ih (l.take (splitK l.length)) m whole old (by rw [List.length_take]; omega) h1 (by rw [List.length_take]; omega) (fun hw => by rw [h3 hw, List.take_take, Nat.min_eq_left hk])
        rw [subD_left l m whole h5 (by omega) hk, List.length_append, List.length_cons, List.length_nil, Nat.zero_add]
        rw [List.length_take, Nat.min_eq_left (by omega)] at ih1
        unfold pairG
        rw [if_neg (by omega), if_neg hm, if_pos hk, pairG_app false old _ _ _ _ _ _ (Nat.le_refl _), ih1]
        simp only [List.getD_eq_getElem?_getD]
        rw [List.getElem?_append_right (Nat.le_refl _), Nat.sub_self, List.take_take, Nat.min_eq_left hk, hroot]
        rfl
      · have ih1 := ih (l.drop (splitK l.length)) (m - splitK l.length) false old (by rw [List.length_drop]; omega) (by omega) (by rw [List.length_drop]; omega) (fun hw => by cases hw)
        rw [subD_right l m whole h5 (by omega) hk, List.length_append, List.length_cons, List.length_nil, Nat.zero_add]
        rw [List.length_drop] at ih1
        unfold pairG
        rw [if_neg (by omega), if_neg hm, if_neg hk, pairG_app false old _ _ _ _ _ _ (Nat.le_refl _), ih1]
        simp only [List.getD_eq_getElem?_getD]
        rw [List.getElem?_append_right (Nat.le_refl _), Nat.sub_self]
        have hroot2 := rootD_two (l.take m) (by rw [List.length_take]; omega)
        have hsm : splitK (l.take m).length = splitK l.length := by
          rw [List.length_take, Nat.min_eq_left h2]
          unfold splitK at hs hk ⊢
          exact (splitK_uniq m _ (by omega) (by omega)).symm
        rw [hsm, List.take_take, Nat.min_eq_left (by omega), List.drop_take] at hroot2
        rw [hroot2, hroot]
        rfl
theorem vpB_accept (l : List (List UInt8)) (m : Nat) (h1 : 1 ≤ m) (hm : m ≤ l.length) (hl : l.length ≤ 1000000000) : vpB false (rootD (l.take m)) (rootD l) m l.length (subD l m true) = true := by
  unfold vpB
  rw [decide_eq_true (by omega), Bool.true_and]
  simp only [Int.toNat_natCast]
  have hp := pair_accept l 30 l m true (rootD (l.take m)) (by omega) h1 hm (fun _ => rfl)
  simp [hp]

end Go.Proofs.YtefalanfkihcdaaDoor
