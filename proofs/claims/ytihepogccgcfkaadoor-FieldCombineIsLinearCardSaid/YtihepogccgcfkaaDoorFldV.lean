/-
  The reference's functions on units, walked: Xor, Scale, Combine.
-/
import Derived.Test.YtihepogccgcfkaaDoorFldZ
namespace Go.Proofs.YtihepogccgcfkaaDoor
open Go.RowKit Go.Shelf
set_option linter.unusedVariables false

theorem xr_take_next (a b : List UInt8) (h : a.length = b.length) (k : Nat) (hk : k < a.length) : (xr a b).take (k + 1) = (xr a b).take k ++ [a[k] ^^^ b[k]'(by omega)] := by
  rw [take_snoc (xr a b) k (by rw [xr_len a b h]; exact hk)]
  congr 2
  unfold xr
  rw [List.getElem_zipWith]
theorem conv_own {w : World} {base n c : Nat} {A : Option Addr} {l : List UInt8} (hl : l.length = n) (h : w.ownsRow base 5 1 (.slice A n c) n (l.map bv)) : (convert 51 9 (.slice A n c)).run Tryd.prog w = .ok (.string (str l)) w := by
  subst hl
  exact conv_bytes (P := Tryd.prog) (c := c) Tryd.underlying51 Tryd.underlying5 Tryd.underlying9 (Sl.of_own h)

set_option maxHeartbeats 1000000 in
set_option maxRecDepth 100000 in
theorem rxor_any (a b : List UInt8) (hl : a.length ≤ 100000) (w : World) :
    Calls Tryd.prog 27 #[.string (str a), .string (str b)] w fun e w' => e = .returned (.tuple #[.string (str (xrS a b)), .int .i64 (xrE a b)]) ∧ Below w.heap.size w w' := by
  have hsa := str_size a
  have hsb := str_size b
  by_cases h : a.length = b.length
  · rw [xrS, xrE, if_pos h, if_pos h]
    obtain ⟨i0, hi, hz0, hz1, hzb⟩ := info_parts (show (Tryd.prog.info? 5).map (fun i => (i.zero, i.size, i.bytes)) = some (some (Value.int .u8 0), 1, 1) by kernel_rfl)
    have hq := neqF 3 b.length
    have HIA := hideIt (fun i hi W => str_at (P := Tryd.prog) (T := 9) Tryd.underlying9 a i hi W)
    have HIB := hideIt (fun i hi W => str_at (P := Tryd.prog) (T := 9) Tryd.underlying9 b i hi W)
    have HLE := hideIt (xr_len a b h)
    have HH := hideIt h
    have HL := hideIt hl
    rw [h] at hsa
    obtain ⟨n, hn⟩ : ∃ n, n = b.length := ⟨_, rfl⟩
    rw [← hn] at hsa hsb hq
    have HN := hideIt hn
    clear h hl hn
    generalize str a = s at *
    generalize str b = t at *
    obtain ⟨z, hz⟩ : ∃ z, z = str (xr a b) := ⟨_, rfl⟩
    rw [← hz]
    have HZ := hideIt hz
    clear hz
    go_enter Tryd.func27, Tryd.ntmps27
    go_wp2_with fail
    go_loopg [6, 7] n (fun g s6 s7 wr => ∃ (k : Nat) (A : Option Addr) (c : Nat), g + k = n ∧ s6 = .slice A k c ∧ s7 = .int .i64 (k : Int) ∧
      Aside (wr.ownsRow w.heap.size 5 1 (.slice A k c) k (((xr a b).take k).map bv) ∧ Below w.heap.size w wr))
    case atStart => exact ⟨0, none, 0, rfl, rfl, rfl, World.ownsRow_nil _ _ _ _, Below.refl _ _⟩
    case round =>
      obtain ⟨k, A, c, hg, rfl, rfl, HA⟩ := hrel
      by_cases hk : k < n
      · have hka : k < a.length := by rw [HH.out, ← HN.out]; exact hk
        have hkb : k < b.length := by rw [← HN.out]; exact hk
        have HNX := hideIt (xr_take_next a b HH.out k hka)
        have hixa := fun W => HIA.out k hka W
        have hixb := fun W => HIB.out k hkb W
        have hxor := xor_c 5 a[k] b[k]
        have hinc := inc_c 3 k (by have := HL.out; omega)
        have hki : (k : Int) < (n : Int) := by omega
        have hk1 : k < 100000 := by have := HL.out; omega
        generalize a[k] = u at *
        generalize b[k] = v at *
        clear hka hkb
        generalize u ^^^ v = y at *
        go_wp2_with fail
        refine loads_begin_n 11 [] rfl (by kernel_rfl) ?_
        refine wpAnyL_move (oi := ⟨some 19, _, _, _, _, _⟩) 0 ?_ rfl (by kernel_rfl) (by kernel_rfl) (by kernel_rfl) (by kernel_rfl) (fun _ _ _ h => h) (by kernel_rfl) ?_ (Hooks.nil _ _) ?_
        rotate_left
        · intro W'; go_simp; first | done | with_reducible rfl
        try simp only [Act.put]
        try simp only [List.setIfInBounds_toArray]
        try simp only [List.set_cons_succ]
        try simp only [List.set_cons_zero]
        refine wpAnyL_move (oi := ⟨some 20, _, _, _, _, _⟩) 1 ?_ rfl (by kernel_rfl) (by kernel_rfl) (by kernel_rfl) (by kernel_rfl) (fun _ _ _ h => h) (by kernel_rfl) ?_ (Hooks.nil _ _) ?_
        rotate_left
        · intro W'; go_simp; first | done | with_reducible rfl
        try simp only [Act.put]
        try simp only [List.setIfInBounds_toArray]
        try simp only [List.set_cons_succ]
        try simp only [List.set_cons_zero]
        refine wpAnyL_move (oi := ⟨some 21, _, _, _, _, _⟩) 2 ?_ rfl (by kernel_rfl) (by kernel_rfl) (by kernel_rfl) (by kernel_rfl) (fun _ _ _ h => h) (by kernel_rfl) ?_ (Hooks.nil _ _) ?_
        rotate_left
        · intro W'; go_simp; first | done | with_reducible rfl
        try simp only [Act.put]
        try simp only [List.setIfInBounds_toArray]
        try simp only [List.set_cons_succ]
        try simp only [List.set_cons_zero]
        refine wpAnyL_move (oi := ⟨some 22, _, _, _, _, _⟩) 3 ?_ rfl (by kernel_rfl) (by kernel_rfl) (by kernel_rfl) (by kernel_rfl) (fun _ _ _ h => h) (by kernel_rfl) ?_ (Hooks.nil _ _) ?_
        rotate_left
        · intro W'; go_simp; first | done | with_reducible rfl
        try simp only [Act.put]
        try simp only [List.setIfInBounds_toArray]
        try simp only [List.set_cons_succ]
        try simp only [List.set_cons_zero]
        refine wpAnyL_move (oi := ⟨some 23, _, _, _, _, _⟩) 4 ?_ rfl (by kernel_rfl) (by kernel_rfl) (by kernel_rfl) (by kernel_rfl) (fun _ _ _ h => h) (by kernel_rfl) ?_ (Hooks.nil _ _) ?_
        rotate_left
        · intro W'; go_simp; first | done | with_reducible rfl
        try simp only [Act.put]
        try simp only [List.setIfInBounds_toArray]
        try simp only [List.set_cons_succ]
        try simp only [List.set_cons_zero]
        refine wpAnyL_move (oi := ⟨some 24, _, _, _, _, _⟩) 5 ?_ rfl (by kernel_rfl) (by kernel_rfl) (by kernel_rfl) (by kernel_rfl) (fun _ _ _ h => h) (by kernel_rfl) ?_ (Hooks.nil _ _) ?_
        rotate_left
        · intro W'; go_simp; first | done | with_reducible rfl
        try simp only [Act.put]
        try simp only [List.setIfInBounds_toArray]
        try simp only [List.set_cons_succ]
        try simp only [List.set_cons_zero]
        refine wpAnyL_move (oi := ⟨some 25, _, _, _, _, _⟩) 6 ?_ rfl (by kernel_rfl) (by kernel_rfl) (by kernel_rfl) (by kernel_rfl) (fun _ _ _ h => h) (by kernel_rfl) ?_ (Hooks.nil _ _) ?_
        rotate_left
        · intro W'; go_simp; first | done | with_reducible rfl
        try simp only [Act.put]
        try simp only [List.setIfInBounds_toArray]
        try simp only [List.set_cons_succ]
        try simp only [List.set_cons_zero]
        refine wpAnyL_move (oi := ⟨some 26, _, _, _, _, _⟩) 7 ?_ rfl (by kernel_rfl) (by kernel_rfl) (by kernel_rfl) (by kernel_rfl) (fun _ _ _ h => h) (by kernel_rfl) ?_ (Hooks.nil _ _) ?_
        rotate_left
        · intro W'; go_simp; first | done | with_reducible rfl
        try simp only [Act.put]
        try simp only [List.setIfInBounds_toArray]
        try simp only [List.set_cons_succ]
        try simp only [List.set_cons_zero]
        try simp only [Act.put]
        try simp only [List.setIfInBounds_toArray]
        try simp only [List.set_cons_succ]
        try simp only [List.set_cons_zero]
        obtain ⟨w2, hw2⟩ : ∃ W, W = wr.drew := ⟨_, rfl⟩
        have HO := hideIt (show w2.ownsRow w.heap.size 5 1 (.slice A k c) k (((xr a b).take k).map bv) by rw [hw2]; exact HA.out.1)
        have HB := hideIt (show Below w.heap.size w w2 by rw [hw2]; exact HA.out.2.drew)
        rw [← hw2]
        clear hw2
        refine wpAnyL_one (o := ⟨some 27, _, _, _, _, _⟩) 8 (by kernel_rfl) rfl (fun K hK => ?_)
        go_wp2_with fail
        refine hK _ _ (Hooks.nil _ _) ?_
        clear hK K
        refine wpAnyL_one (o := ⟨some 28, _, _, _, _, _⟩) 9 (by kernel_rfl) rfl (fun K hK => ?_)
        go_wp2_with ((with_reducible refine at_append ?_); refine wpList_app rfl (.tmp 19) (.tmp 27) 51 rfl w.heap.size 5 i0 (.int .u8 0) 1 1 Tryd.underlying51 hi hz0 hz1 hzb rfl (by decide) _ k (((xr a b).take k).map bv) rfl (own_kept HO.out (below_new w2 _)) _ _ 1 _ [bv y] rfl (sl_one w2 _ _) (ones_one rfl) (by unfold maxLen; omega) (by omega) (Nat.le_trans HB.out.size (below_new w2 _).size) ?_; intro v3 w3 ho3 hb3; have HO3 := own_is (n' := k + 1) (xs' := ((xr a b).take (k + 1)).map bv) ho3 rfl (by rw [HNX.out, List.map_append]; rfl); clear ho3; obtain ⟨A3, c3, rfl, q3, q4⟩ := own_form HO3.out; have HB3 := hideIt ((HB.out.trans ((below_new w2 _).mono HB.out.size)).trans hb3); clear hb3)
        refine hK _ _ (Hooks.nil _ _) ?_
        clear hK K
        refine loads_tail 10 (by kernel_rfl) (by kernel_rfl) (by kernel_rfl) (by kernel_rfl) ?_
        simp only [List.drop_succ_cons, List.drop_zero]
        go_wp2_with fail
        go_roundg (gk - 1)
        case measure => omega
        case rel => exact ⟨k + 1, A3, c3, by omega, rfl, by go_num, HO3.out, HB3.out⟩
      · have hki : ¬ (k : Int) < (n : Int) := by omega
        obtain rfl : k = n := by omega
        have hxl : (xr a b).length = k := by rw [HLE.out, HH.out, ← HN.out]
        have hcs := conv_own hxl (by have h := HA.out.1; rw [List.take_of_length_le (Nat.le_of_eq hxl)] at h; exact h)
        clear hxl
        rw [← HZ.out] at hcs
        clear hi hz0 hz1 hzb
        go_wp2_with fail
        go_ret2
        exact ⟨rfl, HA.out.2⟩
  · rw [xrS, xrE, if_neg h, if_neg h]
    have hq := neqT 3 h
    generalize str a = s at *
    generalize str b = t at *
    generalize a.length = n at *
    generalize b.length = k at *
    clear hl h
    go_enter Tryd.func27, Tryd.ntmps27
    go_wp2_with fail
    go_ret2
    exact ⟨rfl, Below.refl _ _⟩

theorem sl_two (w : World) (t : TypeId) (u v : Value) : Sl (w.alloc (.cells #[u, v] t)) (w.heap.size + 1) (some ⟨w.heap.size, 0, none⟩) 1 2 [u, v] :=
  ⟨rfl, fun _ => ⟨w.heap.size, 0, rfl, Nat.lt_succ_self _, fun j x hj => by rw [show (w.alloc (.cells #[u, v] t)).cell? ⟨w.heap.size, 0 + j, none⟩ = [u, v][0 + j]? from (Blk.new w t [u, v]).cell _, Nat.zero_add]; exact hj⟩⟩
theorem ones_two {u v : Value} (h : u.oneCell' = true) (h2 : v.oneCell' = true) : ∀ x ∈ [u, v], x.oneCell' = true := fun x hx => by
  rcases List.mem_cons.1 hx with rfl | hx
  · exact h
  · rw [List.mem_singleton] at hx; subst hx; exact h2
theorem ofNat_mod (p : Nat) : UInt8.ofNat (p % 256) = UInt8.ofNat p := by
  apply UInt8.toNat_inj.1
  rw [UInt8.toNat_ofNat', UInt8.toNat_ofNat']
  omega
theorem sc8_next (c : Nat) (l : List UInt8) (k : Nat) (hk : k < l.length) : (sc 8 c l).take (k + 1) = (sc 8 c l).take k ++ [UInt8.ofNat (mul 8 l[k].toNat c)] := by
  rw [sc8_eq, take_snoc _ k (by rw [List.length_map]; exact hk), List.getElem_map]
theorem sc16_next (c : Nat) (l : List UInt8) (h : whl 16 l) : ∀ j u v, l[2 * j]? = some u → l[2 * j + 1]? = some v → (sc 16 c l).take (2 * j + 2) = (sc 16 c l).take (2 * j) ++ [UInt8.ofNat (mul 16 (256 * u.toNat + v.toNat) c / 256), UInt8.ofNat (mul 16 (256 * u.toNat + v.toNat) c)] := by
  revert h
  refine pairs (P := fun l => ∀ j u v, l[2 * j]? = some u → l[2 * j + 1]? = some v → (sc 16 c l).take (2 * j + 2) = (sc 16 c l).take (2 * j) ++ [UInt8.ofNat (mul 16 (256 * u.toNat + v.toNat) c / 256), UInt8.ofNat (mul 16 (256 * u.toNat + v.toNat) c)]) ?_ ?_ l
  · intro j x y hx _
    simp at hx
  · intro u v l _ ih j x y hx hy
    cases j with
    | zero =>
      simp only [Nat.mul_zero, Nat.zero_add, List.getElem?_cons_zero, List.getElem?_cons_succ, Option.some.injEq] at hx hy
      rw [sc16_cons, hx, hy]
      rfl
    | succ j =>
      rw [show 2 * (j + 1) = 2 * j + 1 + 1 by omega, List.getElem?_cons_succ, List.getElem?_cons_succ] at hx
      rw [show 2 * (j + 1) + 1 = 2 * j + 1 + 1 + 1 by omega, List.getElem?_cons_succ, List.getElem?_cons_succ] at hy
      have h2 := ih j x y hx hy
      rw [sc16_cons, show 2 * (j + 1) + 2 = 2 * j + 2 + 1 + 1 by omega, show 2 * (j + 1) = 2 * j + 1 + 1 by omega, List.take_succ_cons, List.take_succ_cons, List.take_succ_cons, List.take_succ_cons, h2]
      rfl
theorem rem2_one (t : TypeId) (n : Nat) (h : n % 2 = 1) : binOp .rem t (.int .i64 (n : Int)) (.int .i64 2) = pure (.int .i64 1) := by
  have := nrem t n 2 (by decide)
  rw [h] at this
  exact this
theorem rem2_zero (t : TypeId) (n : Nat) (h : n % 2 = 0) : binOp .rem t (.int .i64 (n : Int)) (.int .i64 2) = pure (.int .i64 0) := by
  have := nrem t n 2 (by decide)
  rw [h] at this
  exact this

set_option maxHeartbeats 1000000 in
set_option maxRecDepth 100000 in
theorem rscale8 (c : Nat) (l : List UInt8) (hc : c < 2 ^ 8) (hl : l.length ≤ 100000) (w : World) :
    Calls Tryd.prog 25 #[.int .i64 8, .int .i64 (c : Int), .string (str l)] w fun e w' => e = .returned (.tuple #[.string (str (sc 8 c l)), .int .i64 0]) ∧ Below w.heap.size w w' := by
  have hm : Fm 8 := Or.inl rfl
  have HV : Hid (∀ W, Calls Tryd.prog 21 #[.int .i64 8, .int .i64 (c : Int)] W fun e w' => e = .returned (.bool true) ∧ W = w') := hideIt (fun W => by
    have h := rvalid_any 8 c W
    rw [show vd 8 c = true from vd_true hm hc] at h
    exact h)
  obtain ⟨i0, hi, hz0, hz1, hzb⟩ := info_parts (show (Tryd.prog.info? 5).map (fun i => (i.zero, i.size, i.bytes)) = some (some (Value.int .u8 0), 1, 1) by kernel_rfl)
  have hsz := str_size l
  have HIX := hideIt (fun i hi W => str_at (P := Tryd.prog) (T := 9) Tryd.underlying9 l i hi W)
  have hquo : binOp .quo 3 (.int .i64 8) (.int .i64 8) = pure (.int .i64 1) := nquo 3 8 8 (by decide) (by decide)
  have HTI : Hid (∀ (u : UInt8) (W : World), Calls Tryd.prog 32 #[.int .i64 8, .int .i64 (c : Int), .int .i64 ((u.toNat : Nat) : Int)] W fun e w' => e = .returned (.int .i64 ((mul 8 u.toNat c : Nat) : Int)) ∧ W = w') := hideIt (fun u W => by
    have h := tim_any 8 c u.toNat hm hc u.toNat_lt W
    rw [mul_comm hm hc u.toNat_lt] at h
    exact h)
  have HSL := hideIt (sc_len hm c l (whl8 l))
  have HL := hideIt hl
  obtain ⟨n, hn⟩ : ∃ n, n = l.length := ⟨_, rfl⟩
  rw [← hn] at hsz
  have HN := hideIt hn
  generalize str l = s at *
  obtain ⟨z, hz⟩ : ∃ z, z = str (sc 8 c l) := ⟨_, rfl⟩
  rw [← hz]
  have HZ := hideIt hz
  clear hz hn hl hc hm
  go_enter Tryd.func25, Tryd.ntmps25
  go_wp2_with (go_at_call 21; refine (HV.out _).mono ?_; rintro e w' ⟨rfl, rfl⟩)
  clear HV
  go_loopg [9, 10] n (fun g s9 s10 wr => ∃ (k : Nat) (A : Option Addr) (ca : Nat), g + k = n ∧ s9 = .slice A k ca ∧ s10 = .int .i64 (k : Int) ∧
    Aside (wr.ownsRow w.heap.size 5 1 (.slice A k ca) k (((sc 8 c l).take k).map bv) ∧ Below w.heap.size w wr))
  case atStart => exact ⟨0, none, 0, rfl, rfl, rfl, World.ownsRow_nil _ _ _ _, Below.refl _ _⟩
  case round =>
    obtain ⟨k, A, ca, hg, rfl, rfl, HA⟩ := hrel
    by_cases hk : k < n
    · have hkl : k < l.length := by rw [← HN.out]; exact hk
      have HNX := hideIt (sc8_next c l k hkl)
      have hix := fun W => HIX.out k hkl W
      have hinc := inc_c 3 k (by have := HL.out; omega)
      have hki : (k : Int) < (n : Int) := by omega
      have hk1 : k < 100000 := by have := HL.out; omega
      generalize l[k] = u at *
      have hcv := fun W => conv_u8 u W
      have hcq := fun W => conv_byte (mul 8 u.toNat c) W
      have HT1 := hideIt (HTI.out u)
      clear hkl
      generalize mul 8 u.toNat c = q at *
      generalize u.toNat = un at *
      generalize UInt8.ofNat q = y at *
      go_wp2_with (first
        | (go_at_call 32; refine (HT1.out _).mono ?_; rintro e w' ⟨rfl, rfl⟩)
        | ((with_reducible refine at_append ?_); refine wpList_app rfl (.tmp 37) (.tmp 46) 51 rfl w.heap.size 5 i0 (.int .u8 0) 1 1 Tryd.underlying51 hi hz0 hz1 hzb rfl (by decide) _ k (((sc 8 c l).take k).map bv) rfl (own_kept HA.out.1 (below_new wr _)) _ _ 1 _ [bv y] rfl (sl_one wr _ _) (ones_one rfl) (by unfold maxLen; omega) (by omega) (Nat.le_trans HA.out.2.size (below_new wr _).size) ?_; intro v3 w3 ho3 hb3; have HO3 := own_is (n' := k + 1) (xs' := ((sc 8 c l).take (k + 1)).map bv) ho3 rfl (by rw [HNX.out, List.map_append]; rfl); clear ho3; obtain ⟨A3, c3, rfl, q3, q4⟩ := own_form HO3.out; have HB3 := hideIt ((HA.out.2.trans ((below_new wr _).mono HA.out.2.size)).trans hb3); clear hb3))
      go_roundg (gk - 1)
      case measure => omega
      case rel => exact ⟨k + 1, A3, c3, by omega, rfl, by go_num, HO3.out, HB3.out⟩
    · have hki : ¬ (k : Int) < (n : Int) := by omega
      obtain rfl : k = n := by omega
      have hxl : (sc 8 c l).length = k := by rw [HSL.out, ← HN.out]
      have hcs := conv_own hxl (by have h := HA.out.1; rw [List.take_of_length_le (Nat.le_of_eq hxl)] at h; exact h)
      rw [← HZ.out] at hcs
      clear hxl hi hz0 hz1 hzb
      go_wp2_with fail
      go_ret2
      exact ⟨rfl, HA.out.2⟩

set_option maxHeartbeats 1000000 in
set_option maxRecDepth 100000 in
theorem rscale16 (c : Nat) (l : List UInt8) (hc : c < 2 ^ 16) (hw : l.length % 2 = 0) (hl : l.length ≤ 100000) (w : World) :
    Calls Tryd.prog 25 #[.int .i64 16, .int .i64 (c : Int), .string (str l)] w fun e w' => e = .returned (.tuple #[.string (str (sc 16 c l)), .int .i64 0]) ∧ Below w.heap.size w w' := by
  have hm : Fm 16 := Or.inr rfl
  have hwh : whl 16 l := hw
  have HV : Hid (∀ W, Calls Tryd.prog 21 #[.int .i64 16, .int .i64 (c : Int)] W fun e w' => e = .returned (.bool true) ∧ W = w') := hideIt (fun W => by
    have h := rvalid_any 16 c W
    rw [show vd 16 c = true from vd_true hm hc] at h
    exact h)
  obtain ⟨i0, hi, hz0, hz1, hzb⟩ := info_parts (show (Tryd.prog.info? 5).map (fun i => (i.zero, i.size, i.bytes)) = some (some (Value.int .u8 0), 1, 1) by kernel_rfl)
  have hsz := str_size l
  have hr2 := rem2_zero 3 l.length hw
  have HIX := hideIt (fun i hi W => str_at (P := Tryd.prog) (T := 9) Tryd.underlying9 l i hi W)
  have hquo : binOp .quo 3 (.int .i64 16) (.int .i64 8) = pure (.int .i64 2) := nquo 3 16 8 (by decide) (by decide)
  have HTI : Hid (∀ (u v : UInt8) (W : World), Calls Tryd.prog 32 #[.int .i64 16, .int .i64 (c : Int), .int .i64 ((256 * u.toNat + v.toNat : Nat) : Int)] W fun e w' => e = .returned (.int .i64 ((mul 16 (256 * u.toNat + v.toNat) c : Nat) : Int)) ∧ W = w') := hideIt (fun u v W => by
    have h := tim_any 16 c (256 * u.toNat + v.toNat) hm hc (sym_lt u v) W
    rw [mul_comm hm hc (sym_lt u v)] at h
    exact h)
  have HPL := hideIt (fun (u v : UInt8) => mul_lt hm c (sym_lt u v))
  have HSL := hideIt (sc_len hm c l hwh)
  have HNXT := hideIt (sc16_next c l hwh)
  have HL := hideIt hl
  have HE2 := hideIt hw
  obtain ⟨n, hn⟩ : ∃ n, n = l.length := ⟨_, rfl⟩
  rw [← hn] at hsz hr2
  have HN := hideIt hn
  generalize str l = s at *
  obtain ⟨z, hz⟩ : ∃ z, z = str (sc 16 c l) := ⟨_, rfl⟩
  rw [← hz]
  have HZ := hideIt hz
  clear hz hn hl hc hm hw hwh
  go_enter Tryd.func25, Tryd.ntmps25
  go_wp2_with (go_at_call 21; refine (HV.out _).mono ?_; rintro e w' ⟨rfl, rfl⟩)
  clear HV hr2
  go_loopg [9, 10] n (fun g s9 s10 wr => ∃ (k j : Nat) (A : Option Addr) (ca : Nat), g + k = n ∧ k = 2 * j ∧ s9 = .slice A k ca ∧ s10 = .int .i64 (k : Int) ∧
    Aside (wr.ownsRow w.heap.size 5 1 (.slice A k ca) k (((sc 16 c l).take k).map bv) ∧ Below w.heap.size w wr))
  case atStart => exact ⟨0, 0, none, 0, rfl, rfl, rfl, rfl, World.ownsRow_nil _ _ _ _, Below.refl _ _⟩
  case round =>
    obtain ⟨k, j, A, ca, hg, hkj, rfl, rfl, HA⟩ := hrel
    by_cases hk : k < n
    · have hkl : k < l.length := by rw [← HN.out]; exact hk
      have hkl1 : k + 1 < l.length := by have := HE2.out; omega
      have hnx := HNXT.out j l[k] l[k + 1] (by rw [← hkj]; exact List.getElem?_eq_getElem hkl) (by rw [← hkj]; exact List.getElem?_eq_getElem hkl1)
      rw [← hkj] at hnx
      have hix0 := fun W => HIX.out k hkl W
      have hix1 := fun W => HIX.out (k + 1) hkl1 W
      have hinc := inc_c 3 k (by have := HL.out; omega)
      have hadd2 : binOp .add 3 (.int .i64 (k : Int)) (.int .i64 2) = pure (.int .i64 ((k + 2 : Nat) : Int)) := nadd 3 k 2 (by have := HL.out; omega)
      have hki : (k : Int) < (n : Int) := by omega
      have hki1 : ((k + 1 : Nat) : Int) < (n : Int) := by rw [HN.out]; omega
      have hk1 : k < 100000 := by have := HL.out; omega
      have HJ := hideIt (show k + 2 = 2 * (j + 1) ∧ k + 2 ≤ n by rw [HN.out]; omega)
      generalize l[k] = u at *
      generalize l[k + 1] = v at *
      have hcv0 := fun W => conv_u8 u W
      have hcv1 := fun W => conv_u8 v W
      have hmul : binOp .mul 3 (.int .i64 256) (.int .i64 ((u.toNat : Nat) : Int)) = pure (.int .i64 ((256 * u.toNat : Nat) : Int)) := nmul 3 256 u.toNat (by have := u.toNat_lt; omega)
      have hadd := nadd 3 (256 * u.toNat) v.toNat (by have := u.toNat_lt; have := v.toNat_lt; omega)
      have HT1 := hideIt (HTI.out u v)
      have hpl := HPL.out u v
      generalize 256 * u.toNat + v.toNat = sy1 at *
      generalize 256 * u.toNat = u256 at *
      obtain ⟨q, hq⟩ : ∃ q, q = mul 16 sy1 c := ⟨_, rfl⟩
      rw [← hq] at hnx HT1 hpl
      have hqu : binOp .quo 3 (.int .i64 (q : Int)) (.int .i64 256) = pure (.int .i64 ((q / 256 : Nat) : Int)) := nquo 3 q 256 (by decide) (by omega)
      have hqr : binOp .rem 3 (.int .i64 (q : Int)) (.int .i64 256) = pure (.int .i64 ((q % 256 : Nat) : Int)) := nrem 3 q 256 (by decide)
      have hcq0 := fun W => conv_byte (q / 256) W
      have hcq1 := fun W => conv_byte (q % 256) W
      rw [ofNat_mod] at hcq1
      have HNX := hideIt hnx
      clear hkl hkl1 hnx hpl hq hkj
      generalize u.toNat = un at *
      generalize v.toNat = vn at *
      generalize UInt8.ofNat (q / 256) = y1 at *
      generalize UInt8.ofNat q = y2 at *
      generalize q / 256 = q1 at *
      generalize q % 256 = q2 at *
      generalize hk11 : k + 1 = k1 at *
      clear hk11
      go_wp2_with fail
      go_quiet ((go_at_call 32; refine (HT1.out _).mono ?_; rintro e w' ⟨rfl, hw⟩; exact ⟨rfl, _, hw.symm⟩))
      obtain ⟨w2, hw2⟩ : ∃ W, W = wr.drewN nq := ⟨_, rfl⟩
      rw [← hw2]
      have HB := hideIt (show Below w.heap.size w w2 by rw [hw2]; exact below_drewN HA.out.2 _)
      have HO := hideIt (show w2.ownsRow w.heap.size 5 1 (.slice A k ca) k (((sc 16 c l).take k).map bv) by rw [hw2]; exact own_kept HA.out.1 (below_drewN (Below.refl _ _) _))
      clear hw2
      go_wp2_with ((with_reducible refine at_append ?_); refine wpList_app rfl (.tmp 62) (.tmp 69) 51 rfl w.heap.size 5 i0 (.int .u8 0) 1 1 Tryd.underlying51 hi hz0 hz1 hzb rfl (by decide) _ k (((sc 16 c l).take k).map bv) rfl (own_kept HO.out (below_new w2 _)) _ _ 2 _ [bv y1, bv y2] rfl (sl_two w2 _ _ _) (ones_two rfl rfl) (by unfold maxLen; omega) (by omega) (Nat.le_trans HB.out.size (below_new w2 _).size) ?_; intro v3 w3 ho3 hb3; have HO3 := own_is (n' := k + 2) (xs' := ((sc 16 c l).take (k + 2)).map bv) ho3 rfl (by rw [HNX.out, List.map_append]; rfl); clear ho3; obtain ⟨A3, c3, rfl, q3, q4⟩ := own_form HO3.out; have HB3 := hideIt ((HB.out.trans ((below_new w2 _).mono HB.out.size)).trans hb3); clear hb3)
      go_roundg (gk - 2)
      case measure => omega
      case rel => exact ⟨k + 2, j + 1, A3, c3, by have := HJ.out.2; omega, HJ.out.1, rfl, by go_num, HO3.out, HB3.out⟩
    · clear hkj
      have hki : ¬ (k : Int) < (n : Int) := by omega
      obtain rfl : k = n := by omega
      have hxl : (sc 16 c l).length = k := by rw [HSL.out, ← HN.out]
      have hcs := conv_own hxl (by have h := HA.out.1; rw [List.take_of_length_le (Nat.le_of_eq hxl)] at h; exact h)
      rw [← HZ.out] at hcs
      clear hxl hi hz0 hz1 hzb
      go_wp2_with fail
      go_ret2
      exact ⟨rfl, HA.out.2⟩

end Go.Proofs.YtihepogccgcfkaaDoor
