/-
  The field of the reference as a later layer needs it: Xor, Scale, Combine.
-/
import Derived.Test.YtpjgmekpnlpjaaaDoorGfa
namespace Go.Proofs.YtpjgmekpnlpjaaaDoor
section
open Go.RowKit Go.Shelf
set_option linter.unusedVariables false

theorem xr_take_next (a b : List UInt8) (h : a.length = b.length) (k : Nat) (hk : k < a.length) : (xr a b).take (k + 1) = (xr a b).take k ++ [a[k] ^^^ b[k]'(by omega)] := by
  rw [take_snoc (xr a b) k (by rw [xr_len a b h]; exact hk)]
  congr 2
  unfold xr
  rw [List.getElem_zipWith]
theorem conv_own {w : World} {base n c : Nat} {A : Option Addr} {l : List UInt8} (hl : l.length = n) (h : w.ownsRow base 5 1 (.slice A n c) n (l.map bv)) : (convert 85 9 (.slice A n c)).run Tryd.prog w = .ok (.string (str l)) w := by
  subst hl
  exact conv_bytes (P := Tryd.prog) (c := c) Tryd.underlying85 Tryd.underlying5 Tryd.underlying9 (Sl.of_own h)

set_option maxHeartbeats 1000000 in
set_option maxRecDepth 100000 in
theorem rxor_any (a b : List UInt8) (hl : a.length ≤ 100000) (w : World) :
    Calls Tryd.prog 37 #[.string (str a), .string (str b)] w fun e w' => e = .returned (.tuple #[.string (str (xrS a b)), .int .i64 (xrE a b)]) ∧ Below w.heap.size w w' := by
  have hsa := str_size a
  have hsb := str_size b
  by_cases h : a.length = b.length
  · rw [xrS, xrE, if_pos h, if_pos h]
    obtain ⟨i0, hi, hz0, hz1, hzb⟩ := info_parts (show (Tryd.prog.info? 5).map (fun i => (i.zero, i.size, i.bytes)) = some (some (Value.int .u8 0), 1, 1) by kernel_rfl)
    have hq := neqF 3 b.length
    have HIA := hideIt (fun i hi W => str_at (P := Tryd.prog) (T := 9) Tryd.underlying9 a i hi W)
    have HIB := hideIt (fun i hi W => str_at (P := Tryd.prog) (T := 9) Tryd.underlying9 b i hi W)
    have HLE := hideIt (xr_len a b h)
    have HH := hideIt h
    have HL := hideIt hl
    rw [h] at hsa
    obtain ⟨n, hn⟩ : ∃ n, n = b.length := ⟨_, rfl⟩
    rw [← hn] at hsa hsb hq
    have HN := hideIt hn
    clear h hl hn
    generalize str a = s at *
    generalize str b = t at *
    obtain ⟨z, hz⟩ : ∃ z, z = str (xr a b) := ⟨_, rfl⟩
    rw [← hz]
    have HZ := hideIt hz
    clear hz
    go_enter Tryd.func37, Tryd.ntmps37
    go_wp2_with fail
    go_loopg [6, 7] n (fun g s6 s7 wr => ∃ (k : Nat) (A : Option Addr) (c : Nat), g + k = n ∧ s6 = .slice A k c ∧ s7 = .int .i64 (k : Int) ∧
      Aside (wr.ownsRow w.heap.size 5 1 (.slice A k c) k (((xr a b).take k).map bv) ∧ Below w.heap.size w wr))
    case atStart => exact ⟨0, none, 0, rfl, rfl, rfl, World.ownsRow_nil _ _ _ _, Below.refl _ _⟩
    case round =>
      obtain ⟨k, A, c, hg, rfl, rfl, HA⟩ := hrel
      by_cases hk : k < n
      · have hka : k < a.length := by rw [HH.out, ← HN.out]; exact hk
        have hkb : k < b.length := by rw [← HN.out]; exact hk
        have HNX := hideIt (xr_take_next a b HH.out k hka)
        have hixa := fun W => HIA.out k hka W
        have hixb := fun W => HIB.out k hkb W
        have hxor := xor_c 5 a[k] b[k]
        have hinc := inc_c 3 k (by have := HL.out; omega)
        have hki : (k : Int) < (n : Int) := by omega
        have hk1 : k < 100000 := by have := HL.out; omega
        generalize a[k] = u at *
        generalize b[k] = v at *
        clear hka hkb
        generalize u ^^^ v = y at *
        go_wp2_with fail
        refine loads_begin_n 11 [] rfl (by kernel_rfl) ?_
        refine wpAnyL_move (oi := ⟨some 19, _, _, _, _, _⟩) 0 ?_ rfl (by kernel_rfl) (by kernel_rfl) (by kernel_rfl) (by kernel_rfl) (fun _ _ _ h => h) (by kernel_rfl) ?_ (Hooks.nil _ _) ?_
        rotate_left
        · intro W'; go_simp; first | done | with_reducible rfl
        try simp only [Act.put]
        try simp only [List.setIfInBounds_toArray]
        try simp only [List.set_cons_succ]
        try simp only [List.set_cons_zero]
        refine wpAnyL_move (oi := ⟨some 20, _, _, _, _, _⟩) 1 ?_ rfl (by kernel_rfl) (by kernel_rfl) (by kernel_rfl) (by kernel_rfl) (fun _ _ _ h => h) (by kernel_rfl) ?_ (Hooks.nil _ _) ?_
        rotate_left
        · intro W'; go_simp; first | done | with_reducible rfl
        try simp only [Act.put]
        try simp only [List.setIfInBounds_toArray]
        try simp only [List.set_cons_succ]
        try simp only [List.set_cons_zero]
        refine wpAnyL_move (oi := ⟨some 21, _, _, _, _, _⟩) 2 ?_ rfl (by kernel_rfl) (by kernel_rfl) (by kernel_rfl) (by kernel_rfl) (fun _ _ _ h => h) (by kernel_rfl) ?_ (Hooks.nil _ _) ?_
        rotate_left
        · intro W'; go_simp; first | done | with_reducible rfl
        try simp only [Act.put]
        try simp only [List.setIfInBounds_toArray]
        try simp only [List.set_cons_succ]
        try simp only [List.set_cons_zero]
        refine wpAnyL_move (oi := ⟨some 22, _, _, _, _, _⟩) 3 ?_ rfl (by kernel_rfl) (by kernel_rfl) (by kernel_rfl) (by kernel_rfl) (fun _ _ _ h => h) (by kernel_rfl) ?_ (Hooks.nil _ _) ?_
        rotate_left
        · intro W'; go_simp; first | done | with_reducible rfl
        try simp only [Act.put]
        try simp only [List.setIfInBounds_toArray]
        try simp only [List.set_cons_succ]
        try simp only [List.set_cons_zero]
        refine wpAnyL_move (oi := ⟨some 23, _, _, _, _, _⟩) 4 ?_ rfl (by kernel_rfl) (by kernel_rfl) (by kernel_rfl) (by kernel_rfl) (fun _ _ _ h => h) (by kernel_rfl) ?_ (Hooks.nil _ _) ?_
        rotate_left
        · intro W'; go_simp; first | done | with_reducible rfl
        try simp only [Act.put]
        try simp only [List.setIfInBounds_toArray]
        try simp only [List.set_cons_succ]
        try simp only [List.set_cons_zero]
        refine wpAnyL_move (oi := ⟨some 24, _, _, _, _, _⟩) 5 ?_ rfl (by kernel_rfl) (by kernel_rfl) (by kernel_rfl) (by kernel_rfl) (fun _ _ _ h => h) (by kernel_rfl) ?_ (Hooks.nil _ _) ?_
        rotate_left
        · intro W'; go_simp; first | done | with_reducible rfl
        try simp only [Act.put]
        try simp only [List.setIfInBounds_toArray]
        try simp only [List.set_cons_succ]
        try simp only [List.set_cons_zero]
        refine wpAnyL_move (oi := ⟨some 25, _, _, _, _, _⟩) 6 ?_ rfl (by kernel_rfl) (by kernel_rfl) (by kernel_rfl) (by kernel_rfl) (fun _ _ _ h => h) (by kernel_rfl) ?_ (Hooks.nil _ _) ?_
        rotate_left
        · intro W'; go_simp; first | done | with_reducible rfl
        try simp only [Act.put]
        try simp only [List.setIfInBounds_toArray]
        try simp only [List.set_cons_succ]
        try simp only [List.set_cons_zero]
        refine wpAnyL_move (oi := ⟨some 26, _, _, _, _, _⟩) 7 ?_ rfl (by kernel_rfl) (by kernel_rfl) (by kernel_rfl) (by kernel_rfl) (fun _ _ _ h => h) (by kernel_rfl) ?_ (Hooks.nil _ _) ?_
        rotate_left
        · intro W'; go_simp; first | done | with_reducible rfl
        try simp only [Act.put]
        try simp only [List.setIfInBounds_toArray]
        try simp only [List.set_cons_succ]
        try simp only [List.set_cons_zero]
        try simp only [Act.put]
        try simp only [List.setIfInBounds_toArray]
        try simp only [List.set_cons_succ]
        try simp only [List.set_cons_zero]
        obtain ⟨w2, hw2⟩ : ∃ W, W = wr.drew := ⟨_, rfl⟩
        have HO := hideIt (show w2.ownsRow w.heap.size 5 1 (.slice A k c) k (((xr a b).take k).map bv) by rw [hw2]; exact HA.out.1)
        have HB := hideIt (show Below w.heap.size w w2 by rw [hw2]; exact HA.out.2.drew)
        rw [← hw2]
        clear hw2
        refine wpAnyL_one (o := ⟨some 27, _, _, _, _, _⟩) 8 (by kernel_rfl) rfl (fun K hK => ?_)
        go_wp2_with fail
        refine hK _ _ (Hooks.nil _ _) ?_
        clear hK K
        refine wpAnyL_one (o := ⟨some 28, _, _, _, _, _⟩) 9 (by kernel_rfl) rfl (fun K hK => ?_)
        go_wp2_with ((with_reducible refine at_append ?_); refine wpList_app rfl (.tmp 19) (.tmp 27) 85 rfl w.heap.size 5 i0 (.int .u8 0) 1 1 Tryd.underlying85 hi hz0 hz1 hzb rfl (by decide) _ k (((xr a b).take k).map bv) rfl (own_kept HO.out (below_new w2 _)) _ _ 1 _ [bv y] rfl (sl_one w2 _ _) (ones_one rfl) (by unfold maxLen; omega) (by omega) (Nat.le_trans HB.out.size (below_new w2 _).size) ?_; intro v3 w3 ho3 hb3; have HO3 := own_is (n' := k + 1) (xs' := ((xr a b).take (k + 1)).map bv) ho3 rfl (by rw [HNX.out, List.map_append]; rfl); clear ho3; obtain ⟨A3, c3, rfl, q3, q4⟩ := own_form HO3.out; have HB3 := hideIt ((HB.out.trans ((below_new w2 _).mono HB.out.size)).trans hb3); clear hb3)
        refine hK _ _ (Hooks.nil _ _) ?_
        clear hK K
        refine loads_tail 10 (by kernel_rfl) (by kernel_rfl) (by kernel_rfl) (by kernel_rfl) ?_
        simp only [List.drop_succ_cons, List.drop_zero]
        go_wp2_with fail
        go_roundg (gk - 1)
        case measure => omega
        case rel => exact ⟨k + 1, A3, c3, by omega, rfl, by go_num, HO3.out, HB3.out⟩
      · have hki : ¬ (k : Int) < (n : Int) := by omega
        obtain rfl : k = n := by omega
        have hxl : (xr a b).length = k := by rw [HLE.out, HH.out, ← HN.out]
        have hcs := conv_own hxl (by have h := HA.out.1; rw [List.take_of_length_le (Nat.le_of_eq hxl)] at h; exact h)
        clear hxl
        rw [← HZ.out] at hcs
        clear hi hz0 hz1 hzb
        go_wp2_with fail
        go_ret2
        exact ⟨rfl, HA.out.2⟩
  · rw [xrS, xrE, if_neg h, if_neg h]
    have hq := neqT 3 h
    generalize str a = s at *
    generalize str b = t at *
    generalize a.length = n at *
    generalize b.length = k at *
    clear hl h
    go_enter Tryd.func37, Tryd.ntmps37
    go_wp2_with fail
    go_ret2
    exact ⟨rfl, Below.refl _ _⟩

theorem sl_two (w : World) (t : TypeId) (u v : Value) : Sl (w.alloc (.cells #[u, v] t)) (w.heap.size + 1) (some ⟨w.heap.size, 0, none⟩) 1 2 [u, v] :=
  ⟨rfl, fun _ => ⟨w.heap.size, 0, rfl, Nat.lt_succ_self _, fun j x hj => by rw [show (w.alloc (.cells #[u, v] t)).cell? ⟨w.heap.size, 0 + j, none⟩ = [u, v][0 + j]? from (Blk.new w t [u, v]).cell _, Nat.zero_add]; exact hj⟩⟩
theorem ones_two {u v : Value} (h : u.oneCell' = true) (h2 : v.oneCell' = true) : ∀ x ∈ [u, v], x.oneCell' = true := fun x hx => by
  rcases List.mem_cons.1 hx with rfl | hx
  · exact h
  · rw [List.mem_singleton] at hx; subst hx; exact h2
theorem ofNat_mod (p : Nat) : UInt8.ofNat (p % 256) = UInt8.ofNat p := by
  apply UInt8.toNat_inj.1
  rw [UInt8.toNat_ofNat', UInt8.toNat_ofNat']
  omega
theorem sc8_next (c : Nat) (l : List UInt8) (k : Nat) (hk : k < l.length) : (sc 8 c l).take (k + 1) = (sc 8 c l).take k ++ [UInt8.ofNat (mul 8 l[k].toNat c)] := by
  rw [sc8_eq, take_snoc _ k (by rw [List.length_map]; exact hk), List.getElem_map]
theorem sc16_next (c : Nat) (l : List UInt8) (h : whl 16 l) : ∀ j u v, l[2 * j]? = some u → l[2 * j + 1]? = some v → (sc 16 c l).take (2 * j + 2) = (sc 16 c l).take (2 * j) ++ [UInt8.ofNat (mul 16 (256 * u.toNat + v.toNat) c / 256), UInt8.ofNat (mul 16 (256 * u.toNat + v.toNat) c)] := by
  revert h
  refine pairs (P := fun l => ∀ j u v, l[2 * j]? = some u → l[2 * j + 1]? = some v → (sc 16 c l).take (2 * j + 2) = (sc 16 c l).take (2 * j) ++ [UInt8.ofNat (mul 16 (256 * u.toNat + v.toNat) c / 256), UInt8.ofNat (mul 16 (256 * u.toNat + v.toNat) c)]) ?_ ?_ l
  · intro j x y hx _
    simp at hx
  · intro u v l _ ih j x y hx hy
    cases j with
    | zero =>
      simp only [Nat.mul_zero, Nat.zero_add, List.getElem?_cons_zero, List.getElem?_cons_succ, Option.some.injEq] at hx hy
      rw [sc16_cons, hx, hy]
      rfl
    | succ j =>
      rw [show 2 * (j + 1) = 2 * j + 1 + 1 by omega, List.getElem?_cons_succ, List.getElem?_cons_succ] at hx
      rw [show 2 * (j + 1) + 1 = 2 * j + 1 + 1 + 1 by omega, List.getElem?_cons_succ, List.getElem?_cons_succ] at hy
      have h2 := ih j x y hx hy
      rw [sc16_cons, show 2 * (j + 1) + 2 = 2 * j + 2 + 1 + 1 by omega, show 2 * (j + 1) = 2 * j + 1 + 1 by omega, List.take_succ_cons, List.take_succ_cons, List.take_succ_cons, List.take_succ_cons, h2]
      rfl
theorem rem2_one (t : TypeId) (n : Nat) (h : n % 2 = 1) : binOp .rem t (.int .i64 (n : Int)) (.int .i64 2) = pure (.int .i64 1) := by
  have := nrem t n 2 (by decide)
  rw [h] at this
  exact this
theorem rem2_zero (t : TypeId) (n : Nat) (h : n % 2 = 0) : binOp .rem t (.int .i64 (n : Int)) (.int .i64 2) = pure (.int .i64 0) := by
  have := nrem t n 2 (by decide)
  rw [h] at this
  exact this

set_option maxHeartbeats 1000000 in
set_option maxRecDepth 100000 in
theorem rscale8 (c : Nat) (l : List UInt8) (hc : c < 2 ^ 8) (hl : l.length ≤ 100000) (w : World) :
    Calls Tryd.prog 64 #[.int .i64 8, .int .i64 (c : Int), .string (str l)] w fun e w' => e = .returned (.tuple #[.string (str (sc 8 c l)), .int .i64 0]) ∧ Below w.heap.size w w' := by
  have hm : Fm 8 := Or.inl rfl
  have HV : Hid (∀ W, Calls Tryd.prog 47 #[.int .i64 8, .int .i64 (c : Int)] W fun e w' => e = .returned (.bool true) ∧ W = w') := hideIt (fun W => by
    have h := rvalid_any 8 c W
    rw [show vd 8 c = true from vd_true hm hc] at h
    exact h)
  obtain ⟨i0, hi, hz0, hz1, hzb⟩ := info_parts (show (Tryd.prog.info? 5).map (fun i => (i.zero, i.size, i.bytes)) = some (some (Value.int .u8 0), 1, 1) by kernel_rfl)
  have hsz := str_size l
  have HIX := hideIt (fun i hi W => str_at (P := Tryd.prog) (T := 9) Tryd.underlying9 l i hi W)
  have hquo : binOp .quo 3 (.int .i64 8) (.int .i64 8) = pure (.int .i64 1) := nquo 3 8 8 (by decide) (by decide)
  have HTI : Hid (∀ (u : UInt8) (W : World), Calls Tryd.prog 57 #[.int .i64 8, .int .i64 (c : Int), .int .i64 ((u.toNat : Nat) : Int)] W fun e w' => e = .returned (.int .i64 ((mul 8 u.toNat c : Nat) : Int)) ∧ W = w') := hideIt (fun u W => by
    have h := tim_any 8 c u.toNat hm hc u.toNat_lt W
    rw [mul_comm hm hc u.toNat_lt] at h
    exact h)
  have HSL := hideIt (sc_len hm c l (whl8 l))
  have HL := hideIt hl
  obtain ⟨n, hn⟩ : ∃ n, n = l.length := ⟨_, rfl⟩
  rw [← hn] at hsz
  have HN := hideIt hn
  generalize str l = s at *
  obtain ⟨z, hz⟩ : ∃ z, z = str (sc 8 c l) := ⟨_, rfl⟩
  rw [← hz]
  have HZ := hideIt hz
  clear hz hn hl hc hm
  go_enter Tryd.func64, Tryd.ntmps64
  go_wp2_with (go_at_call 47; refine (HV.out _).mono ?_; rintro e w' ⟨rfl, rfl⟩)
  clear HV
  go_loopg [9, 10] n (fun g s9 s10 wr => ∃ (k : Nat) (A : Option Addr) (ca : Nat), g + k = n ∧ s9 = .slice A k ca ∧ s10 = .int .i64 (k : Int) ∧
    Aside (wr.ownsRow w.heap.size 5 1 (.slice A k ca) k (((sc 8 c l).take k).map bv) ∧ Below w.heap.size w wr))
  case atStart => exact ⟨0, none, 0, rfl, rfl, rfl, World.ownsRow_nil _ _ _ _, Below.refl _ _⟩
  case round =>
    obtain ⟨k, A, ca, hg, rfl, rfl, HA⟩ := hrel
    by_cases hk : k < n
    · have hkl : k < l.length := by rw [← HN.out]; exact hk
      have HNX := hideIt (sc8_next c l k hkl)
      have hix := fun W => HIX.out k hkl W
      have hinc := inc_c 3 k (by have := HL.out; omega)
      have hki : (k : Int) < (n : Int) := by omega
      have hk1 : k < 100000 := by have := HL.out; omega
      generalize l[k] = u at *
      have hcv := fun W => conv_u8 u W
      have hcq := fun W => conv_byte (mul 8 u.toNat c) W
      have HT1 := hideIt (HTI.out u)
      clear hkl
      generalize mul 8 u.toNat c = q at *
      generalize u.toNat = un at *
      generalize UInt8.ofNat q = y at *
      go_wp2_with (first
        | (go_at_call 57; refine (HT1.out _).mono ?_; rintro e w' ⟨rfl, rfl⟩)
        | ((with_reducible refine at_append ?_); refine wpList_app rfl (.tmp 37) (.tmp 46) 85 rfl w.heap.size 5 i0 (.int .u8 0) 1 1 Tryd.underlying85 hi hz0 hz1 hzb rfl (by decide) _ k (((sc 8 c l).take k).map bv) rfl (own_kept HA.out.1 (below_new wr _)) _ _ 1 _ [bv y] rfl (sl_one wr _ _) (ones_one rfl) (by unfold maxLen; omega) (by omega) (Nat.le_trans HA.out.2.size (below_new wr _).size) ?_; intro v3 w3 ho3 hb3; have HO3 := own_is (n' := k + 1) (xs' := ((sc 8 c l).take (k + 1)).map bv) ho3 rfl (by rw [HNX.out, List.map_append]; rfl); clear ho3; obtain ⟨A3, c3, rfl, q3, q4⟩ := own_form HO3.out; have HB3 := hideIt ((HA.out.2.trans ((below_new wr _).mono HA.out.2.size)).trans hb3); clear hb3))
      go_roundg (gk - 1)
      case measure => omega
      case rel => exact ⟨k + 1, A3, c3, by omega, rfl, by go_num, HO3.out, HB3.out⟩
    · have hki : ¬ (k : Int) < (n : Int) := by omega
      obtain rfl : k = n := by omega
      have hxl : (sc 8 c l).length = k := by rw [HSL.out, ← HN.out]
      have hcs := conv_own hxl (by have h := HA.out.1; rw [List.take_of_length_le (Nat.le_of_eq hxl)] at h; exact h)
      rw [← HZ.out] at hcs
      clear hxl hi hz0 hz1 hzb
      go_wp2_with fail
      go_ret2
      exact ⟨rfl, HA.out.2⟩

set_option maxHeartbeats 1000000 in
set_option maxRecDepth 100000 in
theorem rscale16 (c : Nat) (l : List UInt8) (hc : c < 2 ^ 16) (hw : l.length % 2 = 0) (hl : l.length ≤ 100000) (w : World) :
    Calls Tryd.prog 64 #[.int .i64 16, .int .i64 (c : Int), .string (str l)] w fun e w' => e = .returned (.tuple #[.string (str (sc 16 c l)), .int .i64 0]) ∧ Below w.heap.size w w' := by
  have hm : Fm 16 := Or.inr rfl
  have hwh : whl 16 l := hw
  have HV : Hid (∀ W, Calls Tryd.prog 47 #[.int .i64 16, .int .i64 (c : Int)] W fun e w' => e = .returned (.bool true) ∧ W = w') := hideIt (fun W => by
    have h := rvalid_any 16 c W
    rw [show vd 16 c = true from vd_true hm hc] at h
    exact h)
  obtain ⟨i0, hi, hz0, hz1, hzb⟩ := info_parts (show (Tryd.prog.info? 5).map (fun i => (i.zero, i.size, i.bytes)) = some (some (Value.int .u8 0), 1, 1) by kernel_rfl)
  have hsz := str_size l
  have hr2 := rem2_zero 3 l.length hw
  have HIX := hideIt (fun i hi W => str_at (P := Tryd.prog) (T := 9) Tryd.underlying9 l i hi W)
  have hquo : binOp .quo 3 (.int .i64 16) (.int .i64 8) = pure (.int .i64 2) := nquo 3 16 8 (by decide) (by decide)
  have HTI : Hid (∀ (u v : UInt8) (W : World), Calls Tryd.prog 57 #[.int .i64 16, .int .i64 (c : Int), .int .i64 ((256 * u.toNat + v.toNat : Nat) : Int)] W fun e w' => e = .returned (.int .i64 ((mul 16 (256 * u.toNat + v.toNat) c : Nat) : Int)) ∧ W = w') := hideIt (fun u v W => by
    have h := tim_any 16 c (256 * u.toNat + v.toNat) hm hc (sym_lt u v) W
    rw [mul_comm hm hc (sym_lt u v)] at h
    exact h)
  have HPL := hideIt (fun (u v : UInt8) => mul_lt hm c (sym_lt u v))
  have HSL := hideIt (sc_len hm c l hwh)
  have HNXT := hideIt (sc16_next c l hwh)
  have HL := hideIt hl
  have HE2 := hideIt hw
  obtain ⟨n, hn⟩ : ∃ n, n = l.length := ⟨_, rfl⟩
  rw [← hn] at hsz hr2
  have HN := hideIt hn
  generalize str l = s at *
  obtain ⟨z, hz⟩ : ∃ z, z = str (sc 16 c l) := ⟨_, rfl⟩
  rw [← hz]
  have HZ := hideIt hz
  clear hz hn hl hc hm hw hwh
  go_enter Tryd.func64, Tryd.ntmps64
  go_wp2_with (go_at_call 47; refine (HV.out _).mono ?_; rintro e w' ⟨rfl, rfl⟩)
  clear HV hr2
  go_loopg [9, 10] n (fun g s9 s10 wr => ∃ (k j : Nat) (A : Option Addr) (ca : Nat), g + k = n ∧ k = 2 * j ∧ s9 = .slice A k ca ∧ s10 = .int .i64 (k : Int) ∧
    Aside (wr.ownsRow w.heap.size 5 1 (.slice A k ca) k (((sc 16 c l).take k).map bv) ∧ Below w.heap.size w wr))
  case atStart => exact ⟨0, 0, none, 0, rfl, rfl, rfl, rfl, World.ownsRow_nil _ _ _ _, Below.refl _ _⟩
  case round =>
    obtain ⟨k, j, A, ca, hg, hkj, rfl, rfl, HA⟩ := hrel
    by_cases hk : k < n
    · have hkl : k < l.length := by rw [← HN.out]; exact hk
      have hkl1 : k + 1 < l.length := by have := HE2.out; omega
      have hnx := HNXT.out j l[k] l[k + 1] (by rw [← hkj]; exact List.getElem?_eq_getElem hkl) (by rw [← hkj]; exact List.getElem?_eq_getElem hkl1)
      rw [← hkj] at hnx
      have hix0 := fun W => HIX.out k hkl W
      have hix1 := fun W => HIX.out (k + 1) hkl1 W
      have hinc := inc_c 3 k (by have := HL.out; omega)
      have hadd2 : binOp .add 3 (.int .i64 (k : Int)) (.int .i64 2) = pure (.int .i64 ((k + 2 : Nat) : Int)) := nadd 3 k 2 (by have := HL.out; omega)
      have hki : (k : Int) < (n : Int) := by omega
      have hki1 : ((k + 1 : Nat) : Int) < (n : Int) := by rw [HN.out]; omega
      have hk1 : k < 100000 := by have := HL.out; omega
      have HJ := hideIt (show k + 2 = 2 * (j + 1) ∧ k + 2 ≤ n by rw [HN.out]; omega)
      generalize l[k] = u at *
      generalize l[k + 1] = v at *
      have hcv0 := fun W => conv_u8 u W
      have hcv1 := fun W => conv_u8 v W
      have hmul : binOp .mul 3 (.int .i64 256) (.int .i64 ((u.toNat : Nat) : Int)) = pure (.int .i64 ((256 * u.toNat : Nat) : Int)) := nmul 3 256 u.toNat (by have := u.toNat_lt; omega)
      have hadd := nadd 3 (256 * u.toNat) v.toNat (by have := u.toNat_lt; have := v.toNat_lt; omega)
      have HT1 := hideIt (HTI.out u v)
      have hpl := HPL.out u v
      generalize 256 * u.toNat + v.toNat = sy1 at *
      generalize 256 * u.toNat = u256 at *
      obtain ⟨q, hq⟩ : ∃ q, q = mul 16 sy1 c := ⟨_, rfl⟩
      rw [← hq] at hnx HT1 hpl
      have hqu : binOp .quo 3 (.int .i64 (q : Int)) (.int .i64 256) = pure (.int .i64 ((q / 256 : Nat) : Int)) := nquo 3 q 256 (by decide) (by omega)
      have hqr : binOp .rem 3 (.int .i64 (q : Int)) (.int .i64 256) = pure (.int .i64 ((q % 256 : Nat) : Int)) := nrem 3 q 256 (by decide)
      have hcq0 := fun W => conv_byte (q / 256) W
      have hcq1 := fun W => conv_byte (q % 256) W
      rw [ofNat_mod] at hcq1
      have HNX := hideIt hnx
      clear hkl hkl1 hnx hpl hq hkj
      generalize u.toNat = un at *
      generalize v.toNat = vn at *
      generalize UInt8.ofNat (q / 256) = y1 at *
      generalize UInt8.ofNat q = y2 at *
      generalize q / 256 = q1 at *
      generalize q % 256 = q2 at *
      generalize hk11 : k + 1 = k1 at *
      clear hk11
      go_wp2_with fail
      go_quiet ((go_at_call 57; refine (HT1.out _).mono ?_; rintro e w' ⟨rfl, hw⟩; exact ⟨rfl, _, hw.symm⟩))
      obtain ⟨w2, hw2⟩ : ∃ W, W = wr.drewN nq := ⟨_, rfl⟩
      rw [← hw2]
      have HB := hideIt (show Below w.heap.size w w2 by rw [hw2]; exact below_drewN HA.out.2 _)
      have HO := hideIt (show w2.ownsRow w.heap.size 5 1 (.slice A k ca) k (((sc 16 c l).take k).map bv) by rw [hw2]; exact own_kept HA.out.1 (below_drewN (Below.refl _ _) _))
      clear hw2
      go_wp2_with ((with_reducible refine at_append ?_); refine wpList_app rfl (.tmp 62) (.tmp 69) 85 rfl w.heap.size 5 i0 (.int .u8 0) 1 1 Tryd.underlying85 hi hz0 hz1 hzb rfl (by decide) _ k (((sc 16 c l).take k).map bv) rfl (own_kept HO.out (below_new w2 _)) _ _ 2 _ [bv y1, bv y2] rfl (sl_two w2 _ _ _) (ones_two rfl rfl) (by unfold maxLen; omega) (by omega) (Nat.le_trans HB.out.size (below_new w2 _).size) ?_; intro v3 w3 ho3 hb3; have HO3 := own_is (n' := k + 2) (xs' := ((sc 16 c l).take (k + 2)).map bv) ho3 rfl (by rw [HNX.out, List.map_append]; rfl); clear ho3; obtain ⟨A3, c3, rfl, q3, q4⟩ := own_form HO3.out; have HB3 := hideIt ((HB.out.trans ((below_new w2 _).mono HB.out.size)).trans hb3); clear hb3)
      go_roundg (gk - 2)
      case measure => omega
      case rel => exact ⟨k + 2, j + 1, A3, c3, by have := HJ.out.2; omega, HJ.out.1, rfl, by go_num, HO3.out, HB3.out⟩
    · clear hkj
      have hki : ¬ (k : Int) < (n : Int) := by omega
      obtain rfl : k = n := by omega
      have hxl : (sc 16 c l).length = k := by rw [HSL.out, ← HN.out]
      have hcs := conv_own hxl (by have h := HA.out.1; rw [List.take_of_length_le (Nat.le_of_eq hxl)] at h; exact h)
      rw [← HZ.out] at hcs
      clear hxl hi hz0 hz1 hzb
      go_wp2_with fail
      go_ret2
      exact ⟨rfl, HA.out.2⟩

end

section
open Go.RowKit Go.Shelf
set_option linter.unusedVariables false

/-- A region that draws its order, and whose callees leave what lies below B as it was: one walk. -/
theorem wp_region_quiet_below {P : Program} {id : Nat} {Q : Exit → Act → World → Prop} {a : Act} {w w0 : World} {B : Nat} {l : List Oper} (hm : P.follows .mixedOrders = true) (hB : Region.lexB .any l.toArray = true) (hC : Below B w0 w)
    (h : wpQuiet P l.toArray (fun w' => Below B w0 w') (fun a' => ∀ w', Below B w0 w' → Q .normal a' w') l a) : (Code.region id l.toArray true).wp P Q a w :=
  wp_region_quiet (C := fun w' => Below B w0 w') hm hB hC.drew (by simpa using h)
theorem quiet_run {P : Program} {o : Oper} {a : Act} {C : World → Prop} {K : Act → Prop} (v : Value) (h : ∀ W, C W → (execOp a.eval o).run P W = .ok (.value v) W) (hk : K (a.put o.dst v)) : o.quiet P a C K :=
  ⟨v, fun W hW => by unfold Oper.quietAt; rw [h W hW]; exact ⟨rfl, rfl⟩, hk⟩

set_option maxHeartbeats 400000 in
theorem rscale_any (m c : Int) (l : List UInt8) (hl : l.length ≤ 100000) (w : World) :
    Calls Tryd.prog 64 #[.int .i64 m, .int .i64 c, .string (str l)] w fun e w' => e = .returned (.tuple #[.string (str (scR m c l)), .int .i64 (scE m c l)]) ∧ Below w.heap.size w w' := by
  by_cases hv : vd m c = true
  · obtain ⟨k, x, rfl, rfl, hm, hx⟩ := vd_spec hv
    by_cases hw : l.length % (k / 8) = 0
    · rw [scR, scE, if_pos ⟨hv, hw⟩, if_pos ⟨hv, hw⟩, Int.toNat_natCast, Int.toNat_natCast]
      rcases hm with rfl | rfl
      · exact rscale8 x l hx hl w
      · exact rscale16 x l hx hw hl w
    · rw [scR, scE, if_neg (fun h => hw h.2), if_neg (fun h => hw h.2)]
      have HV := hideIt (fun W => rvalid_any k x W)
      rw [hv] at HV
      have hsz := str_size l
      rcases hm with rfl | rfl
      · omega
      · have hr2 := rem2_one 3 l.length (by omega)
        clear hv hw hx hl
        generalize str l = s at *
        generalize l.length = n at *
        change Hid (∀ W, Calls Tryd.prog 47 #[.int .i64 16, .int .i64 (x : Int)] W fun e w' => e = .returned (.bool true) ∧ W = w') at HV
        show Calls Tryd.prog 64 #[.int .i64 16, .int .i64 (x : Int), .string s] w _
        go_enter Tryd.func64, Tryd.ntmps64
        go_wp2_with (go_at_call 47; refine (HV.out _).mono ?_; rintro e w' ⟨rfl, rfl⟩)
        go_ret2
        exact ⟨rfl, Below.refl _ _⟩
  · rw [scR, scE, if_neg (fun h => hv h.1), if_neg (fun h => hv h.1)]
    have HV := hideIt (fun W => rvalid_any m c W)
    rw [Bool.eq_false_iff.2 hv] at HV
    clear hv hl
    generalize str l = s at *
    go_enter Tryd.func64, Tryd.ntmps64
    go_wp2_with (go_at_call 47; refine (HV.out _).mono ?_; rintro e w' ⟨rfl, rfl⟩)
    go_ret2
    exact ⟨rfl, Below.refl _ _⟩

/-- Are the first j coefficients and units good? -/
def GdK (m : Int) (cs : List Int) (us : List (List UInt8)) (j : Nat) : Prop := (∀ c ∈ cs.take j, vd m c = true) ∧ (∀ u ∈ us.take j, u.length = ul us) ∧ (0 < j → ul us % (m.toNat / 8) = 0)
theorem prs_mem (cs : List Int) (us : List (List UInt8)) (j : Nat) (p : Nat × List UInt8) (h : p ∈ (prs cs us).take j) : p.2 ∈ us.take j := by
  unfold prs at h
  rw [List.zip, List.take_zipWith] at h
  exact (List.of_mem_zip (show (p.1, p.2) ∈ ((cs.map Int.toNat).take j).zip (us.take j) from h)).2
theorem cmbK_lenK {m : Int} (cs : List Int) (us : List (List UInt8)) (h : cs.length = us.length) (j : Nat) (hj : j ≤ us.length) (hg : GdK m cs us j) : (cmbK m.toNat cs us j).length = ul us := by
  rcases Nat.eq_zero_or_pos j with rfl | h0
  · rw [cmbK_zero, List.length_replicate]
  · have hc : cs[0]'(by omega) ∈ cs.take j := by
      have h3 := List.getElem_mem (l := cs.take j) (n := 0) (by rw [List.length_take]; omega)
      rwa [List.getElem_take] at h3
    obtain ⟨k, x, rfl, _, hm, _⟩ := vd_spec (hg.1 _ hc)
    unfold cmbK
    rw [Int.toNat_natCast]
    have hw := hg.2.2 h0
    rw [Int.toNat_natCast] at hw
    rw [cmb_len hm _ _ (by unfold whl; rw [List.length_replicate]; exact hw) (fun p hp => by
      rw [List.length_replicate]
      exact hg.2.1 p.2 (prs_mem cs us j p hp)), List.length_replicate]
theorem GdK_next {m : Int} {cs : List Int} {us : List (List UInt8)} {j : Nat} (hg : GdK m cs us j) (h1 : j < cs.length) (h2 : j < us.length) (hv : vd m cs[j] = true) (hl : us[j].length = ul us) (hw : us[j].length % (m.toNat / 8) = 0) : GdK m cs us (j + 1) := by
  refine ⟨?_, ?_, fun _ => by rw [← hl]; exact hw⟩
  · rw [take_snoc cs j h1]
    intro c hc
    rcases List.mem_append.1 hc with h | h
    · exact hg.1 c h
    · rw [List.mem_singleton] at h; rw [h]; exact hv
  · rw [take_snoc us j h2]
    intro c hc
    rcases List.mem_append.1 hc with h | h
    · exact hg.2.1 c h
    · rw [List.mem_singleton] at h; rw [h]; exact hl
theorem GdK_all {m : Int} {cs : List Int} {us : List (List UInt8)} (h : cs.length = us.length) (h0 : 0 < us.length) (hg : GdK m cs us us.length) : Gd m cs us := by
  obtain ⟨a, b, c⟩ := hg
  rw [List.take_of_length_le (by omega)] at a
  rw [List.take_of_length_le (by omega)] at b
  exact ⟨by omega, h, a, b, c h0⟩

set_option maxHeartbeats 1000000 in
set_option maxRecDepth 100000 in
theorem rcombine_any (m : Int) (A : Option Addr) (ca : Nat) (cs : List Int) (D : Option Addr) (cd : Nat) (us : List (List UInt8)) (w : World) (hl : cs.length ≤ 100000) (hlu : ∀ u ∈ us, u.length ≤ 100000)
    (hc : Sl w w.heap.size A 1 cs.length (cs.map iv)) (hu : Sl w w.heap.size D 1 us.length (us.map sv)) :
    Calls Tryd.prog 44 #[.int .i64 m, .slice A cs.length ca, .slice D us.length cd] w fun e w' => e = .returned (.tuple #[.string (str (cbS m cs us)), .int .i64 (cbE m cs us)]) ∧ Below w.heap.size w w' := by
  by_cases h0 : cs.length = 0
  · rw [cbS, cbE, if_neg (fun h => by have := h.1; omega), if_neg (fun h => by have := h.1; omega)]
    have hq := int_eqlT 3 (a := (cs.length : Int)) (b := 0) (by omega)
    clear hc hu hl hlu h0
    generalize cs.length = n at *
    generalize us.length = k at *
    go_enter Tryd.func44, Tryd.ntmps44
    go_wp2_with fail
    go_ret2
    exact ⟨rfl, Below.refl _ _⟩
  have hq := int_eqlF 3 (a := (cs.length : Int)) (b := 0) (by omega)
  by_cases h1 : cs.length = us.length
  · have hq2 := neqF 3 us.length
    have h2 : 0 < us.length := by omega
    obtain ⟨bc, oc, rfl, hbc, hcc⟩ := hc.nums (by omega)
    obtain ⟨bu, ou, rfl, hbu, hcu⟩ := hu.strs h2
    rw [h1] at hq hl ⊢
    obtain ⟨i0, hi, hz0, hz1, hz2⟩ := info_parts (show (Tryd.prog.info? 5).map (fun i => (i.zero, i.size, i.bytes)) = some (some (Value.int .u8 0), 1, 1) by kernel_rfl)
    have HI0 := hideIt hi
    have HZ0 := hideIt hz0
    have HZ1 := hideIt hz1
    have HZ2 := hideIt hz2
    have HCC := hideIt hcc
    have HCU := hideIt hcu
    have HBC := hideIt hbc
    have HBU := hideIt hbu
    have HN := hideIt h1
    have HL := hideIt hl
    have HLU := hideIt hlu
    have hcell : w.cell? ⟨bu, ou, none⟩ = some (.string (str us[0])) := hcu 0 h2
    have hsz0 := str_size us[0]
    rw [ul_zero us h2] at hsz0
    have HQ1 := hideIt (show ul us ≤ 100000 by rw [← ul_zero us h2]; exact hlu _ (List.getElem_mem h2))
    generalize str us[0] = s0 at *
    obtain ⟨n, hn⟩ : ∃ n, n = us.length := ⟨_, rfl⟩
    have hn0 : (0 : Int) < (n : Int) := by omega
    rw [← hn] at hq hq2 ⊢
    have HNN := hideIt hn
    obtain ⟨q, hq3⟩ : ∃ q, q = ul us := ⟨_, rfl⟩
    rw [← hq3] at hsz0
    have HQ := hideIt hq3
    obtain ⟨z, hz⟩ : ∃ z, z = str (cbS m cs us) := ⟨_, rfl⟩
    obtain ⟨ze, hze⟩ : ∃ ze, ze = cbE m cs us := ⟨_, rfl⟩
    rw [← hz, ← hze]
    have HBAD := hideIt (show ¬ Gd m cs us → z = str [] ∧ ze = 1 from fun h => by rw [hz, hze, cbS, cbE, if_neg h, if_neg h]; exact ⟨rfl, rfl⟩)
    have HGOOD := hideIt (show Gd m cs us → z = str (cmbK m.toNat cs us n) ∧ ze = 0 from fun h => by rw [hz, hze, cbS, cbE, if_pos h, if_pos h, hn]; exact ⟨rfl, rfl⟩)
    clear hz hze hcc hcu hbc hbu h1 hl hlu hn h2 hc hu h0 hi hz0 hz1 hz2 hq3
    go_enter Tryd.func44, Tryd.ntmps44
    go_wp2_with ((with_reducible refine at_make ?_); refine wpList_make_full w rfl (.tmp 27) (.tmp 27) 85 rfl w.heap.size 5 i0 (.int .u8 0) 1 Tryd.underlying85 HI0.out HZ0.out HZ1.out .i64 .i64 (q : Int) (q : Int) q rfl rfl rfl rfl (by rw [HZ2.out]; have := HQ1.out; have := HQ.out; omega) (by have := HQ1.out; have := HQ.out; unfold maxLen; omega) (Nat.le_refl _) ?_; intro w2 hown2 hgr2; rw [Nat.mul_one, show (madeCells (Value.int .u8 0).cells q).toList = List.replicate q (.int .u8 0) from toList_madeCells_one _ q, zeros_bv] at hown2; have HB2 := hideIt ((Below.refl w.heap.size w).grown hgr2 (Nat.le_refl _) (by simp)); have hcs := conv_own (by rw [List.length_replicate]) hown2; clear hown2 hgr2)
    clear hcell hsz0 hcs
    go_loopg [8, 9] n (fun gg s8 s9 wr => ∃ j : Nat, j + gg = n ∧ s8 = .string (str (cmbK m.toNat cs us j)) ∧ s9 = .int .i64 (j : Int) ∧ Aside (Below w.heap.size w wr ∧ GdK m cs us j))
    case atStart => exact ⟨0, by omega, by rw [cmbK_zero, ← HQ.out], rfl, HB2.out, by simp, by simp, fun h => by omega⟩
    case round =>
      obtain ⟨j, hj, rfl, rfl, HA⟩ := hrel
      by_cases hlt : j < n
      · have hju : j < us.length := by rw [← HNN.out]; exact hlt
        have hjc : j < cs.length := by rw [HN.out]; exact hju
        have HC1 := hideIt (show ∀ W, Below wr.heap.size wr W → W.cell? ⟨bc, oc + j, none⟩ = some (.int .i64 cs[j]) from fun W hW => ((HA.out.1.trans (hW.mono HA.out.1.size)).cell (p := ⟨bc, oc + j, none⟩) HBC.out).trans (HCC.out j hjc))
        have HC2 := hideIt (show ∀ W, Below wr.heap.size wr W → W.cell? ⟨bu, ou + j, none⟩ = some (.string (str us[j])) from fun W hW => ((HA.out.1.trans (hW.mono HA.out.1.size)).cell (p := ⟨bu, ou + j, none⟩) HBU.out).trans (HCU.out j hju))
        have hnx := cmbK_next m.toNat cs us HN.out j hju
        have hlen := cmbK_lenK cs us HN.out j (by omega) HA.out.2
        have hlu := HLU.out us[j] (List.getElem_mem hju)
        have HS := hideIt (fun W (hW : Below wr.heap.size wr W) => rscale_any m cs[j] us[j] hlu W)
        have HX := hideIt (fun W => rxor_any (cmbK m.toNat cs us j) (scR m cs[j] us[j]) (by rw [hlen]; exact HQ1.out) W)
        have hinc := inc_c 3 j (by have := HL.out; have := HNN.out; omega)
        have hji : (j : Int) < (n : Int) := by omega
        by_cases hok : vd m cs[j] = true ∧ us[j].length % (m.toNat / 8) = 0
        · rw [scR, scE, if_pos hok, if_pos hok] at HS
          rw [scR, if_pos hok] at HX
          have hsl : (sc m.toNat cs[j].toNat us[j]).length = us[j].length := by
            obtain ⟨k, x, hk, _, hm, _⟩ := vd_spec hok.1
            rw [hk, Int.toNat_natCast] at hok ⊢
            exact sc_len hm _ _ hok.2
          by_cases hle : us[j].length = ul us
          · rw [xrS, xrE, if_pos (by rw [hlen, hsl, hle]), if_pos (by rw [hlen, hsl, hle]), ← hnx] at HX
            have HG := hideIt (GdK_next HA.out.2 hjc hju hok.1 hle hok.2)
            clear hsl hok hle hnx hlen hlu
            obtain ⟨o2, ho2⟩ : ∃ o2, o2 = str (cmbK m.toNat cs us (j + 1)) := ⟨_, rfl⟩
            rw [← ho2] at HX
            have HO2 := hideIt ho2
            clear ho2
            generalize str (sc m.toNat cs[j].toNat us[j]) = x at *
            generalize str (cmbK m.toNat cs us j) = o1 at *
            generalize str us[j] = su at *
            generalize cs[j] = c at *
            clear hju hjc
            go_wp2_with fail
            refine wp_region_quiet_below (by kernel_rfl) (by kernel_rfl) (Below.refl wr.heap.size wr) ?_
            try simp only [Act.put]
            try simp only [List.setIfInBounds_toArray]
            try simp only [List.set_cons_succ]
            try simp only [List.set_cons_zero]
            go_big_quiet_step ((first | (intro _; rfl) | (intro _; exact ⟨rfl, rfl⟩)))
            go_big_quiet_step ((first | (intro _; rfl) | (intro _; exact ⟨rfl, rfl⟩)))
            go_big_quiet_step ((first | (intro _; rfl) | (intro _; exact ⟨rfl, rfl⟩)))
            go_big_quiet_step ((first | (intro _; rfl) | (intro _; exact ⟨rfl, rfl⟩)))
            go_big_quiet_want
            refine quiet_run (.int .i64 c) (fun W hW => by simp [execOp, HC1.out W hW, Result.andThen, go_sem]) ?_
            go_big_quiet_on
            try simp only [Act.put]
            try simp only [List.setIfInBounds_toArray]
            try simp only [List.set_cons_succ]
            try simp only [List.set_cons_zero]
            go_big_quiet_step ((first | (intro _; rfl) | (intro _; exact ⟨rfl, rfl⟩)))
            go_big_quiet_step ((first | (intro _; rfl) | (intro _; exact ⟨rfl, rfl⟩)))
            go_big_quiet_step ((first | (intro _; rfl) | (intro _; exact ⟨rfl, rfl⟩)))
            go_big_quiet_want
            refine quiet_run (.string su) (fun W hW => by simp [execOp, HC2.out W hW, Result.andThen, go_sem]) ?_
            go_big_quiet_on
            try simp only [Act.put]
            try simp only [List.setIfInBounds_toArray]
            try simp only [List.set_cons_succ]
            try simp only [List.set_cons_zero]
            go_big_quiet_step ((intro hb; refine (HS.out _ hb).mono ?_; rintro x wc ⟨rfl, hb2⟩; exact ⟨rfl, hb.trans (hb2.mono hb.size)⟩))
            repeat (go_big_quiet_step ((first | (intro _; rfl) | (intro _; exact ⟨rfl, rfl⟩))))
            refine wpQuiet_nil ?_
            intro wc BC
            go_wp2_with (go_at_call 37; refine (HX.out _).mono ?_; rintro e w5 ⟨rfl, hb⟩; have HB5 := hideIt hb; clear hb)
            go_roundg (gk - 1)
            case measure => omega
            case rel => exact ⟨j + 1, by omega, by rw [HO2.out], by go_num, (HA.out.1.trans (BC.mono HA.out.1.size)).trans (HB5.out.mono (by have := HA.out.1.size; have := BC.size; omega)), HG.out⟩
          · rw [xrS, xrE, if_neg (fun h => hle (by rw [← hsl, ← h, hlen])), if_neg (fun h => hle (by rw [← hsl, ← h, hlen]))] at HX
            have HE := hideIt (HBAD.out (fun h => hle (h.2.2.2.1 _ (List.getElem_mem hju))))
            clear hsl hok hle hnx hlen hlu
            generalize str (sc m.toNat cs[j].toNat us[j]) = x at *
            generalize str (cmbK m.toNat cs us j) = o1 at *
            generalize str us[j] = su at *
            generalize cs[j] = c at *
            clear hju hjc
            go_wp2_with fail
            refine wp_region_quiet_below (by kernel_rfl) (by kernel_rfl) (Below.refl wr.heap.size wr) ?_
            try simp only [Act.put]
            try simp only [List.setIfInBounds_toArray]
            try simp only [List.set_cons_succ]
            try simp only [List.set_cons_zero]
            go_big_quiet_step ((first | (intro _; rfl) | (intro _; exact ⟨rfl, rfl⟩)))
            go_big_quiet_step ((first | (intro _; rfl) | (intro _; exact ⟨rfl, rfl⟩)))
            go_big_quiet_step ((first | (intro _; rfl) | (intro _; exact ⟨rfl, rfl⟩)))
            go_big_quiet_step ((first | (intro _; rfl) | (intro _; exact ⟨rfl, rfl⟩)))
            go_big_quiet_want
            refine quiet_run (.int .i64 c) (fun W hW => by simp [execOp, HC1.out W hW, Result.andThen, go_sem]) ?_
            go_big_quiet_on
            try simp only [Act.put]
            try simp only [List.setIfInBounds_toArray]
            try simp only [List.set_cons_succ]
            try simp only [List.set_cons_zero]
            go_big_quiet_step ((first | (intro _; rfl) | (intro _; exact ⟨rfl, rfl⟩)))
            go_big_quiet_step ((first | (intro _; rfl) | (intro _; exact ⟨rfl, rfl⟩)))
            go_big_quiet_step ((first | (intro _; rfl) | (intro _; exact ⟨rfl, rfl⟩)))
            go_big_quiet_want
            refine quiet_run (.string su) (fun W hW => by simp [execOp, HC2.out W hW, Result.andThen, go_sem]) ?_
            go_big_quiet_on
            try simp only [Act.put]
            try simp only [List.setIfInBounds_toArray]
            try simp only [List.set_cons_succ]
            try simp only [List.set_cons_zero]
            go_big_quiet_step ((intro hb; refine (HS.out _ hb).mono ?_; rintro x wc ⟨rfl, hb2⟩; exact ⟨rfl, hb.trans (hb2.mono hb.size)⟩))
            repeat (go_big_quiet_step ((first | (intro _; rfl) | (intro _; exact ⟨rfl, rfl⟩))))
            refine wpQuiet_nil ?_
            intro wc BC
            go_wp2_with (go_at_call 37; refine (HX.out _).mono ?_; rintro e w5 ⟨rfl, hb⟩; have HB5 := hideIt hb; clear hb)
            go_ret2
            exact ⟨by rw [HE.out.1, HE.out.2]; rfl, (HA.out.1.trans (BC.mono HA.out.1.size)).trans (HB5.out.mono (by have := HA.out.1.size; have := BC.size; omega))⟩
        · rw [scR, scE, if_neg hok, if_neg hok] at HS
          have HE := hideIt (HBAD.out (fun h => hok ⟨h.2.2.1 _ (List.getElem_mem hjc), by rw [h.2.2.2.1 _ (List.getElem_mem hju)]; exact h.2.2.2.2⟩))
          clear hok hnx hlen hlu HX
          generalize str (cmbK m.toNat cs us j) = o1 at *
          generalize str us[j] = su at *
          generalize cs[j] = c at *
          clear hju hjc
          go_wp2_with fail
          refine wp_region_quiet_below (by kernel_rfl) (by kernel_rfl) (Below.refl wr.heap.size wr) ?_
          try simp only [Act.put]
          try simp only [List.setIfInBounds_toArray]
          try simp only [List.set_cons_succ]
          try simp only [List.set_cons_zero]
          go_big_quiet_step ((first | (intro _; rfl) | (intro _; exact ⟨rfl, rfl⟩)))
          go_big_quiet_step ((first | (intro _; rfl) | (intro _; exact ⟨rfl, rfl⟩)))
          go_big_quiet_step ((first | (intro _; rfl) | (intro _; exact ⟨rfl, rfl⟩)))
          go_big_quiet_step ((first | (intro _; rfl) | (intro _; exact ⟨rfl, rfl⟩)))
          go_big_quiet_want
          refine quiet_run (.int .i64 c) (fun W hW => by simp [execOp, HC1.out W hW, Result.andThen, go_sem]) ?_
          go_big_quiet_on
          try simp only [Act.put]
          try simp only [List.setIfInBounds_toArray]
          try simp only [List.set_cons_succ]
          try simp only [List.set_cons_zero]
          go_big_quiet_step ((first | (intro _; rfl) | (intro _; exact ⟨rfl, rfl⟩)))
          go_big_quiet_step ((first | (intro _; rfl) | (intro _; exact ⟨rfl, rfl⟩)))
          go_big_quiet_step ((first | (intro _; rfl) | (intro _; exact ⟨rfl, rfl⟩)))
          go_big_quiet_want
          refine quiet_run (.string su) (fun W hW => by simp [execOp, HC2.out W hW, Result.andThen, go_sem]) ?_
          go_big_quiet_on
          try simp only [Act.put]
          try simp only [List.setIfInBounds_toArray]
          try simp only [List.set_cons_succ]
          try simp only [List.set_cons_zero]
          go_big_quiet_step ((intro hb; refine (HS.out _ hb).mono ?_; rintro x wc ⟨rfl, hb2⟩; exact ⟨rfl, hb.trans (hb2.mono hb.size)⟩))
          repeat (go_big_quiet_step ((first | (intro _; rfl) | (intro _; exact ⟨rfl, rfl⟩))))
          refine wpQuiet_nil ?_
          intro wc BC
          go_wp2_with fail
          go_ret2
          exact ⟨by rw [HE.out.1, HE.out.2]; rfl, HA.out.1.trans (BC.mono HA.out.1.size)⟩
      · obtain rfl : j = n := by omega
        have hji : ¬ (j : Int) < (j : Int) := by omega
        have HE := hideIt (HGOOD.out (GdK_all HN.out (by rw [← HNN.out]; omega) (by rw [← HNN.out]; exact HA.out.2)))
        generalize str (cmbK m.toNat cs us j) = o1 at *
        go_wp2_with fail
        go_ret2
        exact ⟨by rw [HE.out.1, HE.out.2]; rfl, HA.out.1⟩
  · have hq2 := neqT 3 h1
    rw [cbS, cbE, if_neg (fun h => h1 h.2.1), if_neg (fun h => h1 h.2.1)]
    clear hc hu hl hlu h0 h1
    generalize cs.length = n at *
    generalize us.length = k at *
    go_enter Tryd.func44, Tryd.ntmps44
    go_wp2_with fail
    go_ret2
    exact ⟨rfl, Below.refl _ _⟩

end

end Go.Proofs.YtpjgmekpnlpjaaaDoor
