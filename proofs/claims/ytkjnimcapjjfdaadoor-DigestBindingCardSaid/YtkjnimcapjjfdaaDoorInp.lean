/-
  The hash inputs of a proof, walked: the reference's Inputs.
-/
import Derived.Test.YtkjnimcapjjfdaaDoorIns
import Derived.Test.YtkjnimcapjjfdaaDoorOnce
import Derived.Test.YtkjnimcapjjfdaaDoorRSub
import Derived.Test.YtkjnimcapjjfdaaDoorVerify
namespace Go.Proofs.YtkjnimcapjjfdaaDoor
open Go.RowKit
set_option linter.unusedVariables false

theorem sl_at {w : World} {B n : Nat} {A : Option Addr} {xs : List Value} (h : Sl w B A 1 n xs) {k : Nat} {u : Value} (hk : xs[k]? = some u) : ∃ b o, A = some ⟨b, o, none⟩ ∧ b < B ∧ w.cell? ⟨b, o + k, none⟩ = some u := by
  have hp : 0 < xs.length := by have := (List.getElem?_eq_some_iff.1 hk).1; omega
  obtain ⟨b, o, h1, h2, h3⟩ := h.2 hp
  exact ⟨b, o, h1, h2, h3 k u hk⟩
theorem Msgs.opened {W : World} {base q : Nat} {v : Value} {ms : List (List UInt8)} {m : List UInt8} (h : Msgs W base v ms) (hms : ms.length = q + 1) (hl : ms[q]? = some m) :
    ∃ xs b1 o1 c1 Au cu, v = .slice (some ⟨b1, o1, none⟩) (q + 1) c1 ∧ W.ownsRow base 22 1 (.slice (some ⟨b1, o1, none⟩) (q + 1) c1) (q + 1) xs ∧
      (∀ (k : Nat) (u : Value) (m : List UInt8), xs[k]? = some u → ms[k]? = some m → W.ownsRow base 5 1 u m.length (m.map bv)) ∧ W.ownsRow base 5 1 (.slice Au m.length cu) m.length (m.map bv) ∧
      b1 < W.heap.size ∧ W.cell? ⟨b1, o1 + q, none⟩ = some (.slice Au m.length cu) ∧ q + 1 ≤ c1 := by
  obtain ⟨xs, hown, hel⟩ := h
  rw [hms] at hown
  obtain ⟨A1, c1, rfl, hc11, hc12⟩ := own_form hown
  have hxq : q < xs.length := by have := hown.1; omega
  obtain ⟨u, hu⟩ : ∃ u, xs[q]? = some u := ⟨_, List.getElem?_eq_getElem hxq⟩
  have hue := hel q u m hu hl
  obtain ⟨Au, cu, rfl, hcu1, hcu2⟩ := own_form hue
  obtain ⟨b1, o1, rfl, hb1, hcu⟩ := sl_at (Sl.of_own hown) hu
  exact ⟨xs, b1, o1, c1, Au, cu, rfl, hown, hel, hue, hb1, hcu, hc11⟩

set_option maxHeartbeats 800000 in
set_option maxRecDepth 100000 in
theorem ins_one (leaf : List UInt8) (hl : leaf.length = 16) (A : Option Addr) (p c : Nat) (w : World) (hT : Tab w 0) (hp : p ≤ 1000000000) :
    Calls Tryd.prog 28 #[.int .i64 1, .int .i64 0, dv leaf, .slice A p c] w fun e w' => ∃ v, e = .returned (.tuple #[v, .bool (decide (p = 0))]) ∧ Msgs w' w.heap.size v [leafIn leaf] ∧ Below w.heap.size w w' := by
  have HL := hideIt hl
  have HK0 := hideIt (Blk.new w 30 (leaf.map bv))
  have HB0 := hideIt (below_new w (.cells (leaf.map bv).toArray 30))
  have HTX := hideIt (fun (W : World) => text_any leaf hl W)
  have HIN : Hid (∀ (W : World) (B : Nat) (A : Option Addr), Sl W B A 1 1 [Value.string (str leaf)] → B ≤ W.heap.size → Calls Tryd.prog 37 #[.int .i64 1, .slice A 1 1] W fun e w' => ∃ v', e = .returned v' ∧ w'.ownsRow W.heap.size 5 1 v' (leafIn leaf).length ((leafIn leaf).map bv) ∧ Below W.heap.size W w') := hideIt (fun W B A h hB => input_any A B 1 1 [str leaf] W h (by simp) (fun s hs => by rw [List.mem_singleton] at hs; subst hs; rw [str_size, hl]; omega) hB)
  have hpe : ((p : Int) == 0) = decide (p = 0) := by
    by_cases h : p = 0
    · subst h; rfl
    · rw [decide_eq_false h, beq_eq_false_iff_ne]; omega
  generalize leafIn leaf = z at *
  obtain ⟨q, hq⟩ : ∃ q, q = decide (p = 0) := ⟨_, rfl⟩
  rw [← hq] at hpe ⊢
  clear hl hT hq
  go_enter Tryd.func28, Tryd.ntmps28
  go_wp2_with (first
    | ((with_reducible refine at_load ?_); refine wpList_get rfl 30 (.tmp 6) rfl w.heap.size (leaf.map bv) 30 (.array 16 5) rfl HK0.out (by kernel_rfl) rfl (isize16 _ HL.out) ?_)
    | (go_at_call 52; refine (HTX.out _).mono ?_; rintro e w1 ⟨rfl, hb1⟩; have HB1 := hideIt (HB0.out.trans (hb1.mono HB0.out.size)); clear hb1)
    | (go_at_call 37; refine (HIN.out _ (w1.heap.size + 1) _ (sl_one w1 9 (.string (str leaf))) (by simp)).mono ?_; rintro e w2 ⟨v2, rfl, ho2, hb2⟩; obtain ⟨A2, c2, rfl, _, _⟩ := own_form ho2; have HO2 := hideIt ho2; have HB2 := hideIt ((HB1.out.alloc HB1.out.size _).trans (hb2.mono (by have := HB1.out.size; simp; omega))); clear ho2 hb2))
  go_ret2
  exact ⟨_, rfl, Msgs.one (own_low HO2.out (by have := HB1.out.size; simp; omega)) HB2.out.size, HB2.out.alloc HB2.out.size _⟩

set_option maxHeartbeats 800000 in
set_option maxRecDepth 100000 in
theorem ins_short (leaf : List UInt8) (A : Option Addr) (n i c : Nat) (w : World) (hn : n ≤ 9223372036854775807) (h2 : 2 ≤ n) (hi : i < n) :
    Calls Tryd.prog 28 #[.int .i64 (n : Int), .int .i64 (i : Int), dv leaf, .slice A 0 c] w fun e w' => ∃ v, e = .returned (.tuple #[v, .bool false]) ∧ Below w.heap.size w w' := by
  have HB0 := hideIt (below_new w (.cells (leaf.map bv).toArray 30))
  have t1 : decide ((i : Int) < 0) = false := by simp
  have t2 : decide ((n : Int) ≤ (i : Int)) = false := by simp; omega
  have t3 : ((n : Int) == 1) = false := by rw [beq_eq_false_iff_ne]; omega
  go_enter Tryd.func28, Tryd.ntmps28
  go_wp2
  go_ret2
  exact ⟨_, rfl, HB0.out⟩

set_option maxHeartbeats 800000 in
set_option maxRecDepth 100000 in
theorem ins_out (leaf : List UInt8) (A : Option Addr) (n i : Int) (p c : Nat) (w : World) (h : i < 0 ∨ n ≤ i) :
    Calls Tryd.prog 28 #[.int .i64 n, .int .i64 i, dv leaf, .slice A p c] w fun e w' => ∃ v, e = .returned (.tuple #[v, .bool false]) ∧ Below w.heap.size w w' := by
  have HB0 := hideIt (below_new w (.cells (leaf.map bv).toArray 30))
  by_cases h0 : i < 0
  · clear h
    go_enter Tryd.func28, Tryd.ntmps28
    go_wp2
    go_ret2
    first | exact ⟨_, rfl, HB0.out⟩ | exact ⟨_, HB0.out⟩
  · have h1 : n ≤ i := by omega
    have t1 : decide (i < 0) = false := by simpa using h0
    have t2 : decide (n ≤ i) = true := by simpa using h1
    clear h
    go_enter Tryd.func28, Tryd.ntmps28
    go_wp2
    go_ret2
    first | exact ⟨_, rfl, HB0.out⟩ | exact ⟨⟨_, rfl⟩, HB0.out⟩

set_option maxHeartbeats 1600000 in
set_option maxRecDepth 100000 in
theorem ins_left (leaf : List UInt8) (hl : leaf.length = 16) (A : Option Addr) (B n i p c : Nat) (ds : List (List UInt8)) (w : World) (hn : n ≤ 9223372036854775807) (h2 : 2 ≤ n) (hi : i < splitK n) (hp : p + 1 ≤ 1000000000) (hD : Ds w B A ds.length ds) (hpd : p + 1 ≤ ds.length) (hpc : p + 1 ≤ c) (hB : B ≤ w.heap.size) (hT : Tab w 0)
    (ms : List (List UInt8)) (m r : List UInt8) (q : Nat) (hms : ms.length = q + 1) (hlast : ms[q]? = some m) (hr : cutD m = r) (hm : m.length ≤ 100) (hq : q ≤ 1000000000) (ok : Bool)
    (hrec : ∀ W, Below w.heap.size w W → Calls Tryd.prog 28 #[.int .i64 (splitK n : Int), .int .i64 (i : Int), dv leaf, .slice A p c] W fun e w' => ∃ v, e = .returned (.tuple #[v, .bool ok]) ∧ (ok = true → Msgs w' W.heap.size v ms) ∧ Below W.heap.size W w') :
    Calls Tryd.prog 28 #[.int .i64 (n : Int), .int .i64 (i : Int), dv leaf, .slice A (p + 1) c] w fun e w' => ∃ v, e = .returned (.tuple #[v, .bool ok]) ∧ (ok = true → Msgs w' w.heap.size v (ms ++ [nodeIn r (ds.getD p [])])) ∧ Below w.heap.size w w' := by
  obtain ⟨i0, hi0, hz0, hz1, hz2⟩ := info_parts Tryd.infoBytes
  obtain ⟨w0, hw0⟩ : ∃ W, W = w.alloc (.cells (leaf.map bv).toArray 30) := ⟨_, rfl⟩
  have HW0 := hideIt hw0
  have hbel : Below w.heap.size w w0 := by rw [hw0]; exact below_new w _
  have hsz0 : w0.heap.size = w.heap.size + 1 := by rw [hw0]; simp
  have hk0 : Blk w0 w.heap.size 30 (leaf.map bv) := by rw [hw0]; exact Blk.new w _ _
  have HL := hideIt hl
  clear hw0
  obtain ⟨b, off, hAe, hbB, hc, hdl⟩ := ds_load (hD.below hbel hB) (k := p) (by omega)
  have hhi := fun W => run_hi A (n := p + 1) (cap := c) (k := p) (by omega) W
  rw [hAe] at hhi hrec ⊢
  clear hAe
  obtain ⟨d, hd⟩ : ∃ d, d = ds.getD p [] := ⟨_, rfl⟩
  rw [← hd] at hc hdl ⊢
  have t1 : decide ((i : Int) < 0) = false := by simp
  have t2 : decide ((n : Int) ≤ (i : Int)) = false := by have := splitK_spec n h2; simp; omega
  have t3 : ((n : Int) == 1) = false := by rw [beq_eq_false_iff_ne]; omega
  have t4 : ((p : Int) + 1 == 0) = false := by rw [beq_eq_false_iff_ne]; omega
  have HSP := hideIt (fun W => refSplit_any n h2 hn W)
  have hsp := splitK_spec n h2
  obtain ⟨k, hke⟩ : ∃ k, k = splitK n := ⟨_, rfl⟩
  rw [← hke] at HSP hi hrec hsp
  obtain ⟨s1, s2, s3⟩ := hsp
  have hpp : (p : Int) < (p : Int) + 1 := by omega
  have htest : decide ((i : Int) < (k : Int)) = true := by simp; omega
  have HREC := hideIt hrec
  have HC := hideIt hc
  have HDL := hideIt hdl
  have HT := hideIt hT
  have hrl : r.length = 16 := by rw [← hr]; exact cutD_len _
  have HSH := hideIt (fun (W : World) {base : Nat} {v : Value} (h : W.ownsRow base 5 1 v m.length (m.map bv)) (h2 : Tab W 0) => short_own h (by omega) h2)
  rw [hr] at HSH
  have HTR := hideIt (fun (W : World) => text_any r hrl W)
  have HTD := hideIt (fun (W : World) => text_any d hdl W)
  have HIN : Hid (∀ (W : World) (B : Nat) (A : Option Addr), Sl W B A 1 2 [Value.string (str r), .string (str d)] → B ≤ W.heap.size → Calls Tryd.prog 37 #[.int .i64 2, .slice A 2 2] W fun e w' => ∃ v', e = .returned v' ∧ w'.ownsRow W.heap.size 5 1 v' (nodeIn r d).length ((nodeIn r d).map bv) ∧ Below W.heap.size W w') := hideIt (fun W B A h hB => input_any A B 2 2 [str r, str d] W h (by simp) (fun s hs => by
    simp only [List.mem_cons, List.mem_nil_iff, or_false] at hs
    rcases hs with rfl | rfl
    · rw [str_size]; omega
    · rw [str_size]; omega) hB)
  generalize nodeIn r d = z at *
  have HMS := hideIt hms
  have HLA := hideIt hlast
  clear hd hc hdl hT hD hrec hke hl hr hms hlast
  have HZ : Hid (Blk (w0.alloc (.cells (zeroD.map bv).toArray 30)) (w.heap.size + 1) 30 (zeroD.map bv)) := hsz0 ▸ Blk.new w0 30 (zeroD.map bv)
  have HO0 := hideIt (hk0.alloc (.cells (zeroD.map bv).toArray 30))
  have HBZ := hideIt (hbel.alloc hbel.size (.cells (zeroD.map bv).toArray 30))
  have hm100 := hm
  rw [zero_cells, HW0.out] at HZ HO0 HBZ
  clear hsz0 hbel hk0
  cases ok with
  | false =>
    go_enter Tryd.func28, Tryd.ntmps28
    go_wp2_with (first
      | ((with_reducible refine at_load ?_); refine wpList_load_mid rfl 30 (.tmp 41) rfl b _ rfl (d.map bv) (.array 16 5) (range16 (by have := HC.out; rw [HW0.out] at this; exact this)) (by kernel_rfl) rfl (isize16 _ HDL.out) ?_)
      | ((with_reducible refine at_store ?_); refine wpList_put rfl 30 (.tmp 10) (.tmp 42) rfl (w.heap.size + 1) (d.map bv) _ _ rfl rfl HZ.out (by rw [List.length_map, HDL.out]; kernel_rfl) (by rw [List.length_map, List.length_map, HDL.out]; rfl) (bv_one _) ?_; intro w1 ht hb; have HO1 := hideIt (ht.blk HO0.out (by omega)); have HB1 := hideIt (ht.below HBZ.out (by omega)); clear ht hb)
      | (go_at_call 40; refine (HSP.out _).mono ?_; rintro e w' ⟨rfl, rfl⟩)
      | ((with_reducible refine at_load ?_); refine wpList_get rfl 30 (.tmp 6) rfl w.heap.size (leaf.map bv) 30 (.array 16 5) rfl HO1.out (by kernel_rfl) rfl (isize16 _ HL.out) ?_)
      | (go_at_call 28; refine (HREC.out _ HB1.out).mono ?_; rintro e w2 ⟨v1, rfl, _, hb⟩; have HB2 := hideIt (HB1.out.trans (hb.mono HB1.out.size)); clear hb))
    go_ret2
    exact ⟨_, rfl, fun h => (by cases h), HB2.out⟩
  | true =>
    go_enter Tryd.func28, Tryd.ntmps28
    go_wp2_with (first
      | ((with_reducible refine at_load ?_); refine wpList_load_mid rfl 30 (.tmp 41) rfl b _ rfl (d.map bv) (.array 16 5) (range16 (by have := HC.out; rw [HW0.out] at this; exact this)) (by kernel_rfl) rfl (isize16 _ HDL.out) ?_)
      | ((with_reducible refine at_store ?_); refine wpList_put rfl 30 (.tmp 10) (.tmp 42) rfl (w.heap.size + 1) (d.map bv) _ _ rfl rfl HZ.out (by rw [List.length_map, HDL.out]; kernel_rfl) (by rw [List.length_map, List.length_map, HDL.out]; rfl) (bv_one _) ?_; intro w1 ht hb; have HE1 := hideIt hb; have HO1 := hideIt (ht.blk HO0.out (by omega)); have HB1 := hideIt (ht.below HBZ.out (by omega)); clear ht hb)
      | (go_at_call 40; refine (HSP.out _).mono ?_; rintro e w' ⟨rfl, rfl⟩)
      | ((with_reducible refine at_load ?_); refine wpList_get rfl 30 (.tmp 6) rfl w.heap.size (leaf.map bv) 30 (.array 16 5) rfl HO1.out (by kernel_rfl) rfl (isize16 _ HL.out) ?_)
      | (go_at_call 28; refine (HREC.out _ HB1.out).mono ?_; go_loud (rintro e w2 ⟨v1, rfl, hmsg, hb⟩; have HMSG := hideIt (hmsg (by trivial)); have HB2 := hideIt (HB1.out.trans (hb.mono HB1.out.size)); have HE2 := hideIt (HE1.out.kept hb HE1.out.lt); have HS12 := hideIt hb.size; clear hmsg hb; obtain ⟨xs, b1, o1, c1, Au, cu, rfl, hown, hel, hue, hb1, hcu, hc11⟩ := HMSG.out.opened HMS.out HLA.out; have HU := hideIt hue; have HOWN := hideIt hown; have HEL := hideIt hel; clear hown hel hue)))
    have hq1 : (q : Int) < (q : Int) + 1 := by omega
    have HWR1 : Hid (IntKind.i64.wrap ((q : Int) + 1 - 1) = (q : Int)) := by rw [show (q : Int) + 1 - 1 = (q : Int) by omega]; exact IntWalk.i64_in _ (by omega)
    have HWR2 : Hid (IntKind.i64.wrap (q : Int) = (q : Int)) := IntWalk.i64_in _ (by omega)
    refine loads_begin_n 17 [(7, fun W' => W'.cell? ⟨b1, o1 + q, none⟩ = some (.slice Au m.length cu)), (10, fun W' => Blk W' (w.heap.size + 1) 30 (d.map bv))] rfl (by kernel_rfl) ?_
    refine wpAnyL_move (oi := ⟨some 63, _, _, _, _, _⟩) 0 ?_ rfl (by kernel_rfl) (by kernel_rfl) (by kernel_rfl) (by kernel_rfl) (fun _ _ _ h => h) (by kernel_rfl) ?_ (Hooks.add hcu (Hooks.add HE2.out (Hooks.nil _ _))) ?_
    rotate_left
    · intro W'; go_simp; first | done | with_reducible rfl
    try simp only [Act.put]
    try simp only [List.setIfInBounds_toArray]
    try simp only [List.set_cons_succ]
    try simp only [List.set_cons_zero]
    refine wpAnyL_move (oi := ⟨some 64, _, _, _, _, _⟩) 1 ?_ rfl (by kernel_rfl) (by kernel_rfl) (by kernel_rfl) (by kernel_rfl) (fun _ _ _ h => h) (by kernel_rfl) ?_ (Hooks.add hcu (Hooks.add HE2.out (Hooks.nil _ _))) ?_
    rotate_left
    · intro W'; go_simp; first | done | with_reducible rfl
    try simp only [Act.put]
    try simp only [List.setIfInBounds_toArray]
    try simp only [List.set_cons_succ]
    try simp only [List.set_cons_zero]
    refine wpAnyL_move (oi := ⟨some 65, _, _, _, _, _⟩) 2 ?_ rfl (by kernel_rfl) (by kernel_rfl) (by kernel_rfl) (by kernel_rfl) (fun _ _ _ h => h) (by kernel_rfl) ?_ (Hooks.add hcu (Hooks.add HE2.out (Hooks.nil _ _))) ?_
    rotate_left
    · intro W'; go_simp; first | done | with_reducible rfl
    try simp only [Act.put]
    try simp only [List.setIfInBounds_toArray]
    try simp only [List.set_cons_succ]
    try simp only [List.set_cons_zero]
    refine wpAnyL_move (oi := ⟨some 66, _, _, _, _, _⟩) 3 ?_ rfl (by kernel_rfl) (by kernel_rfl) (by kernel_rfl) (by kernel_rfl) (fun _ _ _ h => h) (by kernel_rfl) ?_ (Hooks.add hcu (Hooks.add HE2.out (Hooks.nil _ _))) ?_
    rotate_left
    · intro W'; go_simp; first | done | with_reducible rfl
    try simp only [Act.put]
    try simp only [List.setIfInBounds_toArray]
    try simp only [List.set_cons_succ]
    try simp only [List.set_cons_zero]
    refine wpAnyL_move (oi := ⟨some 67, _, _, _, _, _⟩) 4 ?_ rfl (by kernel_rfl) (by kernel_rfl) (by kernel_rfl) (by kernel_rfl) (fun _ _ _ h => h) (by kernel_rfl) ?_ (Hooks.add hcu (Hooks.add HE2.out (Hooks.nil _ _))) ?_
    rotate_left
    · intro W'; go_simp; first | done | with_reducible rfl
    try simp only [Act.put]
    try simp only [List.setIfInBounds_toArray]
    try simp only [List.set_cons_succ]
    try simp only [List.set_cons_zero]
    try simp only [HWR1.out]
    try simp only [HWR2.out]
    refine wpAnyL_move (oi := ⟨some 68, _, _, _, _, _⟩) 5 ?_ rfl (by kernel_rfl) (by kernel_rfl) (by kernel_rfl) (by kernel_rfl) (fun _ _ _ h => h) (by kernel_rfl) ?_ (Hooks.add hcu (Hooks.add HE2.out (Hooks.nil _ _))) ?_
    rotate_left
    · intro W'; go_simp; first | done | with_reducible rfl
    try simp only [Act.put]
    try simp only [List.setIfInBounds_toArray]
    try simp only [List.set_cons_succ]
    try simp only [List.set_cons_zero]
    refine wpAnyL_take (oi := ⟨some 69, _, _, _, _, _⟩) 6 7 (.slice Au m.length cu) _ rfl (by kernel_rfl) (by kernel_rfl) (by kernel_rfl) (by kernel_rfl) (by kernel_rfl) (by kernel_rfl) (.head _) (fun _ _ _ h => h) (by kernel_rfl) (fun W' hW' => by (try dsimp only at hW'); go_simp) (Hooks.add hcu (Hooks.add HE2.out (Hooks.nil _ _))) ?_
    try simp only [Act.put]
    try simp only [List.setIfInBounds_toArray]
    try simp only [List.set_cons_succ]
    try simp only [List.set_cons_zero]
    refine wpAnyL_take (oi := ⟨some 72, _, _, _, _, _⟩) 9 10 (.agg (d.map bv).toArray) _ rfl (by kernel_rfl) (by kernel_rfl) (by kernel_rfl) (by kernel_rfl) (by kernel_rfl) (by kernel_rfl) (.tail _ (.head _)) (fun _ _ _ h => h) (by kernel_rfl) (fun W' hW' => exec_load_blk rfl rfl (hW') (.array 16 5) (by kernel_rfl) rfl (isize16 _ HDL.out)) (Hooks.add hcu (Hooks.add HE2.out (Hooks.nil _ _))) ?_
    try simp only [Act.put]
    try simp only [List.setIfInBounds_toArray]
    try simp only [List.set_cons_succ]
    try simp only [List.set_cons_zero]
    refine wpAnyL_one 7 (by kernel_rfl) rfl (fun K hK => ?_)
    go_wp2_with (go_at_call 29; refine (HSH.out _ (own_kept HU.out ((Below.refl _ _).drew)) (HT.out.keep HB2.out.drew)).mono ?_; rintro e w3 ⟨rfl, hb⟩; have hb' : Below w2.heap.size w2 w3 := ((Below.refl _ _).drew).trans hb; have HN3 := hideIt hb'; have HE3 := hideIt (HE2.out.kept hb' HE2.out.lt); have HB3 := hideIt (HB2.out.trans (hb'.mono HB2.out.size)); clear hb hb')
    refine hK _ _ (Hooks.skip (by kernel_rfl) (Hooks.add HE3.out (Hooks.nil _ _))) ?_
    clear hK K
    refine wpAnyL_one 8 (by kernel_rfl) rfl (fun K hK => ?_)
    go_wp2_with (go_at_call 52; refine (HTR.out _).mono ?_; rintro e w4 ⟨rfl, hb⟩; have HN4 := hideIt (HN3.out.trans (hb.mono HN3.out.size)); have HE4 := hideIt (HE3.out.kept hb HE3.out.lt); have HB4 := hideIt (HB3.out.trans (hb.mono HB3.out.size)); clear hb)
    refine hK _ _ (Hooks.skip (by kernel_rfl) (Hooks.add HE4.out (Hooks.nil _ _))) ?_
    clear hK K
    refine loads_tail 10 (by kernel_rfl) (by kernel_rfl) (by kernel_rfl) (by kernel_rfl) ?_
    simp only [List.drop_succ_cons, List.drop_zero]
    go_wp2_with (first
      | (go_at_call 52; refine (HTD.out _).mono ?_; rintro e w5 ⟨rfl, hb⟩; have HN5 := hideIt (HN4.out.trans (hb.mono HN4.out.size)); have HB5 := hideIt (HB4.out.trans (hb.mono HB4.out.size)); clear hb)
      | (go_at_call 37; refine (HIN.out _ (w5.heap.size + 1) _ (sl_two w5 9 (.string (str r)) (.string (str d))) (by simp)).mono ?_; rintro e w6 ⟨v6, rfl, ho, hb⟩; obtain ⟨A6, c6, rfl, _, _⟩ := own_form ho; have HV6 := hideIt ho; have HN6 := hideIt ((HN5.out.alloc HN5.out.size _).trans (hb.mono (by have := HN5.out.size; simp; omega))); have HB6 := hideIt ((HB5.out.alloc HB5.out.size _).trans (hb.mono (by have := HB5.out.size; simp; omega))); clear ho hb)
      | ((with_reducible refine at_append ?_); refine wpList_app2 rfl (.tmp 63) (.tmp 76) 54 rfl w1.heap.size 22 i0 (.slice none 0 0) 1 24 Tryd.underlying54 hi0 hz0 hz1 hz2 rfl (by decide) (.slice (some ⟨b1, o1, none⟩) (q + 1) c1) (q + 1) xs rfl ((own_kept HOWN.out HN6.out).alloc _) (w6.heap.size + 1) _ 1 1 [(.slice A6 z.length c6)] rfl (sl_one w6 22 (.slice A6 z.length c6)) (ones_one rfl) (by unfold maxLen; omega) (by omega) (by have := HN6.out.size; have := HB2.out.size; have := HS12.out; simp; omega) ?_; intro v7 w7 ho hg; have HO7 := hideIt ho; have HG7 := hideIt hg; clear ho hg))
    go_ret2
    have hB6 : Below w.heap.size w (w6.alloc (.cells #[.slice A6 z.length c6] 22)) := HB6.out.alloc HB6.out.size _
    refine ⟨_, rfl, fun _ => ?_, below_app hB6 ((own_kept HOWN.out HN6.out).alloc _) HG7.out HB1.out.size (by have := HB6.out.size; simp; omega)⟩
    refine Msgs.low (base := w1.heap.size) ?_ HB1.out.size
    refine Msgs.snoc (xs := xs) (by rw [HMS.out]; exact (own_kept HOWN.out HN6.out).alloc _) (fun k u m h1 h2 => (own_kept (HEL.out k u m h1 h2) HN6.out).alloc _) (own_low (HV6.out.alloc _) ?_) HG7.out (by rw [HMS.out]; exact HO7.out)
    have := HN5.out.size
    have := HS12.out
    simp; omega

set_option maxHeartbeats 1600000 in
set_option maxRecDepth 100000 in
theorem ins_right (leaf : List UInt8) (hl : leaf.length = 16) (A : Option Addr) (B n i p c : Nat) (ds : List (List UInt8)) (w : World) (hn : n ≤ 9223372036854775807) (h2 : 2 ≤ n) (hi : ¬ i < splitK n) (hin : i < n) (hp : p + 1 ≤ 1000000000) (hD : Ds w B A ds.length ds) (hpd : p + 1 ≤ ds.length) (hpc : p + 1 ≤ c) (hB : B ≤ w.heap.size) (hT : Tab w 0)
    (ms : List (List UInt8)) (m r : List UInt8) (q : Nat) (hms : ms.length = q + 1) (hlast : ms[q]? = some m) (hr : cutD m = r) (hm : m.length ≤ 100) (hq : q ≤ 1000000000) (ok : Bool)
    (hrec : ∀ W, Below w.heap.size w W → Calls Tryd.prog 28 #[.int .i64 ((n : Int) - (splitK n : Int)), .int .i64 ((i : Int) - (splitK n : Int)), dv leaf, .slice A p c] W fun e w' => ∃ v, e = .returned (.tuple #[v, .bool ok]) ∧ (ok = true → Msgs w' W.heap.size v ms) ∧ Below W.heap.size W w') :
    Calls Tryd.prog 28 #[.int .i64 (n : Int), .int .i64 (i : Int), dv leaf, .slice A (p + 1) c] w fun e w' => ∃ v, e = .returned (.tuple #[v, .bool ok]) ∧ (ok = true → Msgs w' w.heap.size v (ms ++ [nodeIn (ds.getD p []) r])) ∧ Below w.heap.size w w' := by
  obtain ⟨i0, hi0, hz0, hz1, hz2⟩ := info_parts Tryd.infoBytes
  obtain ⟨w0, hw0⟩ : ∃ W, W = w.alloc (.cells (leaf.map bv).toArray 30) := ⟨_, rfl⟩
  have HW0 := hideIt hw0
  have hbel : Below w.heap.size w w0 := by rw [hw0]; exact below_new w _
  have hsz0 : w0.heap.size = w.heap.size + 1 := by rw [hw0]; simp
  have hk0 : Blk w0 w.heap.size 30 (leaf.map bv) := by rw [hw0]; exact Blk.new w _ _
  have HL := hideIt hl
  clear hw0
  obtain ⟨b, off, hAe, hbB, hc, hdl⟩ := ds_load (hD.below hbel hB) (k := p) (by omega)
  have hhi := fun W => run_hi A (n := p + 1) (cap := c) (k := p) (by omega) W
  rw [hAe] at hhi hrec ⊢
  clear hAe
  obtain ⟨d, hd⟩ : ∃ d, d = ds.getD p [] := ⟨_, rfl⟩
  rw [← hd] at hc hdl ⊢
  have t1 : decide ((i : Int) < 0) = false := by simp
  have t2 : decide ((n : Int) ≤ (i : Int)) = false := by have := splitK_spec n h2; simp; omega
  have t3 : ((n : Int) == 1) = false := by rw [beq_eq_false_iff_ne]; omega
  have t4 : ((p : Int) + 1 == 0) = false := by rw [beq_eq_false_iff_ne]; omega
  have HSP := hideIt (fun W => refSplit_any n h2 hn W)
  have hsp := splitK_spec n h2
  obtain ⟨k, hke⟩ : ∃ k, k = splitK n := ⟨_, rfl⟩
  rw [← hke] at HSP hi hrec hsp
  obtain ⟨s1, s2, s3⟩ := hsp
  have hpp : (p : Int) < (p : Int) + 1 := by omega
  have htest : decide ((i : Int) < (k : Int)) = false := by simp; omega
  have hw1 : IntKind.i64.wrap ((n : Int) - (k : Int)) = (n : Int) - (k : Int) := IntWalk.i64_in _ (by omega)
  have hw2 : IntKind.i64.wrap ((i : Int) - (k : Int)) = (i : Int) - (k : Int) := IntWalk.i64_in _ (by omega)
  have HREC := hideIt hrec
  have HC := hideIt hc
  have HDL := hideIt hdl
  have HT := hideIt hT
  have hrl : r.length = 16 := by rw [← hr]; exact cutD_len _
  have HSH := hideIt (fun (W : World) {base : Nat} {v : Value} (h : W.ownsRow base 5 1 v m.length (m.map bv)) (h2 : Tab W 0) => short_own h (by omega) h2)
  rw [hr] at HSH
  have HTR := hideIt (fun (W : World) => text_any r hrl W)
  have HTD := hideIt (fun (W : World) => text_any d hdl W)
  have HIN : Hid (∀ (W : World) (B : Nat) (A : Option Addr), Sl W B A 1 2 [Value.string (str d), .string (str r)] → B ≤ W.heap.size → Calls Tryd.prog 37 #[.int .i64 2, .slice A 2 2] W fun e w' => ∃ v', e = .returned v' ∧ w'.ownsRow W.heap.size 5 1 v' (nodeIn d r).length ((nodeIn d r).map bv) ∧ Below W.heap.size W w') := hideIt (fun W B A h hB => input_any A B 2 2 [str d, str r] W h (by simp) (fun s hs => by
    simp only [List.mem_cons, List.mem_nil_iff, or_false] at hs
    rcases hs with rfl | rfl
    · rw [str_size]; omega
    · rw [str_size]; omega) hB)
  generalize nodeIn d r = z at *
  have HMS := hideIt hms
  have HLA := hideIt hlast
  clear hd hc hdl hT hD hrec hke hl hr hms hlast
  have HZ : Hid (Blk (w0.alloc (.cells (zeroD.map bv).toArray 30)) (w.heap.size + 1) 30 (zeroD.map bv)) := hsz0 ▸ Blk.new w0 30 (zeroD.map bv)
  have HO0 := hideIt (hk0.alloc (.cells (zeroD.map bv).toArray 30))
  have HBZ := hideIt (hbel.alloc hbel.size (.cells (zeroD.map bv).toArray 30))
  have hm100 := hm
  rw [zero_cells, HW0.out] at HZ HO0 HBZ
  clear hsz0 hbel hk0
  cases ok with
  | false =>
    go_enter Tryd.func28, Tryd.ntmps28
    go_wp2_with (first
      | ((with_reducible refine at_load ?_); refine wpList_load_mid rfl 30 (.tmp 41) rfl b _ rfl (d.map bv) (.array 16 5) (range16 (by have := HC.out; rw [HW0.out] at this; exact this)) (by kernel_rfl) rfl (isize16 _ HDL.out) ?_)
      | ((with_reducible refine at_store ?_); refine wpList_put rfl 30 (.tmp 10) (.tmp 42) rfl (w.heap.size + 1) (d.map bv) _ _ rfl rfl HZ.out (by rw [List.length_map, HDL.out]; kernel_rfl) (by rw [List.length_map, List.length_map, HDL.out]; rfl) (bv_one _) ?_; intro w1 ht hb; have HO1 := hideIt (ht.blk HO0.out (by omega)); have HB1 := hideIt (ht.below HBZ.out (by omega)); clear ht hb)
      | (go_at_call 40; refine (HSP.out _).mono ?_; rintro e w' ⟨rfl, rfl⟩)
      | ((with_reducible refine at_load ?_); refine wpList_get rfl 30 (.tmp 6) rfl w.heap.size (leaf.map bv) 30 (.array 16 5) rfl HO1.out (by kernel_rfl) rfl (isize16 _ HL.out) ?_)
      | (go_at_call 28; refine (HREC.out _ HB1.out).mono ?_; rintro e w2 ⟨v1, rfl, _, hb⟩; have HB2 := hideIt (HB1.out.trans (hb.mono HB1.out.size)); clear hb))
    go_ret2
    exact ⟨_, rfl, fun h => (by cases h), HB2.out⟩
  | true =>
    go_enter Tryd.func28, Tryd.ntmps28
    go_wp2_with (first
      | ((with_reducible refine at_load ?_); refine wpList_load_mid rfl 30 (.tmp 41) rfl b _ rfl (d.map bv) (.array 16 5) (range16 (by have := HC.out; rw [HW0.out] at this; exact this)) (by kernel_rfl) rfl (isize16 _ HDL.out) ?_)
      | ((with_reducible refine at_store ?_); refine wpList_put rfl 30 (.tmp 10) (.tmp 42) rfl (w.heap.size + 1) (d.map bv) _ _ rfl rfl HZ.out (by rw [List.length_map, HDL.out]; kernel_rfl) (by rw [List.length_map, List.length_map, HDL.out]; rfl) (bv_one _) ?_; intro w1 ht hb; have HE1 := hideIt hb; have HO1 := hideIt (ht.blk HO0.out (by omega)); have HB1 := hideIt (ht.below HBZ.out (by omega)); clear ht hb)
      | (go_at_call 40; refine (HSP.out _).mono ?_; rintro e w' ⟨rfl, rfl⟩)
      | ((with_reducible refine at_load ?_); refine wpList_get rfl 30 (.tmp 6) rfl w.heap.size (leaf.map bv) 30 (.array 16 5) rfl HO1.out (by kernel_rfl) rfl (isize16 _ HL.out) ?_)
      | (go_at_call 28; refine (HREC.out _ HB1.out).mono ?_; go_loud (rintro e w2 ⟨v1, rfl, hmsg, hb⟩; have HMSG := hideIt (hmsg (by trivial)); have HB2 := hideIt (HB1.out.trans (hb.mono HB1.out.size)); have HE2 := hideIt (HE1.out.kept hb HE1.out.lt); have HS12 := hideIt hb.size; clear hmsg hb; obtain ⟨xs, b1, o1, c1, Au, cu, rfl, hown, hel, hue, hb1, hcu, hc11⟩ := HMSG.out.opened HMS.out HLA.out; have HU := hideIt hue; have HOWN := hideIt hown; have HEL := hideIt hel; clear hown hel hue)))
    have hq1 : (q : Int) < (q : Int) + 1 := by omega
    have HWR1 : Hid (IntKind.i64.wrap ((q : Int) + 1 - 1) = (q : Int)) := by rw [show (q : Int) + 1 - 1 = (q : Int) by omega]; exact IntWalk.i64_in _ (by omega)
    have HWR2 : Hid (IntKind.i64.wrap (q : Int) = (q : Int)) := IntWalk.i64_in _ (by omega)
    refine loads_begin_n 17 [(2, fun W' => Blk W' (w.heap.size + 1) 30 (d.map bv)), (9, fun W' => W'.cell? ⟨b1, o1 + q, none⟩ = some (.slice Au m.length cu))] rfl (by kernel_rfl) ?_
    refine wpAnyL_take (oi := ⟨some 93, _, _, _, _, _⟩) 1 2 (.agg (d.map bv).toArray) _ rfl (by kernel_rfl) (by kernel_rfl) (by kernel_rfl) (by kernel_rfl) (by kernel_rfl) (by kernel_rfl) (.head _) (fun _ _ _ h => h) (by kernel_rfl) (fun W' hW' => exec_load_blk rfl rfl (hW') (.array 16 5) (by kernel_rfl) rfl (isize16 _ HDL.out)) (Hooks.add HE2.out (Hooks.add hcu (Hooks.nil _ _))) ?_
    try simp only [Act.put]
    try simp only [List.setIfInBounds_toArray]
    try simp only [List.set_cons_succ]
    try simp only [List.set_cons_zero]
    refine wpAnyL_move (oi := ⟨some 92, _, _, _, _, _⟩) 0 ?_ rfl (by kernel_rfl) (by kernel_rfl) (by kernel_rfl) (by kernel_rfl) (fun _ _ _ h => h) (by kernel_rfl) ?_ (Hooks.add HE2.out (Hooks.add hcu (Hooks.nil _ _))) ?_
    rotate_left
    · intro W'; go_simp; first | done | with_reducible rfl
    try simp only [Act.put]
    try simp only [List.setIfInBounds_toArray]
    try simp only [List.set_cons_succ]
    try simp only [List.set_cons_zero]
    refine wpAnyL_move (oi := ⟨some 95, _, _, _, _, _⟩) 3 ?_ rfl (by kernel_rfl) (by kernel_rfl) (by kernel_rfl) (by kernel_rfl) (fun _ _ _ h => h) (by kernel_rfl) ?_ (Hooks.add HE2.out (Hooks.add hcu (Hooks.nil _ _))) ?_
    rotate_left
    · intro W'; go_simp; first | done | with_reducible rfl
    try simp only [Act.put]
    try simp only [List.setIfInBounds_toArray]
    try simp only [List.set_cons_succ]
    try simp only [List.set_cons_zero]
    refine wpAnyL_move (oi := ⟨some 96, _, _, _, _, _⟩) 4 ?_ rfl (by kernel_rfl) (by kernel_rfl) (by kernel_rfl) (by kernel_rfl) (fun _ _ _ h => h) (by kernel_rfl) ?_ (Hooks.add HE2.out (Hooks.add hcu (Hooks.nil _ _))) ?_
    rotate_left
    · intro W'; go_simp; first | done | with_reducible rfl
    try simp only [Act.put]
    try simp only [List.setIfInBounds_toArray]
    try simp only [List.set_cons_succ]
    try simp only [List.set_cons_zero]
    refine wpAnyL_move (oi := ⟨some 97, _, _, _, _, _⟩) 5 ?_ rfl (by kernel_rfl) (by kernel_rfl) (by kernel_rfl) (by kernel_rfl) (fun _ _ _ h => h) (by kernel_rfl) ?_ (Hooks.add HE2.out (Hooks.add hcu (Hooks.nil _ _))) ?_
    rotate_left
    · intro W'; go_simp; first | done | with_reducible rfl
    try simp only [Act.put]
    try simp only [List.setIfInBounds_toArray]
    try simp only [List.set_cons_succ]
    try simp only [List.set_cons_zero]
    refine wpAnyL_move (oi := ⟨some 98, _, _, _, _, _⟩) 6 ?_ rfl (by kernel_rfl) (by kernel_rfl) (by kernel_rfl) (by kernel_rfl) (fun _ _ _ h => h) (by kernel_rfl) ?_ (Hooks.add HE2.out (Hooks.add hcu (Hooks.nil _ _))) ?_
    rotate_left
    · intro W'; go_simp; first | done | with_reducible rfl
    try simp only [Act.put]
    try simp only [List.setIfInBounds_toArray]
    try simp only [List.set_cons_succ]
    try simp only [List.set_cons_zero]
    try simp only [HWR1.out]
    try simp only [HWR2.out]
    refine wpAnyL_move (oi := ⟨some 99, _, _, _, _, _⟩) 7 ?_ rfl (by kernel_rfl) (by kernel_rfl) (by kernel_rfl) (by kernel_rfl) (fun _ _ _ h => h) (by kernel_rfl) ?_ (Hooks.add HE2.out (Hooks.add hcu (Hooks.nil _ _))) ?_
    rotate_left
    · intro W'; go_simp; first | done | with_reducible rfl
    try simp only [Act.put]
    try simp only [List.setIfInBounds_toArray]
    try simp only [List.set_cons_succ]
    try simp only [List.set_cons_zero]
    refine wpAnyL_take (oi := ⟨some 100, _, _, _, _, _⟩) 8 9 (.slice Au m.length cu) _ rfl (by kernel_rfl) (by kernel_rfl) (by kernel_rfl) (by kernel_rfl) (by kernel_rfl) (by kernel_rfl) (.tail _ (.head _)) (fun _ _ _ h => h) (by kernel_rfl) (fun W' hW' => by (try dsimp only at hW'); go_simp) (Hooks.add HE2.out (Hooks.add hcu (Hooks.nil _ _))) ?_
    try simp only [Act.put]
    try simp only [List.setIfInBounds_toArray]
    try simp only [List.set_cons_succ]
    try simp only [List.set_cons_zero]
    refine wpAnyL_one 2 (by kernel_rfl) rfl (fun K hK => ?_)
    go_wp2_with (go_at_call 52; refine (HTD.out _).mono ?_; rintro e w3 ⟨rfl, hb⟩; have hb' : Below w2.heap.size w2 w3 := ((Below.refl _ _).drew).trans hb; have HN3 := hideIt hb'; have hcu3 : w3.cell? ⟨b1, o1 + q, none⟩ = some (.slice Au m.length cu) := (hb'.cell (p := ⟨b1, o1 + q, none⟩) hb1).trans hcu; have HB3 := hideIt (HB2.out.trans (hb'.mono HB2.out.size)); clear hb hb')
    refine hK _ _ (Hooks.skip (by kernel_rfl) (Hooks.add hcu3 (Hooks.nil _ _))) ?_
    clear hK K
    refine loads_tail 9 (by kernel_rfl) (by kernel_rfl) (by kernel_rfl) (by kernel_rfl) ?_
    simp only [List.drop_succ_cons, List.drop_zero]
    go_wp2_with (first
      | (go_at_call 29; refine (HSH.out _ ((own_kept HU.out HN3.out)) (HT.out.keep HB3.out)).mono ?_; rintro e w4 ⟨rfl, hb⟩; have HN4 := hideIt (HN3.out.trans (hb.mono HN3.out.size)); have HB4 := hideIt (HB3.out.trans (hb.mono HB3.out.size)); clear hb)
      | (go_at_call 52; refine (HTR.out _).mono ?_; rintro e w5 ⟨rfl, hb⟩; have HN5 := hideIt (HN4.out.trans (hb.mono HN4.out.size)); have HB5 := hideIt (HB4.out.trans (hb.mono HB4.out.size)); clear hb)
      | (go_at_call 37; refine (HIN.out _ (w5.heap.size + 1) _ (sl_two w5 9 (.string (str d)) (.string (str r))) (by simp)).mono ?_; rintro e w6 ⟨v6, rfl, ho, hb⟩; obtain ⟨A6, c6, rfl, _, _⟩ := own_form ho; have HV6 := hideIt ho; have HN6 := hideIt ((HN5.out.alloc HN5.out.size _).trans (hb.mono (by have := HN5.out.size; simp; omega))); have HB6 := hideIt ((HB5.out.alloc HB5.out.size _).trans (hb.mono (by have := HB5.out.size; simp; omega))); clear ho hb)
      | ((with_reducible refine at_append ?_); refine wpList_app2 rfl (.tmp 92) (.tmp 105) 54 rfl w1.heap.size 22 i0 (.slice none 0 0) 1 24 Tryd.underlying54 hi0 hz0 hz1 hz2 rfl (by decide) (.slice (some ⟨b1, o1, none⟩) (q + 1) c1) (q + 1) xs rfl ((own_kept HOWN.out HN6.out).alloc _) (w6.heap.size + 1) _ 1 1 [(.slice A6 z.length c6)] rfl (sl_one w6 22 (.slice A6 z.length c6)) (ones_one rfl) (by unfold maxLen; omega) (by omega) (by have := HN6.out.size; have := HB2.out.size; have := HS12.out; simp; omega) ?_; intro v7 w7 ho hg; have HO7 := hideIt ho; have HG7 := hideIt hg; clear ho hg))
    go_ret2
    have hB6 : Below w.heap.size w (w6.alloc (.cells #[.slice A6 z.length c6] 22)) := HB6.out.alloc HB6.out.size _
    refine ⟨_, rfl, fun _ => ?_, below_app hB6 ((own_kept HOWN.out HN6.out).alloc _) HG7.out HB1.out.size (by have := HB6.out.size; simp; omega)⟩
    refine Msgs.low (base := w1.heap.size) ?_ HB1.out.size
    refine Msgs.snoc (xs := xs) (by rw [HMS.out]; exact (own_kept HOWN.out HN6.out).alloc _) (fun k u m h1 h2 => (own_kept (HEL.out k u m h1 h2) HN6.out).alloc _) (own_low (HV6.out.alloc _) ?_) HG7.out (by rw [HMS.out]; exact HO7.out)
    have := HN5.out.size
    have := HS12.out
    simp; omega

end Go.Proofs.YtkjnimcapjjfdaaDoor
