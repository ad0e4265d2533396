/-
  The laws' check, walked.
-/
import Derived.Deep.DeepCutAuto
import Derived.Test.YtklngodlijiccaaDoorRepO
import Derived.Test.YtklngodlijiccaaDoorRepP
namespace Go.Proofs.YtklngodlijiccaaDoor
open Go.RowKit
set_option linter.unusedVariables false
set_option linter.unusedSimpArgs false

theorem sl_new10 (w : World) (t : TypeId) (cs : List Value) : Sl (w.alloc (.cells cs.toArray t)) (w.alloc (.cells cs.toArray t)).heap.size (some ⟨w.heap.size, 0, none⟩) 1 cs.length cs := sl_blk9 (Blk.new w t cs) rfl
theorem lrc_any (w : World) : Calls Tryd.prog 30 #[] w fun e w' => ∃ A, e = .returned (lrX.v A 3) ∧ CIn w' lrX A ∧ Below w.heap.size w w' := by
  obtain ⟨W0, hW0⟩ : ∃ W, W = w.alloc (.cells #[.string ⟨#[]⟩, .int .i64 0, .int .i64 0, .slice none 0 0, .int .i64 0] 24) := ⟨_, rfl⟩
  obtain ⟨W1, hW1⟩ : ∃ W, W = W0.alloc (.cells #[.int .i64 1, .int .i64 1, .int .i64 0, .int .i64 0] 3) := ⟨_, rfl⟩
  obtain ⟨W2, hW2⟩ : ∃ W, W = W1.alloc (.cells #[.int .i64 0, .int .i64 0, .int .i64 1, .int .i64 1] 3) := ⟨_, rfl⟩
  obtain ⟨W3, hW3⟩ : ∃ W, W = W2.alloc (.cells #[.int .i64 1, .int .i64 2, .int .i64 4, .int .i64 8] 3) := ⟨_, rfl⟩
  have s0 : W0.heap.size = w.heap.size + 1 := by rw [hW0]; simp
  have s1 : W1.heap.size = w.heap.size + 1 + 1 := by rw [hW1]; simp [s0]
  have s2 : W2.heap.size = w.heap.size + 1 + 1 + 1 := by rw [hW2]; simp [s1]
  have s3 : W3.heap.size = w.heap.size + 1 + 1 + 1 + 1 := by rw [hW3]; simp [s2]
  obtain ⟨W4, hW4⟩ : ∃ W, W = W3.alloc (.cells #[.slice (some ⟨w.heap.size + 1, 0, none⟩) 4 4, .slice (some ⟨w.heap.size + 1 + 1, 0, none⟩) 4 4, .slice (some ⟨w.heap.size + 1 + 1 + 1, 0, none⟩) 4 4] 36) := ⟨_, rfl⟩
  have s4 : W4.heap.size = w.heap.size + 5 := by rw [hW4]; simp [s3]
  have b0 : Below w.heap.size w W0 := by rw [hW0]; exact below_new w _
  have b1 : Below W0.heap.size W0 W1 := by rw [hW1]; exact below_new W0 _
  have b2 : Below W1.heap.size W1 W2 := by rw [hW2]; exact below_new W1 _
  have b3 : Below W2.heap.size W2 W3 := by rw [hW3]; exact below_new W2 _
  have b4 : Below W3.heap.size W3 W4 := by rw [hW4]; exact below_new W3 _
  have b34 := b3.trans (b4.mono b3.size)
  have b24 := b2.trans (b34.mono b2.size)
  have b14 := b1.trans (b24.mono b1.size)
  have r1 : Sl W1 W1.heap.size (some ⟨w.heap.size + 1, 0, none⟩) 1 4 (([1, 1, 0, 0] : List Int).map iv) := by rw [← s0, hW1]; exact sl_new10 W0 3 _
  have r2 : Sl W2 W2.heap.size (some ⟨w.heap.size + 1 + 1, 0, none⟩) 1 4 (([0, 0, 1, 1] : List Int).map iv) := by rw [← s1, hW2]; exact sl_new10 W1 3 _
  have r3 : Sl W3 W3.heap.size (some ⟨w.heap.size + 1 + 1 + 1, 0, none⟩) 1 4 (([1, 2, 4, 8] : List Int).map iv) := by rw [← s2, hW3]; exact sl_new10 W2 3 _
  have r4 : Sl W4 W4.heap.size (some ⟨w.heap.size + 1 + 1 + 1 + 1, 0, none⟩) 1 3 [.slice (some ⟨w.heap.size + 1, 0, none⟩) 4 4, .slice (some ⟨w.heap.size + 1 + 1, 0, none⟩) 4 4, .slice (some ⟨w.heap.size + 1 + 1 + 1, 0, none⟩) 4 4] := by rw [← s3, hW4]; exact sl_new10 W3 36 _
  have HC := hideIt (fun (w8 : World) (ht : Turned w.heap.size W4 w8) => show CIn w8 lrX (some ⟨w.heap.size + 1 + 1 + 1 + 1, 0, none⟩) from by
    have q : ∀ (k : Nat) (n : Nat) (xs : List Value), 0 < k → Sl W4 W4.heap.size (some ⟨w.heap.size + k, 0, none⟩) 1 n xs → Sl w8 w8.heap.size (some ⟨w.heap.size + k, 0, none⟩) 1 n xs := fun k n xs hk h => by
      rw [ht.size]
      exact h.turned ht fun b o hA => by injection hA with hA; injection hA with hA; omega
    exact ⟨⟨_, q 4 _ _ (by decide) r4, ⟨_, _, rfl, q 1 _ _ (by decide) ((r1.below b24).wide b24.size)⟩, ⟨_, _, rfl, q 2 _ _ (by decide) ((r2.below b34).wide b34.size)⟩, ⟨_, _, rfl, q 3 _ _ (by decide) ((r3.below b4).wide b4.size)⟩, trivial⟩, by decide, by decide⟩)
  have HZ := hideIt (show Blk W4 w.heap.size 24 [.string ⟨#[]⟩, .int .i64 0, .int .i64 0, .slice none 0 0, .int .i64 0] by
    have h := Blk.new w 24 [.string ⟨#[]⟩, .int .i64 0, .int .i64 0, .slice none 0 0, .int .i64 0]
    rw [← hW0] at h
    exact h.kept b14 h.lt)
  have HB := hideIt (b0.trans (b14.mono b0.size))
  have HE0 := hideIt hW0
  have HE1 := hideIt hW1
  have HE2 := hideIt hW2
  have HE3 := hideIt hW3
  have HE4 := hideIt hW4
  clear hW0 hW1 hW2 hW3 hW4 s0 s1 s2 s3 s4 b0 b1 b2 b3 b4 b34 b24 b14 r1 r2 r3 r4
  go_enter Tryd.func30, Tryd.ntmps30
  go_wp2_with ((with_reducible refine at_store ?_); rw [← HE0.out, ← HE1.out, ← HE2.out, ← HE3.out, ← HE4.out]; refine wpList_put rfl _ (.tmp 0) (.tmp 5) rfl w.heap.size (lrX.cs (some ⟨w.heap.size + 1 + 1 + 1 + 1, 0, none⟩) 3) [.string ⟨#[]⟩, .int .i64 0, .int .i64 0, .slice none 0 0, .int .i64 0] 24 rfl rfl HZ.out isz5 rfl (by intro u hu; rcases List.mem_cons.1 hu with rfl | hu; rfl; rcases List.mem_cons.1 hu with rfl | hu; rfl; rcases List.mem_cons.1 hu with rfl | hu; rfl; rcases List.mem_cons.1 hu with rfl | hu; rfl; rcases List.mem_cons.1 hu with rfl | hu; rfl; cases hu) ?_; intro w8 ht8 hb8; have HT8 := hideIt ht8; have HB8 := hideIt hb8; clear ht8 hb8)
  refine bodyPost_ret (ret_blk rfl HB8.out _ rfl Tryd.underlying24 rfl isz5) rfl ?_
  exact ⟨_, rfl, HC.out w8 HT8.out, HT8.out.below HB.out (Nat.le_refl _)⟩
theorem wpList_ldW {ops : Array Oper} {rest : List Oper} {o : Oper} {a : Act} {w : World} {Q : Exit → Act → World → Prop} (hw : Region.wanted o (yielded ops a.tmps) = true) (x : Operand) (ho : o.op = .load 30 x) {p : Nat} {u v : Value} (hx : a.eval x = .pointer (some ⟨p, 0, none⟩))
    (hp : Blk w p 30 [u, v]) (h : wpList Tryd.prog ops Q rest (a.put o.dst (.agg #[u, v])) w) : wpList Tryd.prog ops Q (o :: rest) a w :=
  wpList_get_g hw _ x ho p [u, v] _ _ hx hp Tryd.underlying30 rfl iszP h
/-- The two checks of unit 2, as they are read. -/
theorem rj_two {W : World} {B : Nat} {v : Value} {a b : List Nat} (h : RJ W B v [a, b]) : ∃ g o c A0 c0 A1 c1, v = .slice (some ⟨g, o, none⟩) 2 c ∧ g < W.heap.size ∧ W.cell? ⟨g, o, none⟩ = some (.slice A0 a.length c0) ∧ W.cell? ⟨g, o + 1, none⟩ = some (.slice A1 b.length c1) ∧ Sl W W.heap.size A0 1 a.length ((nI a).map iv) ∧ Sl W W.heap.size A1 1 b.length ((nI b).map iv) := by
  obtain ⟨A, c, rfl, _, hpm⟩ := h.pm
  obtain ⟨g, o, A0, c0, hA, hg, hc0, hs0⟩ := hpm.row (j := 0) (by simp)
  obtain ⟨g', o', A1, c1, hA', _, hc1, hs1⟩ := hpm.row (j := 1) (by simp)
  subst hA
  injection hA' with hA'
  injection hA' with e1 e2
  subst e1 e2
  simp only [List.map_cons, List.map_nil, List.getElem_cons_zero, List.getElem_cons_succ, nI_len, Nat.add_zero] at hc0 hs0 hc1 hs1
  exact ⟨g, o, c, A0, c0, A1, c1, rfl, hg, hc0, hc1, hs0, hs1⟩
theorem RJ.mvK {W W' : World} {B q : Nat} {v : Value} {ps : List (List Nat)} {cs : List Value} (h : RJ W B v ps) (hk : Keeps (fun k => k = q) W W') (hq : q < B) (hb : Blk W q 4 cs) : RJ W' B v ps := by
  obtain ⟨us, h1, h2⟩ := h
  have hI : ∀ {g : Nat} {cs : List Value}, Blk W g 3 cs → Blk W' g 3 cs := fun {g cs} hg => (hk.block g hg.lt fun e => by
    subst e
    have := hg.symm.trans hb
    injection this with this
    injection this with _ e _
    revert e
    decide).trans hg
  refine ⟨us, ⟨h1.1, h1.2.imp id fun ⟨g, cap, cur, hv, hb, hg, r⟩ => ⟨g, cap, cur, hv, hb, (hk.block g (Array.getElem?_eq_some_iff.1 hg).1 (by omega)).trans hg, r⟩⟩, All2.imp (fun b u ⟨g, c, cs, e, hg, ht⟩ => ⟨g, c, cs, e, hI hg, ht⟩) h2⟩
theorem Keeps.of_set {h : Nat} {a b : World} (hk : Keeps (fun k => k = h) a b) (i : Nat) (u : Value) : Keeps (fun k => k = h) a (b.setCell ⟨h, i, none⟩ u) := hk.setCell rfl u
set_option maxHeartbeats 4000000 in
set_option maxRecDepth 100000 in
theorem sanity_any (w : World) (hT : Tabs w) : Calls Tryd.prog 11 #[] w fun e w' => e = .returned (.bool true) ∧ Below w.heap.size w w' := by
  have HT := hideIt hT
  clear hT
  go_enter Tryd.func11, Tryd.ntmps11
  go_upto_region 3 with (first
    | (go_at_call 30; refine (lrc_any _).mono ?_; rintro e w1 ⟨A, rfl, hc1, hb1⟩; have HC1 := hideIt hc1; have HB1 := hideIt hb1; clear hc1 hb1)
    | ((with_reducible refine at_store ?_); refine wpList_put rfl _ (.tmp 1) (.tmp 16) rfl w1.heap.size (lrX.cs A 3) [.string ⟨#[]⟩, .int .i64 0, .int .i64 0, .slice none 0 0, .int .i64 0] 24 rfl rfl (Blk.new w1 24 [.string ⟨#[]⟩, .int .i64 0, .int .i64 0, .slice none 0 0, .int .i64 0]) isz5 rfl (by intro u hu; rcases List.mem_cons.1 hu with rfl | hu; rfl; rcases List.mem_cons.1 hu with rfl | hu; rfl; rcases List.mem_cons.1 hu with rfl | hu; rfl; rcases List.mem_cons.1 hu with rfl | hu; rfl; rcases List.mem_cons.1 hu with rfl | hu; rfl; cases hu) ?_; intro w2 ht2 hb2; have HT2 := hideIt ht2; have HB2 := hideIt hb2; clear ht2 hb2))
  have HL12 := hideIt (HT2.out.below (below_new w1 (.cells #[.string ⟨#[]⟩, .int .i64 0, .int .i64 0, .slice none 0 0, .int .i64 0] 24)) (Nat.le_refl _))
  have HL2 := hideIt (HB1.out.trans (HL12.out.mono HB1.out.size))
  have HX2 := hideIt (show BC w2 w1.heap.size lrX A 3 from ⟨HB2.out, HC1.out.keep HL12.out⟩)
  have HTW := hideIt (fun (W : World) (g : Below w2.heap.size w2 W) => HT.out.keep (HL2.out.trans (g.mono HL2.out.size)))
  have HXW := hideIt (fun (W : World) (g : Below w2.heap.size w2 W) => HX2.out.keep g)
  obtain ⟨W3, hW3⟩ : ∃ W, W = w2.alloc (.cells #[.bool true, .bool true, .bool false, .bool true, .bool true, .bool true, .bool true] 4) := ⟨_, rfl⟩
  have GD3 := hideIt (show Below w2.heap.size w2 W3 by rw [hW3]; exact below_new w2 _)
  have HH3 := hideIt (show Blk W3 w2.heap.size 4 (lr1.map bl) by rw [hW3]; exact Blk.new w2 4 (lr1.map bl))
  have HLT := hideIt (show w2.heap.size < W3.heap.size by rw [hW3]; simp)
  obtain ⟨p, hp⟩ : ∃ p, p = w1.heap.size := ⟨_, rfl⟩
  rw [← hp] at HXW
  rw [← hW3, ← hp]
  clear hW3 hp HX2 HB2 HT2 HC1 HB1 HL12
  have HPN := hideIt (fun (hs : List Bool) (W : World) (g : Below w2.heap.size w2 W) (hD : Sl W W.heap.size (some ⟨w2.heap.size, 0, none⟩) 1 hs.length (hs.map bl)) => plan_any lrX A 3 W (HTW.out W g) (HXW.out W g).cin hs (some ⟨w2.heap.size, 0, none⟩) 7 hD 2)
  have HBX3 := hideIt (HXW.out W3 GD3.out).box
  have HCK := hideIt (checks_any lrX A 3 W3 (HTW.out W3 GD3.out) (HXW.out W3 GD3.out).cin 2)
  rw [lr_checks] at HCK
  go_upto_region 4 with (first
    | ((with_reducible refine at_load ?_); refine wpList_ldC (by kernel_rfl) (.tmp 1) rfl (p := p) (c := 3) rfl HBX3.out ?_)
    | (go_at_call 14; refine HCK.out.mono ?_; rintro e w4 ⟨v4, rfl, hj4, hb4⟩; have HJ4 := hideIt hj4; have HB4 := hideIt hb4; clear hj4 hb4 HCK))
  have GD4 := hideIt (GD3.out.trans (HB4.out.mono GD3.out.size))
  have HH4 := hideIt (HH3.out.kept HB4.out HH3.out.lt)
  have HBX4 := hideIt (HXW.out w4 GD4.out).box
  have HPL4 := hideIt (HPN.out lr1 w4 GD4.out (sl_blk9 HH4.out rfl))
  rw [lr_p1] at HPL4
  have HPL4 := hideIt (show Calls Tryd.prog 12 #[lrX.v A 3, .slice (some ⟨w2.heap.size, 0, none⟩) 7 7, .int .i64 2] w4 (fun e w' => ∃ A5 c5, e = .returned (.tuple #[.agg #[.int .i64 2, .slice A5 2 c5], .int .i64 0]) ∧ Sl w' w'.heap.size A5 2 2 (tcs [(3, 1), (5, 1)]) ∧ (∀ b o, A5 = some ⟨b, o, none⟩ → w4.heap.size ≤ b) ∧ Below w4.heap.size w4 w') from HPL4.out)
  clear HBX3 HH3 GD3
  go_upto_region 5 with (first
    | ((with_reducible refine at_load ?_); refine wpList_ldC (by kernel_rfl) (.tmp 1) rfl (p := p) (c := 3) rfl HBX4.out ?_)
    | (go_at_call 12; refine HPL4.out.mono ?_; rintro e w5 ⟨A5, c5, rfl, hs5, hl5, hb5⟩; have HS5 := hideIt hs5; have HLO5 := hideIt hl5; have HB5 := hideIt hb5; clear hs5 hl5 hb5 HPL4)
    | ((with_reducible refine at_store ?_); refine wpList_put rfl _ (.tmp 4) (.tmp 24) rfl w5.heap.size [.int .i64 2, .slice A5 2 c5] [.int .i64 0, .slice none 0 0] 30 rfl rfl (Blk.new w5 30 [.int .i64 0, .slice none 0 0]) iszP rfl (by simp [Value.oneCell']) ?_; intro w6 ht6 hb6; have HB6 := hideIt (ht6.below (below_new w5 (.cells #[.int .i64 0, .slice none 0 0] 30)) (Nat.le_refl _)); have HP6 := hideIt hb6; clear ht6 hb6))
  obtain ⟨q4, hq4⟩ : ∃ q, q = w5.heap.size := ⟨_, rfl⟩
  rw [← hq4] at HP6
  rw [← hq4]
  have HQ4 := hideIt hq4
  clear hq4 HBX4
  have HB46 := hideIt (HB5.out.trans (HB6.out.mono HB5.out.size))
  have GD6 := hideIt (GD4.out.trans (HB46.out.mono GD4.out.size))
  have HH6 := hideIt (HH4.out.kept HB46.out HH4.out.lt)
  have HS6 := hideIt ((HS5.out.below HB6.out).wide HB6.out.size)
  obtain ⟨W7, hW7⟩ : ∃ W, W = w6.alloc (.cells #[.string ⟨#[]⟩, .string ⟨#[]⟩, .string ⟨#[]⟩, .string ⟨#[5]⟩, .string ⟨#[]⟩, .string ⟨#[6]⟩, .string ⟨#[]⟩] 9) := ⟨_, rfl⟩
  have HB67 := hideIt (show Below w6.heap.size w6 W7 by rw [hW7]; exact below_new w6 _)
  have GD7 := hideIt (GD6.out.trans (HB67.out.mono GD6.out.size))
  have HW7 := hideIt hW7
  have HAP := hideIt (apply_any lrX A 3 W7 (HTW.out W7 GD7.out) (HXW.out W7 GD7.out).cin 2 [(3, 1), (5, 1)] (by decide) A5 c5 ((HS6.out.below HB67.out).wide HB67.out.size) [[], [], [], [5], [], [6], []] (by decide) (by decide) (some ⟨w6.heap.size, 0, none⟩) 7 (by rw [hW7]; exact sl_new10 w6 9 ([[], [], [], [5], [], [6], []].map sv)))
  rw [lr_apply] at HAP
  have HBX6 := hideIt (HXW.out w6 GD6.out).box
  clear hW7
  go_upto_region 6 with (first
    | ((with_reducible refine at_load ?_); refine wpList_ldC (by kernel_rfl) (.tmp 1) rfl (p := p) (c := 3) rfl HBX6.out ?_)
    | ((with_reducible refine at_load ?_); refine wpList_ldW (by kernel_rfl) (.tmp 4) rfl rfl HP6.out ?_)
    | (go_at_call 23; rw [← HW7.out]; refine HAP.out.mono ?_; rintro e w8 ⟨rfl, hb8⟩; have HB8 := hideIt hb8; clear hb8 HAP))
  have HB68 := hideIt (HB67.out.trans (HB8.out.mono HB67.out.size))
  have HB48 := hideIt (HB46.out.trans (HB68.out.mono HB46.out.size))
  have GD8 := hideIt (GD6.out.trans (HB68.out.mono GD6.out.size))
  have HH8 := hideIt (HH6.out.kept HB68.out HH6.out.lt)
  have HP8 := hideIt (HP6.out.kept HB68.out HP6.out.lt)
  have HZ4 := hideIt (show w2.heap.size < w4.heap.size from Nat.lt_of_lt_of_le HLT.out HB4.out.size)
  have hc3 := HH8.out.cell 3
  have hf3 := HH8.out.free 3
  have HH44 := HH4
  clear HBX6 HW7 HH6 GD7 HH4
  go_upto_region 7 with fail
  clear hc3 hf3
  obtain ⟨W9, hW9⟩ : ∃ W, W = w8.setCell ⟨w2.heap.size, 3, none⟩ (.bool false) := ⟨_, rfl⟩
  have GD9 := hideIt (show Below w2.heap.size w2 W9 by rw [hW9]; exact GD8.out.setCell (p := ⟨w2.heap.size, 3, none⟩) (Nat.le_refl _) _)
  have HH9 := hideIt (show Blk W9 w2.heap.size 4 (lr2.map bl) by rw [hW9]; exact HH8.out.store 3 (.bool false))
  have K49 := hideIt (show Keeps (fun k => k = w2.heap.size) w4 W9 by rw [hW9]; exact (Keeps.of_below HB48.out).of_set 3 _)
  have K69 := hideIt (show Keeps (fun k => k = w2.heap.size) w6 W9 by rw [hW9]; exact (Keeps.of_below HB68.out).of_set 3 _)
  have HBX9 := hideIt (HXW.out W9 GD9.out).box
  have HPL9 := hideIt (HPN.out lr2 W9 GD9.out (sl_blk9 HH9.out rfl))
  rw [lr_p2] at HPL9
  have HPL9 := hideIt (show Calls Tryd.prog 12 #[lrX.v A 3, .slice (some ⟨w2.heap.size, 0, none⟩) 7 7, .int .i64 2] W9 (fun e w' => ∃ A9 c9, e = .returned (.tuple #[.agg #[.int .i64 2, .slice A9 4 c9], .int .i64 0]) ∧ Sl w' w'.heap.size A9 2 4 (tcs [(0, 61), (1, 122), (5, 245), (6, 61)]) ∧ (∀ b o, A9 = some ⟨b, o, none⟩ → W9.heap.size ≤ b) ∧ Below W9.heap.size W9 w') from HPL9.out)
  rw [← hW9]
  have HZ9 := hideIt (show w2.heap.size < W9.heap.size from Nat.lt_of_lt_of_le HZ4.out K49.out.size)
  clear hW9 HH8 GD8
  go_upto_region 8 with (first
    | ((with_reducible refine at_load ?_); refine wpList_ldC (by kernel_rfl) (.tmp 1) rfl (p := p) (c := 3) rfl HBX9.out ?_)
    | (go_at_call 12; refine HPL9.out.mono ?_; rintro e w10 ⟨A9, c9, rfl, hs9, hl9, hb9⟩; have HS9 := hideIt hs9; have HLO9 := hideIt hl9; have HB9 := hideIt hb9; clear hs9 hl9 hb9 HPL9)
    | ((with_reducible refine at_store ?_); refine wpList_put rfl _ (.tmp 8) (.tmp 39) rfl w10.heap.size [.int .i64 2, .slice A9 4 c9] [.int .i64 0, .slice none 0 0] 30 rfl rfl (Blk.new w10 30 [.int .i64 0, .slice none 0 0]) iszP rfl (by simp [Value.oneCell']) ?_; intro w11 ht11 hb11; have HB11 := hideIt (ht11.below (below_new w10 (.cells #[.int .i64 0, .slice none 0 0] 30)) (Nat.le_refl _)); have HQ11 := hideIt hb11; clear ht11 hb11))
  obtain ⟨q8, hq8⟩ : ∃ q, q = w10.heap.size := ⟨_, rfl⟩
  rw [← hq8] at HQ11
  rw [← hq8]
  have HQ8 := hideIt hq8
  clear hq8 HBX9
  have HB911 := hideIt (HB9.out.trans (HB11.out.mono HB9.out.size))
  have GD11 := hideIt (GD9.out.trans (HB911.out.mono GD9.out.size))
  have HH11 := hideIt (HH9.out.kept HB911.out HH9.out.lt)
  have HS11 := hideIt ((HS9.out.below HB11.out).wide HB11.out.size)
  have HBX11 := hideIt (HXW.out w11 GD11.out).box
  have HAL := hideIt (all_any lrX A 3 w11 (HTW.out w11 GD11.out) (HXW.out w11 GD11.out).cin lr2 (some ⟨w2.heap.size, 0, none⟩) 7 (sl_blk9 HH11.out rfl))
  rw [lr_all] at HAL
  go_upto_region 9 with (first
    | ((with_reducible refine at_load ?_); refine wpList_ldC (by kernel_rfl) (.tmp 1) rfl (p := p) (c := 3) rfl HBX11.out ?_)
    | (go_at_call 20; refine HAL.out.mono ?_; rintro e w12 ⟨v12, rfl, hj12, hb12⟩; obtain ⟨A12, c12, hv12, _⟩ := hj12.form; subst hv12; have HB12 := hideIt hb12; clear hj12 hb12 HAL))
  have GD12 := hideIt (GD11.out.trans (HB12.out.mono GD11.out.size))
  have HH12 := hideIt (HH11.out.kept HB12.out HH11.out.lt)
  have hc5 := HH12.out.cell 5
  have hf5 := HH12.out.free 5
  clear HBX11 HH11
  go_upto_region 10 with fail
  clear hc5 hf5
  obtain ⟨W13, hW13⟩ : ∃ W, W = w12.setCell ⟨w2.heap.size, 5, none⟩ (.bool false) := ⟨_, rfl⟩
  have GD13 := hideIt (show Below w2.heap.size w2 W13 by rw [hW13]; exact GD12.out.setCell (p := ⟨w2.heap.size, 5, none⟩) (Nat.le_refl _) _)
  have HH13 := hideIt (show Blk W13 w2.heap.size 4 (lr3.map bl) by rw [hW13]; exact HH12.out.store 5 (.bool false))
  have K1113 := hideIt (show Keeps (fun k => k = w2.heap.size) w11 W13 by rw [hW13]; exact (Keeps.of_below HB12.out).of_set 5 _)
  have HBX13 := hideIt (HXW.out W13 GD13.out).box
  have HPL13 := hideIt (HPN.out lr3 W13 GD13.out (sl_blk9 HH13.out rfl))
  rw [lr_p3] at HPL13
  have HPL13 := hideIt (show Calls Tryd.prog 12 #[lrX.v A 3, .slice (some ⟨w2.heap.size, 0, none⟩) 7 7, .int .i64 2] W13 (fun e w' => ∃ A9 c9, e = .returned (.tuple #[.agg #[.int .i64 0, .slice A9 0 c9], .int .i64 11]) ∧ Sl w' w'.heap.size A9 2 0 (tcs []) ∧ (∀ b o, A9 = some ⟨b, o, none⟩ → W13.heap.size ≤ b) ∧ Below W13.heap.size W13 w') from HPL13.out)
  rw [← hW13]
  clear hW13 HH12 GD12
  go_upto_region 11 with (first
    | ((with_reducible refine at_load ?_); refine wpList_ldC (by kernel_rfl) (.tmp 1) rfl (p := p) (c := 3) rfl HBX13.out ?_)
    | (go_at_call 12; refine HPL13.out.mono ?_; rintro e w14 ⟨A13, c13, rfl, _, _, hb13⟩; have HB13 := hideIt hb13; clear hb13 HPL13)
    | ((with_reducible refine at_store ?_); refine wpList_put rfl _ (.tmp 12) (.tmp 53) rfl w14.heap.size [.int .i64 0, .slice A13 0 c13] [.int .i64 0, .slice none 0 0] 30 rfl rfl (Blk.new w14 30 [.int .i64 0, .slice none 0 0]) iszP rfl (by simp [Value.oneCell']) ?_; intro w15 ht15 hb15; have HB15 := hideIt (ht15.below (below_new w14 (.cells #[.int .i64 0, .slice none 0 0] 30)) (Nat.le_refl _)); clear ht15 hb15))
  have HB1315 := hideIt (HB13.out.trans (HB15.out.mono HB13.out.size))
  have GD15 := hideIt (GD13.out.trans (HB1315.out.mono GD13.out.size))
  have K1115 := hideIt (K1113.out.trans (Keeps.of_below HB1315.out))
  have K415 := hideIt (K49.out.trans ((Keeps.of_below HB911.out).trans K1115.out))
  have K615 := hideIt (K69.out.trans ((Keeps.of_below HB911.out).trans K1115.out))
  have HP15 := hideIt (show Blk w15 q4 30 [.int .i64 2, .slice A5 2 c5] from (K615.out.block q4 HP6.out.lt (by have h1 := HQ4.out; have h2 := HZ4.out; have h3 := HB5.out.size; omega)).trans HP6.out)
  have HQ15 := hideIt (show Blk w15 q8 30 [.int .i64 2, .slice A9 4 c9] from (K1115.out.block q8 HQ11.out.lt (by have h1 := HQ8.out; have h2 := HZ9.out; have h3 := HB9.out.size; omega)).trans HQ11.out)
  have HS515 := hideIt (show Sl w15 w15.heap.size A5 2 2 (tcs [(3, 1), (5, 1)]) from HS6.out.mv K615.out.size fun b o hA ⟨_, _, _, hh⟩ _ => K615.out.block b (Array.getElem?_eq_some_iff.1 hh).1 (by have h1 := HLO5.out b o hA; have h2 := HZ4.out; omega))
  have HS915 := hideIt (show Sl w15 w15.heap.size A9 2 4 (tcs [(0, 61), (1, 122), (5, 245), (6, 61)]) from HS11.out.mv K1115.out.size fun b o hA ⟨_, _, _, hh⟩ _ => K1115.out.block b (Array.getElem?_eq_some_iff.1 hh).1 (by have h1 := HLO9.out b o hA; have h2 := HZ9.out; omega))
  have HJ15 := hideIt (HJ4.out.mvK K415.out HLT.out HH44.out)
  obtain ⟨g, o, c4, A0, c0, A1, c1, hv, hg, hc0, hc1, hs0, hs1⟩ := rj_two HJ15.out
  subst hv
  have HG := hideIt hg
  have HC0 := hideIt hc0
  have HC1 := hideIt hc1
  have HS0 := hideIt hs0
  have HS1 := hideIt hs1
  have HL15 := hideIt (HL2.out.trans (GD15.out.mono HL2.out.size))
  try clear hg
  try clear hc0
  try clear hc1
  try clear hs0
  try clear hs1
  try clear HJ15
  try clear HJ4
  try clear K49
  try clear K69
  try clear K1113
  try clear K1115
  try clear K415
  try clear K615
  try clear HB1315
  try clear HB13
  try clear HB15
  try clear HB12
  try clear HB911
  try clear HB11
  try clear HB9
  try clear HB48
  try clear HB68
  try clear HB67
  try clear HB8
  try clear HB46
  try clear HB6
  try clear HB5
  try clear HB4
  try clear HH44
  try clear HH3
  try clear GD3
  try clear GD4
  try clear GD6
  try clear GD9
  try clear GD11
  try clear GD13
  try clear HZ4
  try clear HZ9
  try clear HS5
  try clear HS6
  try clear HS9
  try clear HS11
  try clear HP8
  try clear HP6
  try clear HQ11
  try clear HQ4
  try clear HQ8
  try clear HH9
  try clear HH13
  try clear HBX13
  try clear HLO5
  try clear HLO9
  try clear HPN
  try clear HH4
  try clear HLT
  have HBX15 := hideIt (HXW.out w15 GD15.out).box
  have HPL15 := hideIt (plan_any lrX A 3 w15 (HTW.out w15 GD15.out) (HXW.out w15 GD15.out).cin [] none 0 (Sl.nil _ _ _ _) 2)
  rw [lr_p4] at HPL15
  have HPL15 := hideIt (show Calls Tryd.prog 12 #[lrX.v A 3, .slice none 0 0, .int .i64 2] w15 (fun e w' => ∃ A9 c9, e = .returned (.tuple #[.agg #[.int .i64 0, .slice A9 0 c9], .int .i64 1]) ∧ Sl w' w'.heap.size A9 2 0 (tcs []) ∧ (∀ b o, A9 = some ⟨b, o, none⟩ → w15.heap.size ≤ b) ∧ Below w15.heap.size w15 w') from HPL15.out)
  go_upto_region 12 with (first
    | ((with_reducible refine at_load ?_); refine wpList_ldC (by kernel_rfl) (.tmp 1) rfl (p := p) (c := 3) rfl HBX15.out ?_)
    | (go_at_call 12; refine HPL15.out.mono ?_; rintro e w16 ⟨A16, c16, rfl, _, _, hb16⟩; have HB16 := hideIt hb16; clear hb16 HPL15)
    | ((with_reducible refine at_store ?_); refine wpList_put rfl _ (.tmp 14) (.tmp 58) rfl w16.heap.size [.int .i64 0, .slice A16 0 c16] [.int .i64 0, .slice none 0 0] 30 rfl rfl (Blk.new w16 30 [.int .i64 0, .slice none 0 0]) iszP rfl (by simp [Value.oneCell']) ?_; intro w17 ht17 hb17; have HT17 := hideIt (ht17.below (below_new w16 (.cells #[.int .i64 0, .slice none 0 0] 30)) (Nat.le_refl _)); clear ht17 hb17))
  have HB17 := hideIt (HB16.out.trans (HT17.out.mono HB16.out.size))
  clear HB16 HT17 HBX15 HTW HXW HT
  have hcz := (HB17.out.cell (p := ⟨g, o, none⟩) HG.out).trans HC0.out
  have HI := hideIt (fun (xs : List Int) (A' : Option Addr) (c' : Nat) (W : World) (hs : Sl w15 w15.heap.size A' 1 xs.length (xs.map iv)) (hl : xs.length ≤ 100000) (g : Below w15.heap.size w15 W) => (show Calls Tryd.prog 16 #[.slice A' xs.length c', .slice (some ⟨W.heap.size, 0, none⟩) xs.length xs.length] (W.alloc (.cells (xs.map iv).toArray 3)) (fun e w' => e = .returned (.bool true) ∧ Below w15.heap.size w15 w') from by
    have b1 := g.trans ((below_new W (.cells (xs.map iv).toArray 3)).mono g.size)
    have q := sl_new10 W 3 (xs.map iv)
    rw [List.length_map] at q
    refine (sameInts_any xs xs A' _ c' _ _ ((hs.below b1).wide b1.size) q hl).mono ?_
    rintro e w' ⟨rfl, n, rfl⟩
    exact ⟨by rw [decide_eq_true rfl], below_drewN b1 n⟩))
  have HSM := hideIt (fun (W : World) (g : Below w15.heap.size w15 W) => (show Calls Tryd.prog 17 #[.agg #[.int .i64 2, .slice A5 2 c5], .agg #[.int .i64 2, .slice (some ⟨W.heap.size, 0, none⟩) 2 2]] (W.alloc (.cells #[.int .i64 3, .int .i64 1, .int .i64 5, .int .i64 1] 54)) (fun e w' => e = .returned (.bool true) ∧ Below w15.heap.size w15 w') from by
    have b1 := g.trans ((below_new W (.cells #[.int .i64 3, .int .i64 1, .int .i64 5, .int .i64 1] 54)).mono g.size)
    have q : Sl (W.alloc (.cells #[.int .i64 3, .int .i64 1, .int .i64 5, .int .i64 1] 54)) (W.alloc (.cells #[.int .i64 3, .int .i64 1, .int .i64 5, .int .i64 1] 54)).heap.size (some ⟨W.heap.size, 0, none⟩) 2 2 (tcs [(3, 1), (5, 1)]) := sl_blk9 (Blk.new W 54 [.int .i64 3, .int .i64 1, .int .i64 5, .int .i64 1]) rfl
    refine (rsame_any 2 2 [(3, 1), (5, 1)] [(3, 1), (5, 1)] (by decide) A5 _ c5 2 _ ((HS515.out.below b1).wide b1.size) q).mono ?_
    rintro e w' ⟨rfl, hb⟩
    exact ⟨rfl, b1.trans (hb.mono b1.size)⟩))
  have HRD := hideIt (fun (W : World) (g : Below w15.heap.size w15 W) => (show Calls Tryd.prog 18 #[.agg #[.int .i64 2, .slice A9 4 c9]] W (fun e w' => ∃ D cd, e = .returned (.slice D 4 cd) ∧ Sl w' w'.heap.size D 1 4 (([0, 1, 5, 6] : List Int).map iv) ∧ Below W.heap.size W w') from
    preads_any 2 [(0, 61), (1, 122), (5, 245), (6, 61)] (by decide) A9 c9 W ((HS915.out.below g).wide g.size)))
  have HI3 := hideIt (fun (A' : Option Addr) (c' : Nat) (W : World) (hs : Sl W W.heap.size A' 1 4 (([0, 1, 5, 6] : List Int).map iv)) (g : Below w15.heap.size w15 W) => (show Calls Tryd.prog 16 #[.slice A' 4 c', .slice (some ⟨W.heap.size, 0, none⟩) 4 4] (W.alloc (.cells (([0, 1, 5, 6] : List Int).map iv).toArray 3)) (fun e w' => e = .returned (.bool true) ∧ Below w15.heap.size w15 w') from by
    have b0 := below_new W (.cells (([0, 1, 5, 6] : List Int).map iv).toArray 3)
    refine (sameInts_any [0, 1, 5, 6] [0, 1, 5, 6] A' _ c' 4 _ ((hs.below b0).wide b0.size) (sl_new10 W 3 _) (by decide)).mono ?_
    rintro e w' ⟨rfl, n, rfl⟩
    exact ⟨rfl, below_drewN (g.trans (b0.mono g.size)) n⟩))
  have hse : (str [3]).toList = [3] := by rw [ByteArray.toList_eq]; rfl
  go_wp2_with (first
    | (go_at_call 16; refine (HI.out [2, 3, 5] A0 c0 w17 HS0.out (by decide) HB17.out).mono ?_; rintro e w18 ⟨rfl, hb18⟩; have HB18 := hideIt hb18; have hcy := (hb18.cell (p := ⟨g, o + 1, none⟩) HG.out).trans HC1.out; clear hb18 HS0)
    | (go_at_call 16; refine (HI.out [0, 1, 2, 3, 6] A1 c1 w18 HS1.out (by decide) HB18.out).mono ?_; rintro e w19 ⟨rfl, hb19⟩; have HB19 := hideIt hb19; have hp0 : w19.cell? ⟨q4, 0, none⟩ = some (.int .i64 2) := (HP15.out.kept hb19 HP15.out.lt).cell 0; have hp1 : w19.cell? ⟨q4, 1, none⟩ = some (.slice A5 2 c5) := (HP15.out.kept hb19 HP15.out.lt).cell 1; clear hb19 HS1)
    | (go_at_call 17; refine (HSM.out w19 HB19.out).mono ?_; rintro e w20 ⟨rfl, hb20⟩; have HB20 := hideIt hb20; have hq0 : w20.cell? ⟨q8, 0, none⟩ = some (.int .i64 2) := (HQ15.out.kept hb20 HQ15.out.lt).cell 0; have hq1 : w20.cell? ⟨q8, 1, none⟩ = some (.slice A9 4 c9) := (HQ15.out.kept hb20 HQ15.out.lt).cell 1; clear hb20 HSM hp0 hp1)
    | (go_at_call 18; refine (HRD.out w20 HB20.out).mono ?_; rintro e w21 ⟨D, cd, rfl, hs21, hb21⟩; have HS21 := hideIt hs21; have HB21 := hideIt (HB20.out.trans (hb21.mono HB20.out.size)); clear hs21 hb21 HRD)
    | (go_at_call 16; refine (HI3.out D cd w21 HS21.out HB21.out).mono ?_; rintro e w22 ⟨rfl, hb22⟩; have HB22 := hideIt hb22; clear hb22 HI3))
  go_ret
  exact ⟨rfl, HL15.out.trans (HB22.out.mono HL15.out.size)⟩
end Go.Proofs.YtklngodlijiccaaDoor
