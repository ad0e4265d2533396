/-
  The program's functions by contract (Pg), and the laws' check, walked.
-/
import Derived.Deep.DeepCutAuto
import Derived.Test.YtkfahoaiialndaaGreatDoorD9a
import Derived.Test.YtkfahoaiialndaaGreatDoorD9b
import Derived.Test.YtkfahoaiialndaaGreatDoorD9c
import Derived.Test.YtkfahoaiialndaaGreatDoorD9d
import Derived.Test.YtkfahoaiialndaaGreatDoorD9f
import Derived.Test.YtkfahoaiialndaaGreatDoorDstA
import Derived.Test.YtkfahoaiialndaaGreatDoorDstB
import Derived.Test.YtkfahoaiialndaaGreatDoorDstR
import Derived.Test.YtkfahoaiialndaaGreatDoorDstS
import Derived.Test.YtkfahoaiialndaaGreatDoorDstW
import Derived.Test.YtkfahoaiialndaaGreatDoorDstH
import Derived.Test.YtkfahoaiialndaaGreatDoorDstK
namespace Go.Proofs.YtkfahoaiialndaaGreatDoor
open Go.RowKit
set_option linter.unusedVariables false
set_option linter.unusedSimpArgs false

/-- What the program's functions answer. -/
structure Pg : Prop where
  losses : ∀ (x : Cd) (A : Option Addr) (c : Nat) (w : World), Tabs w → CIn w x A → x.name.length ≤ 9223372036854775807 → Sm9 x →
    Calls Tryz.prog 11 #[x.v A c] w fun e w' => e = .returned (.int .i64 (leftZ (dcX x) (okX x (wdN x)) (List.replicate (wdN x) true))) ∧ Below w.heap.size w w'
  left : ∀ (x : Cd) (A : Option Addr) (c : Nat) (w : World), Tabs w → CIn w x A → x.name.length ≤ 9223372036854775807 → Sm9 x → ∀ (hs : List Bool) (D : Option Addr) (cd : Nat), hs.length ≤ 1000 → Sl w w.heap.size D 1 hs.length (hs.map bl) →
    Calls Tryz.prog 13 #[x.v A c, .slice D hs.length cd] w fun e w' => e = .returned (.int .i64 (leftZ (dcX x) (okX x hs.length) hs)) ∧ Below w.heap.size w w'
  fatal : ∀ (x : Cd) (A : Option Addr) (c : Nat) (w : World), Tabs w → CIn w x A → x.name.length ≤ 9223372036854775807 → Sm9 x → ∀ (hs : List Bool) (D : Option Addr) (cd : Nat), hs.length ≤ 1000 → Sl w w.heap.size D 1 hs.length (hs.map bl) →
    Calls Tryz.prog 16 #[x.v A c, .slice D hs.length cd] w (RdRes w (fatZ (dcX x) (okX x hs.length) hs))
  racks : ∀ (x : Cd) (A : Option Addr) (c : Nat) (w : World), Tabs w → CIn w x A → x.name.length ≤ 9223372036854775807 → Sm9 x → ∀ (rs : List Int) (R : Option Addr) (cr : Nat), rs.length ≤ 1000 → Sl w w.heap.size R 1 rs.length (rs.map iv) →
    Calls Tryz.prog 18 #[x.v A c, .slice R rs.length cr] w fun e w' => e = .returned (.int .i64 (racksZ (dcX x) (okX x rs.length) rs)) ∧ Below w.heap.size w w'

theorem code9_any (A : Option Addr) (n c : Nat) (w : World) :
    Calls Tryz.prog 23 #[.slice A n c] w fun e w' => e = .returned (cdV [114, 115] 8 2 (.slice A n c) 1) ∧ Below w.heap.size w w' := by
  go_enter Tryz.func23, Tryz.ntmps23
  go_wp2_with fail
  exact bodyPost_ret (ret_blk rfl (Blk.new w 24 (cdC [114, 115] 8 2 (.slice A n c) 1)) _ rfl Tryz.underlying24 rfl isz5) rfl ⟨rfl, below_new w _⟩
theorem sl_blk9 {W : World} {g n : Nat} {t : TypeId} {cs : List Value} (h : Blk W g t cs) (hl : cs.length = n) : Sl W W.heap.size (some ⟨g, 0, none⟩) 1 n cs :=
  ⟨by rw [hl, Nat.mul_one], fun _ => ⟨g, 0, rfl, h.lt, fun j u hj => by rw [Nat.zero_add, h.cell]; exact hj⟩⟩
theorem sl_new9 (w : World) (t : TypeId) (cs : List Value) : Sl (w.alloc (.cells cs.toArray t)) (w.alloc (.cells cs.toArray t)).heap.size (some ⟨w.heap.size, 0, none⟩) 1 cs.length cs := sl_blk9 (Blk.new w t cs) rfl
/-- The rows of rs. -/
theorem rs_cin (w : World) : CIn (((w.alloc (.cells #[.int .i64 1, .int .i64 1] 3)).alloc (.cells #[.int .i64 1, .int .i64 2] 3)).alloc (.cells #[.slice (some ⟨w.heap.size, 0, none⟩) 2 2, .slice (some ⟨w.heap.size + 1, 0, none⟩) 2 2] 26)) rsX (some ⟨w.heap.size + 1 + 1, 0, none⟩)
    ∧ Below w.heap.size w (((w.alloc (.cells #[.int .i64 1, .int .i64 1] 3)).alloc (.cells #[.int .i64 1, .int .i64 2] 3)).alloc (.cells #[.slice (some ⟨w.heap.size, 0, none⟩) 2 2, .slice (some ⟨w.heap.size + 1, 0, none⟩) 2 2] 26)) := by
  obtain ⟨w1, hw1⟩ : ∃ W, W = w.alloc (.cells #[.int .i64 1, .int .i64 1] 3) := ⟨_, rfl⟩
  rw [← hw1]
  obtain ⟨w2, hw2⟩ : ∃ W, W = w1.alloc (.cells #[.int .i64 1, .int .i64 2] 3) := ⟨_, rfl⟩
  rw [← hw2]
  obtain ⟨w3, hw3⟩ : ∃ W, W = w2.alloc (.cells #[.slice (some ⟨w.heap.size, 0, none⟩) 2 2, .slice (some ⟨w.heap.size + 1, 0, none⟩) 2 2] 26) := ⟨_, rfl⟩
  rw [← hw3]
  have s1 : w1.heap.size = w.heap.size + 1 := by rw [hw1]; simp
  have s2 : w2.heap.size = w.heap.size + 1 + 1 := by rw [hw2]; simp [s1]
  have hb1 : Below w.heap.size w w1 := by rw [hw1]; exact below_new w _
  have hb2 : Below w1.heap.size w1 w2 := by rw [hw2]; exact below_new w1 _
  have hb3 : Below w2.heap.size w2 w3 := by rw [hw3]; exact below_new w2 _
  have r1 : Sl w1 w1.heap.size (some ⟨w.heap.size, 0, none⟩) 1 2 (([1, 1] : List Int).map iv) := by rw [hw1]; exact sl_new9 w 3 _
  have r2 : Sl w2 w2.heap.size (some ⟨w.heap.size + 1, 0, none⟩) 1 2 (([1, 2] : List Int).map iv) := by rw [← s1, hw2]; exact sl_new9 w1 3 _
  have hb : Sl w3 w3.heap.size (some ⟨w.heap.size + 1 + 1, 0, none⟩) 1 2 [.slice (some ⟨w.heap.size, 0, none⟩) 2 2, .slice (some ⟨w.heap.size + 1, 0, none⟩) 2 2] := by rw [← s2, hw3]; exact sl_new9 w2 26 _
  refine ⟨⟨⟨[.slice (some ⟨w.heap.size, 0, none⟩) 2 2, .slice (some ⟨w.heap.size + 1, 0, none⟩) 2 2], hb, ⟨_, _, rfl, ?_⟩, ⟨_, _, rfl, ?_⟩, trivial⟩, by decide, by decide⟩, (hb1.trans (hb2.mono hb1.size)).trans (hb3.mono (Nat.le_trans hb1.size hb2.size))⟩
  · exact (((r1.below hb2).wide hb2.size).below hb3).wide hb3.size
  · exact (r2.below hb3).wide hb3.size
theorem pa_cin (w : World) : CIn ((w.alloc (.cells #[.int .i64 1, .int .i64 1] 3)).alloc (.cells #[.slice (some ⟨w.heap.size, 0, none⟩) 2 2] 26)) paX (some ⟨w.heap.size + 1, 0, none⟩)
    ∧ Below w.heap.size w ((w.alloc (.cells #[.int .i64 1, .int .i64 1] 3)).alloc (.cells #[.slice (some ⟨w.heap.size, 0, none⟩) 2 2] 26)) := by
  obtain ⟨w1, hw1⟩ : ∃ W, W = w.alloc (.cells #[.int .i64 1, .int .i64 1] 3) := ⟨_, rfl⟩
  rw [← hw1]
  obtain ⟨w3, hw3⟩ : ∃ W, W = w1.alloc (.cells #[.slice (some ⟨w.heap.size, 0, none⟩) 2 2] 26) := ⟨_, rfl⟩
  rw [← hw3]
  have s1 : w1.heap.size = w.heap.size + 1 := by rw [hw1]; simp
  have hb1 : Below w.heap.size w w1 := by rw [hw1]; exact below_new w _
  have hb3 : Below w1.heap.size w1 w3 := by rw [hw3]; exact below_new w1 _
  have r1 : Sl w1 w1.heap.size (some ⟨w.heap.size, 0, none⟩) 1 2 (([1, 1] : List Int).map iv) := by rw [hw1]; exact sl_new9 w 3 _
  have hb : Sl w3 w3.heap.size (some ⟨w.heap.size + 1, 0, none⟩) 1 1 [.slice (some ⟨w.heap.size, 0, none⟩) 2 2] := by rw [← s1, hw3]; exact sl_new9 w1 26 _
  refine ⟨⟨⟨[.slice (some ⟨w.heap.size, 0, none⟩) 2 2], hb, ⟨_, _, rfl, ?_⟩, trivial⟩, by decide, by decide⟩, hb1.trans (hb3.mono hb1.size)⟩
  exact (r1.below hb3).wide hb3.size
set_option maxHeartbeats 4000000 in
set_option maxRecDepth 100000 in
theorem sanity_any (pg : Pg) (w : World) (hT : Tabs w) : Calls Tryz.prog 10 #[] w fun e w' => e = .returned (.bool true) ∧ Below w.heap.size w w' := by
  have HT := hideIt hT
  have HPG := hideIt pg
  clear hT pg
  go_enter Tryz.func10, Tryz.ntmps10
  go_upto_region 2 with (go_at_call 23; refine (code9_any _ _ _ _).mono ?_; rintro e wa ⟨rfl, hba⟩; have HBA := hideIt hba; clear hba)
  have HC1 := hideIt ((rs_cin w).1.keep HBA.out)
  have HL1 := hideIt ((rs_cin w).2.trans (HBA.out.mono (rs_cin w).2.size))
  obtain ⟨W1, hW1⟩ : ∃ W, W = wa.alloc (.cells #[.string (str [114, 115]), .int .i64 8, .int .i64 2, .slice (some ⟨w.heap.size + 1 + 1, 0, none⟩) 2 2, .int .i64 1] 24) := ⟨_, rfl⟩
  have HX1 := hideIt (show BC W1 wa.heap.size rsX (some ⟨w.heap.size + 1 + 1, 0, none⟩) 2 by rw [hW1]; exact BC.new 2 HC1.out)
  have HB1 := hideIt (show Below w.heap.size w W1 by rw [hW1]; exact HL1.out.trans ((below_new wa _).mono HL1.out.size))
  obtain ⟨p1, hp1⟩ : ∃ p, p = wa.heap.size := ⟨_, rfl⟩
  obtain ⟨A1, hA1⟩ : ∃ A, A = (some ⟨w.heap.size + 1 + 1, 0, none⟩ : Option Addr) := ⟨_, rfl⟩
  rw [← hp1, ← hA1] at HX1
  rw [← hW1, ← hp1]
  clear hW1 hp1 hA1 HC1 HL1 HBA
  go_upto_region 3 with (go_at_call 23; refine (code9_any _ _ _ _).mono ?_; rintro e wb ⟨rfl, hbb⟩; have HBB := hideIt hbb; clear hbb)
  have HC2 := hideIt ((pa_cin W1).1.keep HBB.out)
  have HL2 := hideIt ((pa_cin W1).2.trans (HBB.out.mono (pa_cin W1).2.size))
  obtain ⟨W2, hW2⟩ : ∃ W, W = wb.alloc (.cells #[.string (str [114, 115]), .int .i64 8, .int .i64 2, .slice (some ⟨W1.heap.size + 1, 0, none⟩) 1 1, .int .i64 1] 24) := ⟨_, rfl⟩
  have HX2 := hideIt (show BC W2 wb.heap.size paX (some ⟨W1.heap.size + 1, 0, none⟩) 1 by rw [hW2]; exact BC.new 1 HC2.out)
  have HB2 := hideIt (show Below W1.heap.size W1 W2 by rw [hW2]; exact HL2.out.trans ((below_new wb _).mono HL2.out.size))
  obtain ⟨p2, hp2⟩ : ∃ p, p = wb.heap.size := ⟨_, rfl⟩
  obtain ⟨A2, hA2⟩ : ∃ A, A = (some ⟨W1.heap.size + 1, 0, none⟩ : Option Addr) := ⟨_, rfl⟩
  rw [← hp2, ← hA2] at HX2
  rw [← hW2, ← hp2]
  clear hW2 hp2 hA2 HC2 HL2 HBB
  go_upto_region 4 with fail
  obtain ⟨W4, hW4⟩ : ∃ W, W = W2.alloc (.cells #[.bool false, .bool true, .bool true, .bool true] 4) := ⟨_, rfl⟩
  have HSH := hideIt (show Sl W4 W4.heap.size (some ⟨W2.heap.size, 0, none⟩) 1 4 (([false, true, true, true] : List Bool).map bl) by rw [hW4]; exact sl_new9 W2 4 ([false, true, true, true].map bl))
  have HB4 := hideIt (show Below W2.heap.size W2 W4 by rw [hW4]; exact below_new W2 _)
  have HB := hideIt (HB1.out.trans ((HB2.out.trans (HB4.out.mono HB2.out.size)).mono HB1.out.size))
  have HTW := hideIt (fun (W : World) (h : Below W4.heap.size W4 W) => HT.out.keep (HB.out.trans (h.mono HB.out.size)))
  have HY1 := hideIt (fun (W : World) (h : Below W4.heap.size W4 W) => (HX1.out.keep (HB2.out.trans (HB4.out.mono HB2.out.size))).keep h)
  have HY2 := hideIt (fun (W : World) (h : Below W4.heap.size W4 W) => (HX2.out.keep HB4.out).keep h)
  obtain ⟨AH, hAH⟩ : ∃ A, A = (some ⟨W2.heap.size, 0, none⟩ : Option Addr) := ⟨_, rfl⟩
  rw [← hAH] at HSH
  rw [← hW4, ← hAH]
  clear hW4 hAH HB1 HB2 HB4 HX1 HX2 HT
  have HLS1 := hideIt (fun (W : World) (h : Below W4.heap.size W4 W) => show Calls Tryz.prog 11 #[rsX.v A1 2] W (fun e w' => e = .returned (.int .i64 2) ∧ Below W.heap.size W w') by
    have := HPG.out.losses rsX A1 2 W (HTW.out W h) (HY1.out W h).cin (by decide) rs_sm
    rw [show wdN rsX = 4 from rfl, ex_los] at this
    exact this)
  have HLS2 := hideIt (fun (W : World) (h : Below W4.heap.size W4 W) => show Calls Tryz.prog 11 #[paX.v A2 1] W (fun e w' => e = .returned (.int .i64 1) ∧ Below W.heap.size W w') by
    have := HPG.out.losses paX A2 1 W (HTW.out W h) (HY2.out W h).cin (by decide) pa_sm
    rw [show wdN paX = 3 from rfl, ex_lospa] at this
    exact this)
  have HLF := hideIt (fun (W : World) (h : Below W4.heap.size W4 W) => show Calls Tryz.prog 13 #[rsX.v A1 2, .slice AH 4 4] W (fun e w' => e = .returned (.int .i64 1) ∧ Below W.heap.size W w') by
    have := HPG.out.left rsX A1 2 W (HTW.out W h) (HY1.out W h).cin (by decide) rs_sm [false, true, true, true] AH 4 (by decide) ((HSH.out.below h).wide h.size)
    rw [show ([false, true, true, true] : List Bool).length = 4 from rfl, ex_left] at this
    exact this)
  have HFT := hideIt (fun (W : World) (h : Below W4.heap.size W4 W) => show Calls Tryz.prog 16 #[rsX.v A1 2, .slice AH 4 4] W (fun e w' => ∃ F cf, e = .returned (.slice F 2 cf) ∧ Sl w' w'.heap.size F 1 2 ((nI [1, 2]).map iv) ∧ Below W.heap.size W w') by
    have := HPG.out.fatal rsX A1 2 W (HTW.out W h) (HY1.out W h).cin (by decide) rs_sm [false, true, true, true] AH 4 (by decide) ((HSH.out.below h).wide h.size)
    rw [show ([false, true, true, true] : List Bool).length = 4 from rfl, ex_fat] at this
    exact this)
  have HIN := hideIt (fun (W : World) (F : Option Addr) (cf : Nat) (hs : Sl W W.heap.size F 1 2 ((nI [1, 2]).map iv)) => show Calls Tryz.prog 15 #[.slice F 2 cf, .slice (some ⟨W.heap.size, 0, none⟩) 2 2] (W.alloc (.cells #[.int .i64 1, .int .i64 2] 3)) (fun e w' => e = .returned (.bool true) ∧ Below W.heap.size W w') by
    have hb := below_new W (.cells #[.int .i64 1, .int .i64 2] 3)
    have := ints_any [1, 2] [1, 2] F (some ⟨W.heap.size, 0, none⟩) cf 2 _ ((hs.below hb).wide hb.size) (sl_new9 W 3 ([1, 2].map iv)) (by decide)
    rw [decide_eq_true rfl] at this
    refine this.mono ?_
    rintro e w' ⟨rfl, n, rfl⟩
    exact ⟨rfl, below_drewN hb n⟩)
  have HLP := hideIt (fun (W : World) (h : Below W4.heap.size W4 W) => show Calls Tryz.prog 13 #[paX.v A2 1, .slice (some ⟨W.heap.size, 0, none⟩) 3 3] (W.alloc (.cells #[.bool false, .bool false, .bool true] 4)) (fun e w' => e = .returned (.int .i64 (-1)) ∧ Below W.heap.size W w') by
    have hb := below_new W (.cells #[.bool false, .bool false, .bool true] 4)
    have h2 := h.trans (hb.mono h.size)
    have := HPG.out.left paX A2 1 _ (HTW.out _ h2) (HY2.out _ h2).cin (by decide) pa_sm [false, false, true] (some ⟨W.heap.size, 0, none⟩) 3 (by decide) (sl_new9 W 4 ([false, false, true].map bl))
    rw [show ([false, false, true] : List Bool).length = 3 from rfl, ex_leftpa] at this
    refine this.mono ?_
    rintro e w' ⟨rfl, hb3⟩
    exact ⟨rfl, hb.trans (hb3.mono hb.size)⟩)
  have HRK := hideIt (fun (W : World) (h : Below W4.heap.size W4 W) (l : List Int) (r : Int) (hl : l.length = 4) (hr : racksZ (dcX rsX) (okX rsX 4) l = r) => show Calls Tryz.prog 18 #[rsX.v A1 2, .slice (some ⟨W.heap.size, 0, none⟩) 4 4] (W.alloc (.cells (l.map iv).toArray 3)) (fun e w' => e = .returned (.int .i64 r) ∧ Below W.heap.size W w') by
    have hb := below_new W (.cells (l.map iv).toArray 3)
    have h2 := h.trans (hb.mono h.size)
    have := HPG.out.racks rsX A1 2 _ (HTW.out _ h2) (HY1.out _ h2).cin (by decide) rs_sm l (some ⟨W.heap.size, 0, none⟩) 4 (by omega) (by have := sl_new9 W 3 (l.map iv); rwa [List.length_map] at this)
    rw [hl, hr] at this
    refine this.mono ?_
    rintro e w' ⟨rfl, hb3⟩
    exact ⟨rfl, hb.trans (hb3.mono hb.size)⟩)
  have HR1 := hideIt (fun (W : World) (h : Below W4.heap.size W4 W) => show Calls Tryz.prog 18 #[rsX.v A1 2, .slice (some ⟨W.heap.size, 0, none⟩) 4 4] (W.alloc (.cells #[.int .i64 0, .int .i64 0, .int .i64 1, .int .i64 1] 3)) (fun e w' => e = .returned (.int .i64 1) ∧ Below W.heap.size W w') from HRK.out W h [0, 0, 1, 1] 1 rfl ex_rack)
  have HR2 := hideIt (fun (W : World) (h : Below W4.heap.size W4 W) => show Calls Tryz.prog 18 #[rsX.v A1 2, .slice (some ⟨W.heap.size, 0, none⟩) 4 4] (W.alloc (.cells #[.int .i64 0, .int .i64 0, .int .i64 0, .int .i64 1] 3)) (fun e w' => e = .returned (.int .i64 0) ∧ Below W.heap.size W w') from HRK.out W h [0, 0, 0, 1] 0 rfl ex_rack0)
  clear HRK HPG HTW
  go_wp2_with (first
    | (go_at_call 11; refine (HLS1.out _ (Below.refl _ _)).mono ?_; rintro e w5 ⟨rfl, hb⟩; have G5 := hideIt (hb); clear hb HLS1)
    | (go_at_call 11; refine (HLS2.out _ G5.out).mono ?_; rintro e w6 ⟨rfl, hb⟩; have G6 := hideIt (G5.out.trans (hb.mono G5.out.size)); clear hb HLS2)
    | (go_at_call 13; refine (HLF.out _ G6.out).mono ?_; rintro e w7 ⟨rfl, hb⟩; have G7 := hideIt (G6.out.trans (hb.mono G6.out.size)); clear hb HLF)
    | (go_at_call 16; refine (HFT.out _ G7.out).mono ?_; rintro e w8 ⟨F8, cf8, rfl, hs8, hb⟩; have HS8 := hideIt hs8; have G8 := hideIt (G7.out.trans (hb.mono G7.out.size)); clear hs8 hb HFT)
    | (go_at_call 15; refine (HIN.out _ _ _ HS8.out).mono ?_; rintro e w9 ⟨rfl, hb⟩; have G9 := hideIt (G8.out.trans (hb.mono G8.out.size)); clear hb HIN)
    | (go_at_call 13; refine (HLP.out _ G9.out).mono ?_; rintro e w10 ⟨rfl, hb⟩; have G10 := hideIt (G9.out.trans (hb.mono G9.out.size)); clear hb HLP)
    | (go_at_call 18; refine (HR1.out _ G10.out).mono ?_; rintro e w11 ⟨rfl, hb⟩; have G11 := hideIt (G10.out.trans (hb.mono G10.out.size)); clear hb HR1)
    | (go_at_call 18; refine (HR2.out _ G11.out).mono ?_; rintro e w12 ⟨rfl, hb⟩; have G12 := hideIt (G11.out.trans (hb.mono G11.out.size)); clear hb HR2)
    | ((with_reducible refine at_load ?_); refine wpList_ldC (by kernel_rfl) (.tmp 1) rfl (p := p1) (c := 2) rfl (by first | exact (HY1.out _ G11.out).box | exact (HY1.out _ G10.out).box | exact (HY1.out _ G9.out).box | exact (HY1.out _ G8.out).box | exact (HY1.out _ G7.out).box | exact (HY1.out _ G6.out).box | exact (HY1.out _ (Below.refl _ _)).box) ?_)
    | ((with_reducible refine at_load ?_); refine wpList_ldC (by kernel_rfl) (.tmp 2) rfl (p := p2) (c := 1) rfl (by first | exact (HY2.out _ G9.out).box | exact (HY2.out _ G5.out).box) ?_))
  go_ret
  exact ⟨rfl, HB.out.trans (G12.out.mono HB.out.size)⟩
end Go.Proofs.YtkfahoaiialndaaGreatDoor
