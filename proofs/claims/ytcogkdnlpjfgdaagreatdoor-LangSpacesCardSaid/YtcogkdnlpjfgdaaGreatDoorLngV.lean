/-
  The program's parser, walked: definition.
-/
import Derived.Test.YtcogkdnlpjfgdaaGreatDoorLngU
import Derived.OrdersHeld
namespace Go.Proofs.YtcogkdnlpjfgdaaGreatDoor
open Go.RowKit
set_option linter.unusedVariables false
set_option linter.unusedSimpArgs false

def put9 (w : World) (g : Nat) (a0 a1 a2 a3 a4 a5 a6 a7 a8 : Value) : World :=
  ((((((((w.setCell ⟨g, 0, none⟩ a0).setCell ⟨g, 1, none⟩ a1).setCell ⟨g, 2, none⟩ a2).setCell ⟨g, 3, none⟩ a3).setCell ⟨g, 4, none⟩ a4).setCell ⟨g, 5, none⟩ a5).setCell ⟨g, 6, none⟩ a6).setCell ⟨g, 7, none⟩ a7).setCell ⟨g, 8, none⟩ a8
theorem put9_blk {w : World} {g : Nat} {c0 c1 c2 c3 c4 c5 c6 c7 c8 : Value} (h : Blk w g 80 [c0, c1, c2, c3, c4, c5, c6, c7, c8]) (a0 a1 a2 a3 a4 a5 a6 a7 a8 : Value) :
    Blk (put9 w g a0 a1 a2 a3 a4 a5 a6 a7 a8) g 80 [a0, a1, a2, a3, a4, a5, a6, a7, a8] :=
  (((((((((h.store 0 a0).store 1 a1).store 2 a2).store 3 a3).store 4 a4).store 5 a5).store 6 a6).store 7 a7).store 8 a8)
theorem put9_below {w : World} {g B : Nat} (hg : B ≤ g) (a0 a1 a2 a3 a4 a5 a6 a7 a8 : Value) : Below B w (put9 w g a0 a1 a2 a3 a4 a5 a6 a7 a8) :=
  below_set (below_set (below_set (below_set (below_set (below_set (below_set (below_set (below_set (Below.refl _ _) hg _ _) hg _ _) hg _ _) hg _ _) hg _ _) hg _ _) hg _ _) hg _ _) hg _ _
theorem put9_rows {w : World} {g C B : Nat} {v : Value} {xs : List Ln} {c0 c1 c2 c3 c4 c5 c6 c7 c8 : Value} (h : Blk w g 80 [c0, c1, c2, c3, c4, c5, c6, c7, c8]) (a0 a1 a2 a3 a4 a5 a6 a7 a8 : Value) (hr : RowsR w C B v xs) :
    RowsR (put9 w g a0 a1 a2 a3 a4 a5 a6 a7 a8) C B v xs := by
  have n1 : (80 : TypeId) ≠ 77 := by decide
  have n2 : (80 : TypeId) ≠ 107 := by decide
  have h0 := hr.set h n1 n2 0 a0
  have b0 := h.store 0 a0
  have h1 := h0.set b0 n1 n2 1 a1
  have b1 := b0.store 1 a1
  have h2 := h1.set b1 n1 n2 2 a2
  have b2 := b1.store 2 a2
  have h3 := h2.set b2 n1 n2 3 a3
  have b3 := b2.store 3 a3
  have h4 := h3.set b3 n1 n2 4 a4
  have b4 := b3.store 4 a4
  have h5 := h4.set b4 n1 n2 5 a5
  have b5 := b4.store 5 a5
  have h6 := h5.set b5 n1 n2 6 a6
  have b6 := b5.store 6 a6
  have h7 := h6.set b6 n1 n2 7 a7
  have b7 := b6.store 7 a7
  exact h7.set b7 n1 n2 8 a8
theorem two_sets {w : World} {g B : Nat} (hg : B ≤ g) (i j : Nat) (u v : Value) : Below B w ((w.setCell ⟨g, i, none⟩ u).setCell ⟨g, j, none⟩ v) := below_two hg i j u v
theorem row_i {l : List Tk} {S : PS} (h : (rowP l S).2.bad = -1) : S.i < (rowP l S).2.i := by
  have mono_fail : ∀ s : PS, (failP l s).i = s.i := fun s => by unfold failP; split <;> rfl
  have mono_must : ∀ (k : Bs) (s : PS), s.i ≤ (mustP l k s).i := fun k s => by
    unfold mustP
    split
    · exact Nat.le_succ _
    · rw [mono_fail]; exact Nat.le_refl _
  have mono_kind : ∀ (n : Nat) (s : PS), s.i ≤ (kindP l n s).i := fun n s => by
    unfold kindP
    split
    · exact Nat.le_succ _
    · rw [mono_fail]; exact Nat.le_refl _
  have mono_numsG : ∀ (f : Nat) (s : PS) (out : List Tk), s.i ≤ (numsG l f s out).2.i := by
    intro f
    induction f with
    | zero => intro s out; exact Nat.le_refl _
    | succ f ih =>
      intro s out
      rw [numsG]
      split
      · exact Nat.le_trans (mono_kind 2 s) (ih _ _)
      · exact Nat.le_refl _
  have mono_nums : ∀ s : PS, s.i ≤ (numsP l s).2.i := fun s => Nat.le_trans (mono_kind 2 s) (mono_numsG _ _ _)
  unfold rowP at h ⊢
  split at h
  · rename_i hl
    rw [if_pos hl]
    have h1 := mustP_ok (show (mustP l [59] _).bad < 0 by rw [h]; decide)
    show S.i < (mustP l [59] _).i
    rw [h1.2.2]
    have := mono_nums (mustP l [58] (numsP l (mustP l kLocal S)).2)
    have := mono_must [58] (numsP l (mustP l kLocal S)).2
    have := mono_nums (mustP l kLocal S)
    have := mono_must kLocal S
    dsimp only
    omega
  · rename_i hl
    rw [if_neg hl]
    have h1 := mustP_ok (show (mustP l [59] _).bad < 0 by rw [h]; decide)
    show S.i < (mustP l [59] _).i
    rw [h1.2.2]
    have := mono_nums (mustP l kParity S)
    have := mono_must kParity S
    dsimp only
    omega

theorem row_sl (t : Bs) (ht : t.length ≤ 2000) (pb B : Nat) (hB : B ≤ pb) (S : PS) (w : World) (hp : At t w pb S) (hBw : B ≤ w.heap.size) :
    Calls Tryz.prog 95 #[.pointer (some ⟨pb, 0, none⟩)] w fun e w' =>
      Ends t pb (rowP (toks t) S).2 (fun e w' => ∃ (p : Int) (tx : Bs) (A1 : Option Addr) (n1 c1 : Nat) (A2 : Option Addr) (n2 c2 : Nat), e = .returned (.agg #[.int .i64 p, sv tx, .slice A1 n1 c1, .slice A2 n2 c2]) ∧ RowR w' B (rowP (toks t) S).1 [.int .i64 p, sv tx, .slice A1 n1 c1, .slice A2 n2 c2]) e w' ∧ KeepT B [102] w w' := by
  refine (row_any t ht pb B hB S w hp hBw).mono ?_
  rintro e w' ⟨h, hk⟩
  refine ⟨?_, hk⟩
  rcases h with ⟨h1, cs, rfl, h2⟩ | h
  · obtain ⟨va, vb, rfl, h3⟩ := h2
    have hf : (∃ A1 n1 c1, va = .slice A1 n1 c1) ∧ ∃ A2 n2 c2, vb = .slice A2 n2 c2 := by
      rcases h3 with ⟨_, q1, q2⟩ | ⟨_, rfl, q2, _⟩
      · obtain ⟨A1, c1, rfl, _⟩ := own_form q1
        obtain ⟨A2, c2, rfl, _⟩ := own_form q2
        exact ⟨⟨_, _, _, rfl⟩, _, _, _, rfl⟩
      · obtain ⟨A2, c2, rfl, _⟩ := own_form q2
        exact ⟨⟨_, _, _, rfl⟩, _, _, _, rfl⟩
    obtain ⟨⟨A1, n1, c1, rfl⟩, A2, n2, c2, rfl⟩ := hf
    exact .inl ⟨h1, _, _, A1, n1, c1, A2, n2, c2, rfl, _, _, rfl, h3⟩
  · exact .inr h

set_option maxHeartbeats 1000000 in
set_option maxRecDepth 100000 in
theorem definition_any (t : Bs) (ht : t.length ≤ 2000) (pb B : Nat) (hB : B ≤ pb) (S : PS) (w : World) (hp : At t w pb S) (hBw : B ≤ w.heap.size) :
    Calls Tryz.prog 67 #[.pointer (some ⟨pb, 0, none⟩)] w fun e w' =>
      Ends t pb (defP (toks t) S).2 (fun e w' => ∃ cs, e = .returned (.agg cs.toArray) ∧ DefR w' B (defP (toks t) S).1 cs) e w' ∧ KeepT B [102] w w' := by
  obtain ⟨i0, hi, hz0, hz1, hz2⟩ := info_three (show (Tryz.prog.info? 107).map (fun i => (i.zero, i.size, i.bytes)) = some (some (.agg #[.int .i64 0, .string ⟨#[]⟩, .slice none 0 0, .slice none 0 0]), 4, 72) by kernel_rfl)
  have HE := hideIt (fun k hk S W hp hBw => expect_at t ht pb B hB k hk S W hp hBw)
  have HS := hideIt (fun k hk S W hp hBw => setting_any t ht pb B hB k hk S W hp hBw)
  have HRW := hideIt (fun S W hp hBw => row_sl t ht pb B hB S W hp hBw)
  have HIS := hideIt (fun k hk S W hp => is_at t pb k hk S W hp)
  have HTL : Hid ((toks t).length ≤ 2001) := by have := (toks_of t).2.2; exact (by omega : (toks t).length ≤ 2001)
  have hlt := hp.lt
  have HW := hideIt hBw
  obtain ⟨S1, hS1⟩ : ∃ S1, S1 = dS1 (toks t) S := ⟨_, rfl⟩
  obtain ⟨S2a, hS2a⟩ : ∃ S2a, S2a = kindP (toks t) 1 S1 := ⟨_, rfl⟩
  obtain ⟨S2, hS2⟩ : ∃ S2, S2 = dS2 (toks t) S := ⟨_, rfl⟩
  obtain ⟨S3, hS3⟩ : ∃ S3, S3 = dS3 (toks t) S := ⟨_, rfl⟩
  obtain ⟨S4, hS4⟩ : ∃ S4, S4 = dS4 (toks t) S := ⟨_, rfl⟩
  obtain ⟨S5, hS5⟩ : ∃ S5, S5 = (rowP (toks t) S4).2 := ⟨_, rfl⟩
  obtain ⟨R, hR⟩ : ∃ R, R = dR (toks t) S := ⟨_, rfl⟩
  obtain ⟨nm, hnm⟩ : ∃ nm, nm = cur (toks t) S1 := ⟨_, rfl⟩
  obtain ⟨f, hf⟩ : ∃ f, f = cur (toks t) (mustP (toks t) kField S2) := ⟨_, rfl⟩
  obtain ⟨d, hd⟩ : ∃ d, d = cur (toks t) (mustP (toks t) kData S3) := ⟨_, rfl⟩
  have hdef : defP (toks t) S = (⟨nm, f, d, R.1, (dE (toks t) R.2).1⟩, mustP (toks t) [125] (dE (toks t) R.2).2) := by
    unfold defP
    rw [hnm, hS1, hf, hS2, hd, hS3, hR]
  rw [hdef]
  have HE1 := hideIt (fun W => HE.out kCode rfl S W)
  rw [show mustP (toks t) kCode S = S1 from hS1.symm] at HE1
  have HE2 := hideIt (fun W => HE.out [123] rfl S2a W)
  rw [show mustP (toks t) [123] S2a = S2 by rw [hS2, hS2a, hS1]; rfl] at HE2
  have HWD := hideIt (fun W hp hBw => word_at t ht pb B hB S1 W hp hBw)
  rw [← hS2a, ← hnm] at HWD
  have HS1 := hideIt (fun W => HS.out kField rfl S2 W)
  rw [← hf, show (oneP (toks t) kField S2).2 = S3 by rw [hS3, hS2]; rfl] at HS1
  have HS2 := hideIt (fun W => HS.out kData rfl S3 W)
  rw [← hd, show (oneP (toks t) kData S3).2 = S4 by rw [hS4, hS3]; rfl] at HS2
  have HR1 := hideIt (fun W => HRW.out S4 W)
  rw [← hS5] at HR1
  obtain ⟨x1, hx1⟩ : ∃ x1, x1 = (rowP (toks t) S4).1 := ⟨_, rfl⟩
  rw [← hx1] at HR1
  obtain ⟨FF, hFF⟩ : ∃ FF, FF = mustP (toks t) [125] (dE (toks t) R.2).2 := ⟨_, rfl⟩
  rw [← hFF]
  have HFF := hideIt hFF
  have HDR : Hid (∀ A, Dead (toks t) R.2 A → Dead (toks t) FF A) := fun A h => by rw [hFF]; exact dead_must (dead_dE h) _
  have HD4 : Hid (∀ A, Dead (toks t) S4 A → Dead (toks t) FF A) := fun A h => HDR.out A (by rw [hR]; unfold dR; rw [← hS4]; exact dead_rowsG _ _ _ h)
  have HD5 : Hid (∀ A, S4.bad = -1 → Dead (toks t) S5 A → Dead (toks t) FF A) := fun A hb h => HDR.out A (by
    rw [hR]; unfold dR; rw [← hS4, rowsG, if_pos ⟨by rw [hb]; decide, .inl rfl⟩, ← hS5]; exact dead_rowsG _ _ _ h)
  have HD3 : Hid (∀ A, Dead (toks t) S3 A → Dead (toks t) FF A) := fun A h => HD4.out A (by rw [hS4]; unfold dS4; rw [← hS3]; exact dead_oneP h _)
  have HD2 : Hid (∀ A, Dead (toks t) S2 A → Dead (toks t) FF A) := fun A h => HD3.out A (by rw [hS3]; unfold dS3; rw [← hS2]; exact dead_oneP h _)
  have HD2a : Hid (∀ A, Dead (toks t) S2a A → Dead (toks t) FF A) := fun A h => HD2.out A (by rw [hS2]; unfold dS2; rw [← hS1, ← hS2a]; exact dead_must h _)
  have HD1 : Hid (∀ A, Dead (toks t) S1 A → Dead (toks t) FF A) := fun A h => HD2a.out A (by rw [hS2a]; exact dead_kind h (by decide))
  have HRR : Hid (S4.bad = -1 → rowsG (toks t) (toks t).length false S5 [x1] = R) := fun hb => by
    rw [hR]; unfold dR; rw [← hS4, rowsG, if_pos ⟨by rw [hb]; decide, .inl rfl⟩, ← hS5, ← hx1]; rfl
  have HRI : Hid (S5.bad = -1 → S4.i < S5.i) := fun h => by rw [hS5] at h ⊢; exact row_i h
  obtain ⟨W0, hW0⟩ : ∃ W, W = w.alloc (.cells #[.int .i64 0, .string ⟨#[]⟩, .int .i64 0, .string ⟨#[]⟩, .int .i64 0, .string ⟨#[]⟩, .int .i64 0, .string ⟨#[]⟩, .slice none 0 0] 80) := ⟨_, rfl⟩
  have HK0 : Hid (KeepT B [102] w W0) := by rw [hW0]; exact keep_new (KeepT.refl B _ w) hBw _
  have HP0 : Hid (At t W0 pb S) := by rw [hW0]; exact hp.new _
  have HQ0 : Hid (Blk W0 w.heap.size 80 [.int .i64 0, .string ⟨#[]⟩, .int .i64 0, .string ⟨#[]⟩, .int .i64 0, .string ⟨#[]⟩, .int .i64 0, .string ⟨#[]⟩, .slice none 0 0]) := by
    rw [hW0]; exact Blk.new w 80 [.int .i64 0, .string ⟨#[]⟩, .int .i64 0, .string ⟨#[]⟩, .int .i64 0, .string ⟨#[]⟩, .int .i64 0, .string ⟨#[]⟩, .slice none 0 0]
  have HW0 := hideIt hW0
  have hB0 : w.heap.size + 1 = W0.heap.size := by rw [hW0]; simp
  clear hp hBw ht hS1 hS2a hS2 hS3 hS4 hS5 hR hnm hf hd hdef hx1 hFF hW0
  go_enter Tryz.func67, Tryz.ntmps67
  go_wp2_with (first
    | (go_at_call 95; refine (HR1.out _ (hp5.kept (below_two (Nat.le_refl w2.heap.size) 4 5 (.int .i64 (d.ps : Int)) (.string (ss d.tx))) (by omega)) (Nat.le_trans HW.out (Nat.le_trans HK5.out.size (by simp [World.setCell])))).mono ?_; rintro e w6 ⟨⟨hp6, p6, tx6, A6, n6, c6, A7, n7, c7, rfl, hr6⟩ | ⟨rfl, h6⟩, hk6⟩ <;> have HK6 := hideIt (keep_then (HK5.out.since (below_two (show w.heap.size ≤ w2.heap.size by omega) 4 5 (.int .i64 (d.ps : Int)) (.string (ss d.tx))) HW.out) hk6) <;> have HQ6 := hideIt ((HQ5.out.kept (below_two (Nat.le_refl w2.heap.size) 4 5 (.int .i64 (d.ps : Int)) (.string (ss d.tx))) (by omega)).keepT hk6 (by decide)) <;> have hl6 := ((HL5.out.store 4 (.int .i64 (d.ps : Int))).store 5 (.string (ss d.tx))).keepT hk6 (by decide) <;> have HL6 := hideIt hl6 <;> clear hk6 hl6 <;> (try (have hl7 := HL6.out.alloc (.cells #[.int .i64 p6, .string (ss tx6), .slice A6 n6 c6, .slice A7 n7 c7] 107); have g8 : (w6.alloc (.cells #[.int .i64 p6, .string (ss tx6), .slice A6 n6 c6, .slice A7 n7 c7] 107)).cell? ⟨w2.heap.size, 8, none⟩ = _ := hl7.cell 8; have k8 := hl7.free 8; have HL7 := hideIt hl7; clear hl7)))
    | (go_at_call 94; refine (HS2.out _ (hp4.kept (below_two (Nat.le_refl w2.heap.size) 2 3 (.int .i64 (f.ps : Int)) (.string (ss f.tx))) (by omega)) (Nat.le_trans HW.out (Nat.le_trans HK4.out.size (by simp [World.setCell])))).mono ?_; rintro e w5 ⟨h, hk5⟩; have HK5 := hideIt (keep_then (HK4.out.since (below_two (show w.heap.size ≤ w2.heap.size by omega) 2 3 (.int .i64 (f.ps : Int)) (.string (ss f.tx))) HW.out) hk5); have HQ5 := hideIt ((HQ4.out.kept (below_two (Nat.le_refl w2.heap.size) 2 3 (.int .i64 (f.ps : Int)) (.string (ss f.tx))) (by omega)).keepT hk5 (by decide)); have hl5 := ((HL4.out.store 2 (.int .i64 (f.ps : Int))).store 3 (.string (ss f.tx))).keepT hk5 (by decide); have g4 : w5.cell? ⟨w2.heap.size, 4, none⟩ = _ := hl5.cell 4; have g5 : w5.cell? ⟨w2.heap.size, 5, none⟩ = _ := hl5.cell 5; have k4 := hl5.free 4; have k5 := hl5.free 5; have HL5 := hideIt hl5; clear hk5 hl5; rcases h with ⟨hp5, rfl, _⟩ | ⟨rfl, h5⟩)
    | (go_at_call 94; refine (HS1.out _ hp3 (Nat.le_trans HW.out HK3.out.size)).mono ?_; rintro e w4 ⟨h, hk4⟩; have HK4 := hideIt (keep_then HK3.out hk4); have HQ4 := hideIt (HQ3.out.keepT hk4 (by decide)); have hl4 := HL3.out.keepT hk4 (by decide); have g2 : w4.cell? ⟨w2.heap.size, 2, none⟩ = _ := hl4.cell 2; have g3 : w4.cell? ⟨w2.heap.size, 3, none⟩ = _ := hl4.cell 3; have k2 := hl4.free 2; have k3 := hl4.free 3; have HL4 := hideIt hl4; clear hk4 hl4; rcases h with ⟨hp4, rfl, _⟩ | ⟨rfl, h4⟩)
    | (go_at_call 66; refine (HE2.out _ (hp2.new _) (Nat.le_trans HW.out (keep_new HK2.out HW.out _).size)).mono ?_; rintro e w3 ⟨h, hk3⟩; have HK3 := hideIt (keep_then (keep_new HK2.out HW.out (.cells #[.int .i64 (nm.ps : Int), sv nm.tx, .int .i64 0, .string ⟨#[]⟩, .int .i64 0, .string ⟨#[]⟩, .int .i64 0, .string ⟨#[]⟩, .slice none 0 0] 80)) hk3); have HQ3 := hideIt ((HQ2.out.alloc (.cells #[.int .i64 (nm.ps : Int), sv nm.tx, .int .i64 0, .string ⟨#[]⟩, .int .i64 0, .string ⟨#[]⟩, .int .i64 0, .string ⟨#[]⟩, .slice none 0 0] 80)).keepT hk3 (by decide)); have HL3 := hideIt ((Blk.new w2 80 [.int .i64 (nm.ps : Int), sv nm.tx, .int .i64 0, .string ⟨#[]⟩, .int .i64 0, .string ⟨#[]⟩, .int .i64 0, .string ⟨#[]⟩, .slice none 0 0]).keepT hk3 (by decide)); clear hk3; rcases h with ⟨hp3, rfl, _⟩ | ⟨rfl, h3⟩)
    | (go_at_call 92; refine (HWD.out _ hp1 (Nat.le_trans HW.out HK1.out.size)).mono ?_; rintro e w2 ⟨⟨hp2, rfl, h2⟩ | ⟨rfl, h2⟩, hk2⟩ <;> have HK2 := hideIt (keep_then HK1.out hk2) <;> have HQ2 := hideIt (HQ1.out.keepT hk2 (by decide)) <;> have hs2 := hk2.size <;> clear hk2)
    | (go_at_call 66; rw [← HW0.out]; refine (HE1.out _ HP0.out (Nat.le_trans HW.out HK0.out.size)).mono ?_; rintro e w1 ⟨⟨hp1, rfl, h1⟩ | ⟨rfl, h1⟩, hk1⟩ <;> have HK1 := hideIt (keep_then HK0.out hk1) <;> have HQ1 := hideIt (HQ0.out.keepT hk1 (by decide)) <;> have hs1 := hk1.size <;> clear hk1))
  · have HP6 := hideIt hp6
    have HR6 := hideIt hr6
    clear hp6 hr6
    go_loopg [] ((toks t).length) (fun gk wr => ∃ (S' : PS) (out : List Ln) (A : Option Addr) (c : Nat), Aside (rowsG (toks t) gk false S' out = R ∧ At t wr pb S' ∧ Blk wr w2.heap.size 80 [.int .i64 (nm.ps : Int), sv nm.tx, .int .i64 (f.ps : Int), sv f.tx, .int .i64 (d.ps : Int), sv d.tx, .int .i64 0, .string ⟨#[]⟩, (.slice A out.length c)] ∧ Blk wr w.heap.size 80 [.int .i64 0, .string ⟨#[]⟩, .int .i64 0, .string ⟨#[]⟩, .int .i64 0, .string ⟨#[]⟩, .int .i64 0, .string ⟨#[]⟩, .slice none 0 0] ∧ RowsR wr w.heap.size B (.slice A out.length c) out ∧ KeepT B [102] w wr ∧ out.length ≤ S'.i ∧ (toks t).length ≤ gk + S'.i))
    case atStart =>
      have h1 := HRI.out HP6.out.1
      refine ⟨S5, [x1], some ⟨w6.heap.size, 0, none⟩, 1, HRR.out hp5.1, (HP6.out.new _).kept (below_set (Below.refl w2.heap.size _) (Nat.le_refl _) _ _) (by omega), HL7.out.store 8 _, (HQ6.out.alloc _).store_other (by omega), (RowsR.one HR6.out HK6.out.size).set HL7.out (by decide) (by decide) _ _, (keep_new HK6.out HW.out _).since (below_set (Below.refl _ _) (by omega) _ _) HW.out, by simp; omega, by omega⟩
    case round =>
      obtain ⟨S', out, A, c, HI⟩ := hrel
      obtain ⟨_, _, hil, _, hx5, _⟩ := HI.out.2.1.cur
      have hplt := HI.out.2.1.lt
      have HPQ := hideIt (fun k hk => HIS.out k hk S' wr HI.out.2.1)
      have HRL := hideIt HI.out.2.2.2.2.2.2.1
      have HGL := hideIt HI.out.2.2.2.2.2.2.2
      have hol : out.length ≤ 2001 := by have := HTL.out; have := HRL.out; omega
      cases hpar : isP (toks t) kParity S' with
      | true =>
        have hparL : isP (toks t) [112, 97, 114, 105, 116, 121] S' = true := hpar
        have HCO : Hid (false = true ∨ isP (toks t) kParity S' = true ∨ isP (toks t) kLocal S' = true) := .inr (.inl hpar)
        clear hpar hx5
        obtain ⟨g, hg⟩ : ∃ g, gk = g + 1 := ⟨gk - 1, by have := HGL.out; omega⟩
        have HG := hideIt hg
        obtain ⟨x, hx⟩ : ∃ x, x = (rowP (toks t) S').1 := ⟨_, rfl⟩
        obtain ⟨T', hT'⟩ : ∃ T', T' = (rowP (toks t) S').2 := ⟨_, rfl⟩
        have HST : Hid (rowsG (toks t) g false T' (out ++ [x]) = R) := by
          have := HI.out.1
          rw [hg, rowsG, if_pos ⟨by rw [HI.out.2.1.1]; decide, HCO.out⟩, ← hx, ← hT'] at this
          exact this
        have HRX := hideIt (fun W => HRW.out S' W)
        rw [← hx, ← hT'] at HRX
        have HTI : Hid (T'.bad = -1 → S'.i < T'.i) := fun h => by rw [hT'] at h ⊢; exact row_i h
        have HC8 : Hid (wr.drew.cell? ⟨w2.heap.size, 8, none⟩ = some (.slice A out.length c)) := HI.out.2.2.1.cell 8
        clear hx hT' hg
        go_wp2_with (first
          | (go_at_call 77; refine (HPQ.out _ (by rfl)).mono ?_; (first | rw [hparL] | rw [hlocL]); rintro e w' ⟨rfl, rfl⟩))
        refine loads_begin_n 8 [(5, fun W => W.cell? ⟨w2.heap.size, 8, none⟩ = some (.slice A out.length c))] rfl (by kernel_rfl) ?_
        refine wpAnyL_move (oi := ⟨some 27, _, _, _, _, _⟩) 0 ?_ rfl (by kernel_rfl) (by kernel_rfl) (by kernel_rfl) (by kernel_rfl) (fun _ _ _ h => h) (by kernel_rfl) ?_ (Hooks.add HC8.out (Hooks.nil _ _)) ?_
        rotate_left
        · intro W'; go_simp; first | done | with_reducible rfl
        try simp only [Act.put]
        try simp only [List.setIfInBounds_toArray]
        try simp only [List.set_cons_succ]
        try simp only [List.set_cons_zero]
        refine wpAnyL_take (oi := ⟨some 28, _, _, _, _, _⟩) 1 5 (.slice A out.length c) _ rfl (by kernel_rfl) (by kernel_rfl) (by kernel_rfl) (by kernel_rfl) (by kernel_rfl) (by kernel_rfl) (.head _) (fun _ _ _ h => h) (by kernel_rfl) (fun W' hW' => by (try dsimp only at hW'); go_simp) (Hooks.add HC8.out (Hooks.nil _ _)) ?_
        try simp only [Act.put]
        try simp only [List.setIfInBounds_toArray]
        try simp only [List.set_cons_succ]
        try simp only [List.set_cons_zero]
        refine wpAnyL_move (oi := ⟨some 29, _, _, _, _, _⟩) 2 ?_ rfl (by kernel_rfl) (by kernel_rfl) (by kernel_rfl) (by kernel_rfl) (fun _ _ _ h => h) (by kernel_rfl) ?_ (Hooks.add HC8.out (Hooks.nil _ _)) ?_
        rotate_left
        · intro W'; go_simp; first | done | with_reducible rfl
        try simp only [Act.put]
        try simp only [List.setIfInBounds_toArray]
        try simp only [List.set_cons_succ]
        try simp only [List.set_cons_zero]
        refine wpAnyL_one 3 (by kernel_rfl) rfl (fun K hK => ?_)
        go_wp2_with (go_at_call 95; refine (HRX.out _ (HI.out.2.1.kept (Below.refl _ wr).drew hplt) (Nat.le_trans HW.out HI.out.2.2.2.2.2.1.size)).mono ?_; rintro e w8 ⟨⟨hp8, p8, tx8, A8, n8, c8, A9, n9, c9, rfl, hr8⟩ | ⟨rfl, h8⟩, hk8⟩ <;> have hk8 : KeepT B [102] wr w8 := (KeepT.of_below (Below.refl _ wr).drew (Nat.le_trans HW.out HI.out.2.2.2.2.2.1.size)).trans hk8 <;> have HL8 := hideIt (HI.out.2.2.1.keepT hk8 (by decide)) <;> have HQ8 := hideIt (HI.out.2.2.2.1.keepT hk8 (by decide)) <;> have HRR8 := hideIt (HI.out.2.2.2.2.1.keepT hk8) <;> have HK8 := hideIt (keep_then HI.out.2.2.2.2.2.1 hk8) <;> clear hk8)
        · refine hK _ _ (Hooks.add (HL8.out.cell 8) (Hooks.nil _ _)) ?_
          clear hK K
          refine wpAnyL_one 4 (by kernel_rfl) rfl (fun K hK => ?_)
          go_wp2_with fail
          refine hK _ _ (Hooks.add ((HL8.out.alloc _).cell 8) (Hooks.nil _ _)) ?_
          clear hK K
          refine loads_tail 5 (by kernel_rfl) (by kernel_rfl) (by kernel_rfl) (by kernel_rfl) ?_
          simp only [List.drop_succ_cons, List.drop_zero]
          obtain ⟨css, hown, hall⟩ := HRR8.out.alloc (.cells #[.int .i64 p8, sv tx8, .slice A8 n8 c8, .slice A9 n9 c9] 107)
          have HOWN := hideIt hown
          have HALL := hideIt hall
          have HR8 := hideIt (hr8.alloc (.cells #[.int .i64 p8, sv tx8, .slice A8 n8 c8, .slice A9 n9 c9] 107))
          clear hown hall
          have hb8 := HK8.out.size
          go_wp2_with ((with_reducible refine at_append ?_); refine wpList_app2 rfl (.tmp 28) (.tmp 31) 78 rfl w.heap.size 107 i0 (.agg #[.int .i64 0, .string ⟨#[]⟩, .slice none 0 0, .slice none 0 0]) 4 72 Tryz.underlying78 hi hz0 hz1 hz2 rfl (by decide) (.slice A out.length c) out.length css.flatten rfl HOWN.out _ _ 1 1 [.int .i64 p8, sv tx8, .slice A8 n8 c8, .slice A9 n9 c9] rfl (sl_cells w8 107 [.int .i64 p8, sv tx8, .slice A8 n8 c8, .slice A9 n9 c9] 4 rfl) HR8.out.ones (by unfold maxLen; omega) (by omega) (by simp; omega) ?_; intro v9 w9 ho9 hg9; obtain ⟨Av, cv, rfl, _, _⟩ := own_form ho9; have HO9 := hideIt ho9; have HG9 := hideIt hg9; have hl9 := (HL8.out.alloc (.cells #[.int .i64 p8, sv tx8, .slice A8 n8 c8, .slice A9 n9 c9] 107)).grown hg9 (own_ne HOWN.out (HL8.out.alloc _) (by decide)); have g8 : w9.cell? ⟨w2.heap.size, 8, none⟩ = _ := hl9.cell 8; have k8 := hl9.free 8; have HL9 := hideIt hl9; clear ho9 hg9 hl9)
          go_roundg g
          case measure => have := HG.out; omega
          case rel =>
            have hQ9 := (HQ8.out.alloc (.cells #[.int .i64 p8, sv tx8, .slice A8 n8 c8, .slice A9 n9 c9] 107)).grown HG9.out (own_ne HOWN.out (HQ8.out.alloc _) (by decide))
            have hRR9 := RowsR.snoc HOWN.out HALL.out HR8.out HG9.out HO9.out
            have hP9 := (hp8.new (.cells #[.int .i64 p8, sv tx8, .slice A8 n8 c8, .slice A9 n9 c9] 107)).grown HOWN.out HG9.out (by decide)
            refine ⟨T', out ++ [x], Av, cv, HST.out, hP9.kept (below_set (Below.refl w2.heap.size _) (Nat.le_refl _) _ _) (by omega), ?_, ?_, ?_, ?_, ?_, ?_⟩
            · have := HL9.out.store 8 (.slice Av (out.length + 1) cv)
              simpa using this
            · exact hQ9.store_other (by omega)
            · have := hRR9.set HL9.out (by decide) (by decide) 8 (.slice Av (out.length + 1) cv)
              simpa using this
            · have hbg := below_grown (Below.refl w.heap.size _) HOWN.out (Nat.le_refl _) (by simp; omega) HG9.out
              exact ((keep_new HK8.out HW.out _).since hbg HW.out).since (below_set (Below.refl _ _) (by omega) _ _) HW.out
            · have := HTI.out hp8.1; have := HRL.out; simp; omega
            · have := HTI.out hp8.1; have := HGL.out; have := HG.out; omega
        · refine ⟨rfl, .inr ⟨rfl, ?_⟩, HK8.out⟩
          obtain ⟨y, hy, hd⟩ := h8
          refine ⟨y, hy, HDR.out _ ?_⟩
          rw [← HST.out]
          exact dead_rowsG _ _ _ hd
      | false =>
        have hparL : isP (toks t) [112, 97, 114, 105, 116, 121] S' = false := hpar
        cases hloc : isP (toks t) kLocal S' with
        | true =>
          have hlocL : isP (toks t) [108, 111, 99, 97, 108] S' = true := hloc
          have HCO : Hid (false = true ∨ isP (toks t) kParity S' = true ∨ isP (toks t) kLocal S' = true) := .inr (.inr hloc)
          clear hpar hloc hx5
          obtain ⟨g, hg⟩ : ∃ g, gk = g + 1 := ⟨gk - 1, by have := HGL.out; omega⟩
          have HG := hideIt hg
          obtain ⟨x, hx⟩ : ∃ x, x = (rowP (toks t) S').1 := ⟨_, rfl⟩
          obtain ⟨T', hT'⟩ : ∃ T', T' = (rowP (toks t) S').2 := ⟨_, rfl⟩
          have HST : Hid (rowsG (toks t) g false T' (out ++ [x]) = R) := by
            have := HI.out.1
            rw [hg, rowsG, if_pos ⟨by rw [HI.out.2.1.1]; decide, HCO.out⟩, ← hx, ← hT'] at this
            exact this
          have HRX := hideIt (fun W => HRW.out S' W)
          rw [← hx, ← hT'] at HRX
          have HTI : Hid (T'.bad = -1 → S'.i < T'.i) := fun h => by rw [hT'] at h ⊢; exact row_i h
          have HC8 : Hid (wr.drew.cell? ⟨w2.heap.size, 8, none⟩ = some (.slice A out.length c)) := HI.out.2.2.1.cell 8
          clear hx hT' hg
          go_wp2_with (first
            | (go_at_call 77; refine (HPQ.out _ (by rfl)).mono ?_; (first | rw [hparL] | rw [hlocL]); rintro e w' ⟨rfl, rfl⟩))
          refine loads_begin_n 8 [(5, fun W => W.cell? ⟨w2.heap.size, 8, none⟩ = some (.slice A out.length c))] rfl (by kernel_rfl) ?_
          refine wpAnyL_move (oi := ⟨some 27, _, _, _, _, _⟩) 0 ?_ rfl (by kernel_rfl) (by kernel_rfl) (by kernel_rfl) (by kernel_rfl) (fun _ _ _ h => h) (by kernel_rfl) ?_ (Hooks.add HC8.out (Hooks.nil _ _)) ?_
          rotate_left
          · intro W'; go_simp; first | done | with_reducible rfl
          try simp only [Act.put]
          try simp only [List.setIfInBounds_toArray]
          try simp only [List.set_cons_succ]
          try simp only [List.set_cons_zero]
          refine wpAnyL_take (oi := ⟨some 28, _, _, _, _, _⟩) 1 5 (.slice A out.length c) _ rfl (by kernel_rfl) (by kernel_rfl) (by kernel_rfl) (by kernel_rfl) (by kernel_rfl) (by kernel_rfl) (.head _) (fun _ _ _ h => h) (by kernel_rfl) (fun W' hW' => by (try dsimp only at hW'); go_simp) (Hooks.add HC8.out (Hooks.nil _ _)) ?_
          try simp only [Act.put]
          try simp only [List.setIfInBounds_toArray]
          try simp only [List.set_cons_succ]
          try simp only [List.set_cons_zero]
          refine wpAnyL_move (oi := ⟨some 29, _, _, _, _, _⟩) 2 ?_ rfl (by kernel_rfl) (by kernel_rfl) (by kernel_rfl) (by kernel_rfl) (fun _ _ _ h => h) (by kernel_rfl) ?_ (Hooks.add HC8.out (Hooks.nil _ _)) ?_
          rotate_left
          · intro W'; go_simp; first | done | with_reducible rfl
          try simp only [Act.put]
          try simp only [List.setIfInBounds_toArray]
          try simp only [List.set_cons_succ]
          try simp only [List.set_cons_zero]
          refine wpAnyL_one 3 (by kernel_rfl) rfl (fun K hK => ?_)
          go_wp2_with (go_at_call 95; refine (HRX.out _ (HI.out.2.1.kept (Below.refl _ wr).drew hplt) (Nat.le_trans HW.out HI.out.2.2.2.2.2.1.size)).mono ?_; rintro e w8 ⟨⟨hp8, p8, tx8, A8, n8, c8, A9, n9, c9, rfl, hr8⟩ | ⟨rfl, h8⟩, hk8⟩ <;> have hk8 : KeepT B [102] wr w8 := (KeepT.of_below (Below.refl _ wr).drew (Nat.le_trans HW.out HI.out.2.2.2.2.2.1.size)).trans hk8 <;> have HL8 := hideIt (HI.out.2.2.1.keepT hk8 (by decide)) <;> have HQ8 := hideIt (HI.out.2.2.2.1.keepT hk8 (by decide)) <;> have HRR8 := hideIt (HI.out.2.2.2.2.1.keepT hk8) <;> have HK8 := hideIt (keep_then HI.out.2.2.2.2.2.1 hk8) <;> clear hk8)
          · refine hK _ _ (Hooks.add (HL8.out.cell 8) (Hooks.nil _ _)) ?_
            clear hK K
            refine wpAnyL_one 4 (by kernel_rfl) rfl (fun K hK => ?_)
            go_wp2_with fail
            refine hK _ _ (Hooks.add ((HL8.out.alloc _).cell 8) (Hooks.nil _ _)) ?_
            clear hK K
            refine loads_tail 5 (by kernel_rfl) (by kernel_rfl) (by kernel_rfl) (by kernel_rfl) ?_
            simp only [List.drop_succ_cons, List.drop_zero]
            obtain ⟨css, hown, hall⟩ := HRR8.out.alloc (.cells #[.int .i64 p8, sv tx8, .slice A8 n8 c8, .slice A9 n9 c9] 107)
            have HOWN := hideIt hown
            have HALL := hideIt hall
            have HR8 := hideIt (hr8.alloc (.cells #[.int .i64 p8, sv tx8, .slice A8 n8 c8, .slice A9 n9 c9] 107))
            clear hown hall
            have hb8 := HK8.out.size
            go_wp2_with ((with_reducible refine at_append ?_); refine wpList_app2 rfl (.tmp 28) (.tmp 31) 78 rfl w.heap.size 107 i0 (.agg #[.int .i64 0, .string ⟨#[]⟩, .slice none 0 0, .slice none 0 0]) 4 72 Tryz.underlying78 hi hz0 hz1 hz2 rfl (by decide) (.slice A out.length c) out.length css.flatten rfl HOWN.out _ _ 1 1 [.int .i64 p8, sv tx8, .slice A8 n8 c8, .slice A9 n9 c9] rfl (sl_cells w8 107 [.int .i64 p8, sv tx8, .slice A8 n8 c8, .slice A9 n9 c9] 4 rfl) HR8.out.ones (by unfold maxLen; omega) (by omega) (by simp; omega) ?_; intro v9 w9 ho9 hg9; obtain ⟨Av, cv, rfl, _, _⟩ := own_form ho9; have HO9 := hideIt ho9; have HG9 := hideIt hg9; have hl9 := (HL8.out.alloc (.cells #[.int .i64 p8, sv tx8, .slice A8 n8 c8, .slice A9 n9 c9] 107)).grown hg9 (own_ne HOWN.out (HL8.out.alloc _) (by decide)); have g8 : w9.cell? ⟨w2.heap.size, 8, none⟩ = _ := hl9.cell 8; have k8 := hl9.free 8; have HL9 := hideIt hl9; clear ho9 hg9 hl9)
            go_roundg g
            case measure => have := HG.out; omega
            case rel =>
              have hQ9 := (HQ8.out.alloc (.cells #[.int .i64 p8, sv tx8, .slice A8 n8 c8, .slice A9 n9 c9] 107)).grown HG9.out (own_ne HOWN.out (HQ8.out.alloc _) (by decide))
              have hRR9 := RowsR.snoc HOWN.out HALL.out HR8.out HG9.out HO9.out
              have hP9 := (hp8.new (.cells #[.int .i64 p8, sv tx8, .slice A8 n8 c8, .slice A9 n9 c9] 107)).grown HOWN.out HG9.out (by decide)
              refine ⟨T', out ++ [x], Av, cv, HST.out, hP9.kept (below_set (Below.refl w2.heap.size _) (Nat.le_refl _) _ _) (by omega), ?_, ?_, ?_, ?_, ?_, ?_⟩
              · have := HL9.out.store 8 (.slice Av (out.length + 1) cv)
                simpa using this
              · exact hQ9.store_other (by omega)
              · have := hRR9.set HL9.out (by decide) (by decide) 8 (.slice Av (out.length + 1) cv)
                simpa using this
              · have hbg := below_grown (Below.refl w.heap.size _) HOWN.out (Nat.le_refl _) (by simp; omega) HG9.out
                exact ((keep_new HK8.out HW.out _).since hbg HW.out).since (below_set (Below.refl _ _) (by omega) _ _) HW.out
              · have := HTI.out hp8.1; have := HRL.out; simp; omega
              · have := HTI.out hp8.1; have := HGL.out; have := HG.out; omega
          · refine ⟨rfl, .inr ⟨rfl, ?_⟩, HK8.out⟩
            obtain ⟨y, hy, hd⟩ := h8
            refine ⟨y, hy, HDR.out _ ?_⟩
            rw [← HST.out]
            exact dead_rowsG _ _ _ hd
        | false =>
          have hlocL : isP (toks t) [108, 111, 99, 97, 108] S' = false := hloc
          have HST : Hid (R = (out, S')) := by
            have := HI.out.1
            obtain ⟨g, hg⟩ : ∃ g, gk = g + 1 := ⟨gk - 1, by have := HGL.out; omega⟩
            rw [hg, rowsG, if_neg (by rw [hpar, hloc]; simp)] at this
            exact this.symm
          clear hpar hloc hx5
          have hR := HST.out
          subst hR
          have HIP := HI
          cases hdom : isP (toks t) kDomain S' with
          | false =>
            have hdomL : isP (toks t) [100, 111, 109, 97, 105, 110] S' = false := hdom
            have HDE : Hid (dE (toks t) S' = (none, S')) := by
              show dE (toks t) S' = (none, S')
              unfold dE
              rw [hdom, if_neg (by simp)]
            have HEF := hideIt (fun W => HE.out [125] rfl S' W)
            clear hdom
            go_wp2_with (first
              | (go_at_call 77; refine (HPQ.out _ (by rfl)).mono ?_; (first | rw [hparL] | rw [hlocL] | rw [hdomL]); rintro e w' ⟨rfl, rfl⟩)
              | (go_at_call 66; refine (HEF.out _ HI.out.2.1 (Nat.le_trans HW.out HI.out.2.2.2.2.2.1.size)).mono ?_; rintro e w8 ⟨h, hk8⟩; have hl8 := HI.out.2.2.1.keepT hk8 (by decide); have hq8 := HI.out.2.2.2.1.keepT hk8 (by decide); have g0 : w8.cell? ⟨w2.heap.size, 0, none⟩ = _ := hl8.cell 0; have g1 : w8.cell? ⟨w2.heap.size, 1, none⟩ = _ := hl8.cell 1; have g2 : w8.cell? ⟨w2.heap.size, 2, none⟩ = _ := hl8.cell 2; have g3 : w8.cell? ⟨w2.heap.size, 3, none⟩ = _ := hl8.cell 3; have g4 : w8.cell? ⟨w2.heap.size, 4, none⟩ = _ := hl8.cell 4; have g5 : w8.cell? ⟨w2.heap.size, 5, none⟩ = _ := hl8.cell 5; have g6 : w8.cell? ⟨w2.heap.size, 6, none⟩ = _ := hl8.cell 6; have g7 : w8.cell? ⟨w2.heap.size, 7, none⟩ = _ := hl8.cell 7; have g8 : w8.cell? ⟨w2.heap.size, 8, none⟩ = _ := hl8.cell 8; have q0 : w8.cell? ⟨w.heap.size, 0, none⟩ = _ := hq8.cell 0; have q1 : w8.cell? ⟨w.heap.size, 1, none⟩ = _ := hq8.cell 1; have q2 : w8.cell? ⟨w.heap.size, 2, none⟩ = _ := hq8.cell 2; have q3 : w8.cell? ⟨w.heap.size, 3, none⟩ = _ := hq8.cell 3; have q4 : w8.cell? ⟨w.heap.size, 4, none⟩ = _ := hq8.cell 4; have q5 : w8.cell? ⟨w.heap.size, 5, none⟩ = _ := hq8.cell 5; have q6 : w8.cell? ⟨w.heap.size, 6, none⟩ = _ := hq8.cell 6; have q7 : w8.cell? ⟨w.heap.size, 7, none⟩ = _ := hq8.cell 7; have q8 : w8.cell? ⟨w.heap.size, 8, none⟩ = _ := hq8.cell 8; have k0 := hq8.free 0; have k1 := hq8.free 1; have k2 := hq8.free 2; have k3 := hq8.free 3; have k4 := hq8.free 4; have k5 := hq8.free 5; have k6 := hq8.free 6; have k7 := hq8.free 7; have k8 := hq8.free 8; have HRR8 := hideIt (HI.out.2.2.2.2.1.keepT hk8); have HK8 := hideIt (keep_then HI.out.2.2.2.2.2.1 hk8); have HQ8 := hideIt hq8; clear hk8 hl8 hq8; rcases h with ⟨hp8, rfl, _⟩ | ⟨rfl, h8⟩))
            · have HPF : Hid (At t w8 pb FF) := by
                show At t w8 pb FF
                rw [HFF.out, HDE.out]; exact hp8
              obtain hbk := put9_blk HQ8.out (.int .i64 (nm.ps : Int)) (sv nm.tx) (.int .i64 (f.ps : Int)) (sv f.tx) (.int .i64 (d.ps : Int)) (sv d.tx) (.int .i64 0) (.string ⟨#[]⟩) (.slice A out.length c)
              have hbw := put9_below (w := w8) (Nat.le_refl w.heap.size) (.int .i64 (nm.ps : Int)) (sv nm.tx) (.int .i64 (f.ps : Int)) (sv f.tx) (.int .i64 (d.ps : Int)) (sv d.tx) (.int .i64 0) (.string ⟨#[]⟩) (.slice A out.length c)
              refine bodyPost_ret (res_cell rfl _ _ w.heap.size _ _ _ rfl hbk Tryz.underlying80 rfl idf) rfl ⟨.inl ⟨HPF.out.kept hbw hlt, _, rfl, .slice A out.length c, ?_, ?_⟩, HK8.out.since hbw HW.out⟩
              · rw [HDE.out]; rfl
              · exact (put9_rows HQ8.out (.int .i64 (nm.ps : Int)) (sv nm.tx) (.int .i64 (f.ps : Int)) (sv f.tx) (.int .i64 (d.ps : Int)) (sv d.tx) (.int .i64 0) (.string ⟨#[]⟩) (.slice A out.length c) HRR8.out).low HW.out
            · refine ⟨rfl, .inr ⟨rfl, ?_⟩, HK8.out⟩
              obtain ⟨y, hy, hd⟩ := h8
              refine ⟨y, hy, ?_⟩
              rw [HFF.out, HDE.out]; exact hd
          | true =>
            have hdomL : isP (toks t) [100, 111, 109, 97, 105, 110] S' = true := hdom
            obtain ⟨m, hm⟩ : ∃ m, m = cur (toks t) (mustP (toks t) kDomain S') := ⟨_, rfl⟩
            obtain ⟨S6, hS6⟩ : ∃ S6, S6 = (oneP (toks t) kDomain S').2 := ⟨_, rfl⟩
            have HDE : Hid (dE (toks t) S' = (some m, S6)) := by
              show dE (toks t) S' = (some m, S6)
              unfold dE
              rw [hdom, if_pos rfl, hm, hS6]
            have HEF := hideIt (fun W => HE.out [125] rfl S6 W)
            have HSD := hideIt (fun W => HS.out kDomain rfl S' W)
            rw [← hm, ← hS6] at HSD
            clear hdom hm hS6
            go_wp2_with (first
              | (go_at_call 77; refine (HPQ.out _ (by rfl)).mono ?_; (first | rw [hparL] | rw [hlocL] | rw [hdomL]); rintro e w' ⟨rfl, rfl⟩)
              | (go_at_call 94; refine (HSD.out _ HI.out.2.1 (Nat.le_trans HW.out HI.out.2.2.2.2.2.1.size)).mono ?_; rintro e w8 ⟨h, hk8⟩; have hl8 := HI.out.2.2.1.keepT hk8 (by decide); have g6 : w8.cell? ⟨w2.heap.size, 6, none⟩ = _ := hl8.cell 6; have g7 : w8.cell? ⟨w2.heap.size, 7, none⟩ = _ := hl8.cell 7; have k6 := hl8.free 6; have k7 := hl8.free 7; have HRR8 := hideIt (HI.out.2.2.2.2.1.keepT hk8); have HK8 := hideIt (keep_then HI.out.2.2.2.2.2.1 hk8); have HQ8 := hideIt (HI.out.2.2.2.1.keepT hk8 (by decide)); have HL8 := hideIt hl8; clear hk8 hl8; rcases h with ⟨hp8, rfl, _⟩ | ⟨rfl, h8⟩)
              | (go_at_call 66; refine (HEF.out _ (hp8.kept (below_two (Nat.le_refl w2.heap.size) 6 7 (.int .i64 (m.ps : Int)) (.string (ss m.tx))) (by omega)) (Nat.le_trans HW.out (Nat.le_trans HK8.out.size (by simp [World.setCell])))).mono ?_; rintro e w9 ⟨h, hk9⟩; have hl9 := ((HL8.out.store 6 (.int .i64 (m.ps : Int))).store 7 (.string (ss m.tx))).keepT hk9 (by decide); have hq9 := (HQ8.out.kept (below_two (Nat.le_refl w2.heap.size) 6 7 (.int .i64 (m.ps : Int)) (.string (ss m.tx))) (by omega)).keepT hk9 (by decide); have g0 : w9.cell? ⟨w2.heap.size, 0, none⟩ = _ := hl9.cell 0; have g1 : w9.cell? ⟨w2.heap.size, 1, none⟩ = _ := hl9.cell 1; have g2 : w9.cell? ⟨w2.heap.size, 2, none⟩ = _ := hl9.cell 2; have g3 : w9.cell? ⟨w2.heap.size, 3, none⟩ = _ := hl9.cell 3; have g4 : w9.cell? ⟨w2.heap.size, 4, none⟩ = _ := hl9.cell 4; have g5 : w9.cell? ⟨w2.heap.size, 5, none⟩ = _ := hl9.cell 5; have g6 : w9.cell? ⟨w2.heap.size, 6, none⟩ = _ := hl9.cell 6; have g7 : w9.cell? ⟨w2.heap.size, 7, none⟩ = _ := hl9.cell 7; have g8 : w9.cell? ⟨w2.heap.size, 8, none⟩ = _ := hl9.cell 8; have q0 : w9.cell? ⟨w.heap.size, 0, none⟩ = _ := hq9.cell 0; have q1 : w9.cell? ⟨w.heap.size, 1, none⟩ = _ := hq9.cell 1; have q2 : w9.cell? ⟨w.heap.size, 2, none⟩ = _ := hq9.cell 2; have q3 : w9.cell? ⟨w.heap.size, 3, none⟩ = _ := hq9.cell 3; have q4 : w9.cell? ⟨w.heap.size, 4, none⟩ = _ := hq9.cell 4; have q5 : w9.cell? ⟨w.heap.size, 5, none⟩ = _ := hq9.cell 5; have q6 : w9.cell? ⟨w.heap.size, 6, none⟩ = _ := hq9.cell 6; have q7 : w9.cell? ⟨w.heap.size, 7, none⟩ = _ := hq9.cell 7; have q8 : w9.cell? ⟨w.heap.size, 8, none⟩ = _ := hq9.cell 8; have k0 := hq9.free 0; have k1 := hq9.free 1; have k2 := hq9.free 2; have k3 := hq9.free 3; have k4 := hq9.free 4; have k5 := hq9.free 5; have k6 := hq9.free 6; have k7 := hq9.free 7; have k8 := hq9.free 8; have HRR9 := hideIt (((HRR8.out.set HL8.out (by decide) (by decide) 6 (.int .i64 (m.ps : Int))).set (HL8.out.store 6 _) (by decide) (by decide) 7 (.string (ss m.tx))).keepT hk9); have HK9 := hideIt (keep_then (HK8.out.since (below_two (show w.heap.size ≤ w2.heap.size by omega) 6 7 (.int .i64 (m.ps : Int)) (.string (ss m.tx))) HW.out) hk9); have HQ9 := hideIt hq9; clear hk9 hl9 hq9; rcases h with ⟨hp9, rfl, _⟩ | ⟨rfl, h9⟩))
            · have HPF : Hid (At t w9 pb FF) := by
                show At t w9 pb FF
                rw [HFF.out, HDE.out]; exact hp9
              obtain hbk := put9_blk HQ9.out (.int .i64 (nm.ps : Int)) (sv nm.tx) (.int .i64 (f.ps : Int)) (sv f.tx) (.int .i64 (d.ps : Int)) (sv d.tx) (.int .i64 (m.ps : Int)) (sv m.tx) (.slice A out.length c)
              have hbw := put9_below (w := w9) (Nat.le_refl w.heap.size) (.int .i64 (nm.ps : Int)) (sv nm.tx) (.int .i64 (f.ps : Int)) (sv f.tx) (.int .i64 (d.ps : Int)) (sv d.tx) (.int .i64 (m.ps : Int)) (sv m.tx) (.slice A out.length c)
              refine bodyPost_ret (res_cell rfl _ _ w.heap.size _ _ _ rfl hbk Tryz.underlying80 rfl idf) rfl ⟨.inl ⟨HPF.out.kept hbw hlt, _, rfl, .slice A out.length c, ?_, ?_⟩, HK9.out.since hbw HW.out⟩
              · rw [HDE.out]; rfl
              · exact (put9_rows HQ9.out (.int .i64 (nm.ps : Int)) (sv nm.tx) (.int .i64 (f.ps : Int)) (sv f.tx) (.int .i64 (d.ps : Int)) (sv d.tx) (.int .i64 (m.ps : Int)) (sv m.tx) (.slice A out.length c) HRR9.out).low HW.out
            · refine ⟨rfl, .inr ⟨rfl, ?_⟩, HK9.out⟩
              obtain ⟨y, hy, hd⟩ := h9
              refine ⟨y, hy, ?_⟩
              rw [HFF.out, HDE.out]; exact hd
            · refine ⟨rfl, .inr ⟨rfl, ?_⟩, HK8.out⟩
              obtain ⟨y, hy, hd⟩ := h8
              refine ⟨y, hy, ?_⟩
              rw [HFF.out, HDE.out]; exact dead_must hd _
  · refine ⟨rfl, .inr ⟨rfl, ?_⟩, HK6.out⟩
    obtain ⟨y, hy, hd⟩ := h6
    exact ⟨y, hy, HD5.out _ hp5.1 hd⟩
  · refine ⟨rfl, .inr ⟨rfl, ?_⟩, HK5.out⟩
    obtain ⟨y, hy, hd⟩ := h5
    exact ⟨y, hy, HD4.out _ hd⟩
  · refine ⟨rfl, .inr ⟨rfl, ?_⟩, HK4.out⟩
    obtain ⟨y, hy, hd⟩ := h4
    exact ⟨y, hy, HD3.out _ hd⟩
  · refine ⟨rfl, .inr ⟨rfl, ?_⟩, HK3.out⟩
    obtain ⟨y, hy, hd⟩ := h3
    exact ⟨y, hy, HD2.out _ hd⟩
  · refine ⟨rfl, .inr ⟨rfl, ?_⟩, HK2.out⟩
    obtain ⟨y, hy, hd⟩ := h2
    exact ⟨y, hy, HD2a.out _ hd⟩
  · refine ⟨rfl, .inr ⟨rfl, ?_⟩, HK1.out⟩
    obtain ⟨y, hy, hd⟩ := h1
    exact ⟨y, hy, HD1.out _ hd⟩

end Go.Proofs.YtcogkdnlpjfgdaaGreatDoor
