/-
  The program's parser, walked: row.
-/
import Derived.Test.YtcogkdnlpjfgdaaGreatDoorLngR
namespace Go.Proofs.YtcogkdnlpjfgdaaGreatDoor
open Go.RowKit
set_option linter.unusedVariables false
set_option linter.unusedSimpArgs false

/-- A row as it is written, in memory. -/
def RowR (w : World) (B : Nat) (x : Ln) (cs : List Value) : Prop :=
  ∃ va vb, cs = [.int .i64 (x.key.ps : Int), sv x.key.tx, va, vb] ∧ ((x.key.tx = kLocal ∧ TkS w B va x.a ∧ TkS w B vb x.b) ∨ (x.key.tx = kParity ∧ va = .slice none 0 0 ∧ TkS w B vb x.a ∧ x.b = []))
theorem TkS.keepT {w w' : World} {B B' : Nat} {v : Value} {l : List Tk} (h : TkS w B v l) (hk : KeepT B' [102] w w') : TkS w' B v l := own_keepT h hk (by decide)
theorem TkS.set {w : World} {B g : Nat} {v : Value} {l : List Tk} {cs : List Value} (h : TkS w B v l) (hb : Blk w g 107 cs) (i : Nat) (u : Value) : TkS (w.setCell ⟨g, i, none⟩ u) B v l := by
  unfold TkS at h ⊢
  refine h.kept (row := some g) ⟨rfl, rfl, rfl, by simp [World.setCell], fun k hk hne => heap_setCell_other _ _ _ _ (fun e => hne (by rw [e]))⟩ (.inr fun e => ?_)
  exact own_ne h hb (by decide) e.symm

theorem numbers_sl (t : Bs) (ht : t.length ≤ 2000) (pb B : Nat) (hB : B ≤ pb) (S : PS) (w : World) (hp : At t w pb S) (hBw : B ≤ w.heap.size) :
    Calls Tryz.prog 106 #[.pointer (some ⟨pb, 0, none⟩)] w fun e w' =>
      Ends t pb (numsP (toks t) S).2 (fun e w' => ∃ A c, e = .returned (.slice A (numsP (toks t) S).1.length c) ∧ TkS w' B (.slice A (numsP (toks t) S).1.length c) (numsP (toks t) S).1) e w' ∧ KeepT B [102] w w' := by
  refine (numbers_any t ht pb B hB S w hp hBw).mono ?_
  rintro e w' ⟨h, hk⟩
  refine ⟨?_, hk⟩
  rcases h with ⟨h1, v, rfl, h2⟩ | h
  · obtain ⟨A, c, rfl, _, _⟩ := own_form h2
    exact .inl ⟨h1, A, c, rfl, h2⟩
  · exact .inr h
theorem below_two {B g : Nat} {w : World} (hg : B ≤ g) (i j : Nat) (u v : Value) : Below B w ((w.setCell ⟨g, i, none⟩ u).setCell ⟨g, j, none⟩ v) := below_set (below_set (Below.refl _ _) hg _ _) hg _ _
theorem below_four {B g : Nat} {w : World} (hg : B ≤ g) (a b c d : Value) : Below B w ((((w.setCell ⟨g, 0, none⟩ a).setCell ⟨g, 1, none⟩ b).setCell ⟨g, 2, none⟩ c).setCell ⟨g, 3, none⟩ d) :=
  below_set (below_set (below_set (below_set (Below.refl _ _) hg _ _) hg _ _) hg _ _) hg _ _

set_option maxHeartbeats 2000000 in
set_option maxRecDepth 100000 in
theorem row_any (t : Bs) (ht : t.length ≤ 2000) (pb B : Nat) (hB : B ≤ pb) (S : PS) (w : World) (hp : At t w pb S) (hBw : B ≤ w.heap.size) :
    Calls Tryz.prog 95 #[.pointer (some ⟨pb, 0, none⟩)] w fun e w' =>
      Ends t pb (rowP (toks t) S).2 (fun e w' => ∃ cs, e = .returned (.agg cs.toArray) ∧ RowR w' B (rowP (toks t) S).1 cs) e w' ∧ KeepT B [102] w w' := by
  have HE := hideIt (fun k hk S W hp hBw => expect_at t ht pb B hB k hk S W hp hBw)
  have HN := hideIt (fun S W hp hBw => numbers_sl t ht pb B hB S W hp hBw)
  have HI := hideIt (fun W hp => is_at t pb kLocal rfl S W hp)
  obtain ⟨c2, _, _, _, _, c1⟩ := hp.cur
  obtain ⟨x, hx⟩ : ∃ x, x = cur (toks t) S := ⟨_, rfl⟩
  rw [← hx] at c1 c2
  have HX := hideIt hx
  have hlt := hp.lt
  have HW := hideIt hBw
  have hs1 : ((w.alloc (.cells #[.int .i64 0, .string ⟨#[]⟩, .slice none 0 0, .slice none 0 0] 107))).heap.size = w.heap.size + 1 := by simp
  obtain ⟨W0, hW0⟩ : ∃ W, W = (w.alloc (.cells #[.int .i64 0, .string ⟨#[]⟩, .slice none 0 0, .slice none 0 0] 107)).alloc (.cells #[.int .i64 (x.ps : Int), .string (ss x.tx), .slice none 0 0, .slice none 0 0] 107) := ⟨_, rfl⟩
  have HK0 : Hid (KeepT B [102] w W0) := by rw [hW0]; exact keep_new (keep_new (KeepT.refl B _ w) hBw _) hBw _
  have HP0 : Hid (At t W0 pb S) := by rw [hW0]; exact (hp.new _).new _
  have HR0 : Hid (Blk W0 w.heap.size 107 [.int .i64 0, .string ⟨#[]⟩, .slice none 0 0, .slice none 0 0]) := by
    rw [hW0]; exact (Blk.new w 107 [.int .i64 0, .string ⟨#[]⟩, .slice none 0 0, .slice none 0 0]).alloc _
  have HL0 : Hid (Blk W0 (w.heap.size + 1) 107 [.int .i64 (x.ps : Int), sv x.tx, .slice none 0 0, .slice none 0 0]) := by
    have := Blk.new (w.alloc (.cells #[.int .i64 0, .string ⟨#[]⟩, .slice none 0 0, .slice none 0 0] 107)) 107 [.int .i64 (x.ps : Int), sv x.tx, .slice none 0 0, .slice none 0 0]
    rw [hs1] at this
    rw [hW0]; exact this
  have HW0 := hideIt hW0
  clear hp hBw hx ht hs1 hW0
  cases hb : isP (toks t) kLocal S with
  | true =>
    obtain ⟨S1, hS1⟩ : ∃ S1, S1 = mustP (toks t) kLocal S := ⟨_, rfl⟩
    obtain ⟨S2, hS2⟩ : ∃ S2, S2 = (numsP (toks t) S1).2 := ⟨_, rfl⟩
    obtain ⟨a, ha⟩ : ∃ a, a = (numsP (toks t) S1).1 := ⟨_, rfl⟩
    obtain ⟨S3, hS3⟩ : ∃ S3, S3 = mustP (toks t) [58] S2 := ⟨_, rfl⟩
    obtain ⟨S4, hS4⟩ : ∃ S4, S4 = (numsP (toks t) S3).2 := ⟨_, rfl⟩
    obtain ⟨b, hbb⟩ : ∃ b, b = (numsP (toks t) S3).1 := ⟨_, rfl⟩
    have hrow : rowP (toks t) S = (⟨x, a, b⟩, mustP (toks t) [59] S4) := by
      unfold rowP
      rw [hb, if_pos rfl, HX.out, hbb, hS4, hS3, ha, hS2, hS1]
    rw [hrow]
    have HE1 := hideIt (fun W => HE.out kLocal rfl S W)
    rw [← hS1] at HE1
    have HN1 := hideIt (fun W => HN.out S1 W)
    rw [← hS2, ← ha] at HN1
    have HE2 := hideIt (fun W => HE.out [58] rfl S2 W)
    rw [← hS3] at HE2
    have HN2 := hideIt (fun W => HN.out S3 W)
    rw [← hS4, ← hbb] at HN2
    have HD4 : Hid (∀ A, Dead (toks t) S4 A → Dead (toks t) (mustP (toks t) [59] S4) A) := fun A h => dead_must h _
    have HD3 : Hid (∀ A, Dead (toks t) S3 A → Dead (toks t) (mustP (toks t) [59] S4) A) := fun A h => HD4.out A (by rw [hS4]; exact dead_numsP h)
    have HD2 : Hid (∀ A, Dead (toks t) S2 A → Dead (toks t) (mustP (toks t) [59] S4) A) := fun A h => HD3.out A (by rw [hS3]; exact dead_must h _)
    have HD1 : Hid (∀ A, Dead (toks t) S1 A → Dead (toks t) (mustP (toks t) [59] S4) A) := fun A h => HD2.out A (by rw [hS2]; exact dead_numsP h)
    have HIB := HI
    rw [hb] at HIB
    have HB := hideIt hb
    clear hrow hS1 hS2 hS3 hS4 ha hbb hb HI
    go_enter Tryz.func95, Tryz.ntmps95
    go_wp2_with (first
      | (go_at_call 77; rw [← HW0.out]; refine (HIB.out _ HP0.out).mono ?_; rintro e w' ⟨rfl, rfl⟩)
      | (go_at_call 66; refine (HE.out [59] rfl S4 _ (hp4.kept (below_set (Below.refl (w.heap.size + 1) _) (Nat.le_refl _) _ _) (by omega)) (Nat.le_trans HW.out (Nat.le_trans HK4.out.size (by simp [World.setCell])))).mono ?_; rintro e w5 ⟨h, hk5⟩; have HK5 := hideIt (keep_then (HK4.out.since (below_set (Below.refl _ _) (Nat.le_succ _) 3 (.slice A4 b.length n4)) HW.out) hk5); have HT5 := hideIt ((HT4.out.set HL4.out 3 (.slice A4 b.length n4)).keepT hk5); have HU5 := hideIt ((ht4.set HL4.out 3 (.slice A4 b.length n4)).keepT hk5); have hr5 := (HR4.out.store_other (k := w.heap.size + 1) (i := 3) (u := .slice A4 b.length n4) (by omega)).keepT hk5 (by decide); have hl5 := (HL4.out.store 3 (.slice A4 b.length n4)).keepT hk5 (by decide); have g0 : w5.cell? ⟨w.heap.size + 1, 0, none⟩ = _ := hl5.cell 0; have g1 : w5.cell? ⟨w.heap.size + 1, 1, none⟩ = _ := hl5.cell 1; have g2 : w5.cell? ⟨w.heap.size + 1, 2, none⟩ = _ := hl5.cell 2; have g3 : w5.cell? ⟨w.heap.size + 1, 3, none⟩ = _ := hl5.cell 3; have q0 : w5.cell? ⟨w.heap.size, 0, none⟩ = _ := hr5.cell 0; have q1 : w5.cell? ⟨w.heap.size, 1, none⟩ = _ := hr5.cell 1; have q2 : w5.cell? ⟨w.heap.size, 2, none⟩ = _ := hr5.cell 2; have q3 : w5.cell? ⟨w.heap.size, 3, none⟩ = _ := hr5.cell 3; have f0 := hr5.free 0; have f1 := hr5.free 1; have f2 := hr5.free 2; have f3 := hr5.free 3; have HR5 := hideIt hr5; clear hk5 hr5 hl5; rcases h with ⟨hp5, rfl, _⟩ | ⟨rfl, h5⟩)
      | (go_at_call 106; refine (HN2.out _ hp3 (Nat.le_trans HW.out HK3.out.size)).mono ?_; rintro e w4 ⟨⟨hp4, A4, n4, rfl, ht4⟩ | ⟨rfl, h4⟩, hk4⟩ <;> have HK4 := hideIt (keep_then HK3.out hk4) <;> have HT4 := hideIt (HT3.out.keepT hk4) <;> have hr4 := HR3.out.keepT hk4 (by decide) <;> have hl4 := HL3.out.keepT hk4 (by decide) <;> have g3 : w4.cell? ⟨w.heap.size + 1, 3, none⟩ = _ := hl4.cell 3 <;> have k3 := hl4.free 3 <;> have HR4 := hideIt hr4 <;> have HL4 := hideIt hl4 <;> clear hk4 hr4 hl4)
      | (go_at_call 66; refine (HE2.out _ (hp2.kept (below_set (Below.refl (w.heap.size + 1) _) (Nat.le_refl _) _ _) (by omega)) (Nat.le_trans HW.out (Nat.le_trans HK2.out.size (by simp [World.setCell])))).mono ?_; rintro e w3 ⟨h, hk3⟩; have HK3 := hideIt (keep_then (HK2.out.since (below_set (Below.refl _ _) (Nat.le_succ _) 2 (.slice A2 a.length n2)) HW.out) hk3); have HT3 := hideIt ((ht2.set HL2.out 2 (.slice A2 a.length n2)).keepT hk3); have HR3 := hideIt ((HR2.out.store_other (k := w.heap.size + 1) (i := 2) (u := .slice A2 a.length n2) (by omega)).keepT hk3 (by decide)); have HL3 := hideIt ((HL2.out.store 2 (.slice A2 a.length n2)).keepT hk3 (by decide)); clear hk3; rcases h with ⟨hp3, rfl, _⟩ | ⟨rfl, h3⟩)
      | (go_at_call 106; refine (HN1.out _ hp1 (Nat.le_trans HW.out HK1.out.size)).mono ?_; rintro e w2 ⟨⟨hp2, A2, n2, rfl, ht2⟩ | ⟨rfl, h2⟩, hk2⟩ <;> have HK2 := hideIt (keep_then HK1.out hk2) <;> have hr2 := HR1.out.keepT hk2 (by decide) <;> have hl2 := HL1.out.keepT hk2 (by decide) <;> have g2 : w2.cell? ⟨w.heap.size + 1, 2, none⟩ = _ := hl2.cell 2 <;> have k2 := hl2.free 2 <;> have HR2 := hideIt hr2 <;> have HL2 := hideIt hl2 <;> clear hk2 hr2 hl2)
      | (go_at_call 66; refine (HE1.out _ HP0.out (Nat.le_trans HW.out HK0.out.size)).mono ?_; rintro e w1 ⟨⟨hp1, rfl, h1⟩ | ⟨rfl, h1⟩, hk1⟩ <;> have HK1 := hideIt (keep_then HK0.out hk1) <;> have HR1 := hideIt (HR0.out.keepT hk1 (by decide)) <;> have HL1 := hideIt (HL0.out.keepT hk1 (by decide)) <;> clear hk1))
    · have hbw := below_four (w := w5) (Nat.le_refl w.heap.size) (.int .i64 (x.ps : Int)) (sv x.tx) (.slice A2 a.length n2) (.slice A4 b.length n4)
      have hbk := (((HR5.out.store 0 (.int .i64 (x.ps : Int))).store 1 (sv x.tx)).store 2 (.slice A2 a.length n2)).store 3 (.slice A4 b.length n4)
      refine bodyPost_ret (res_cell rfl _ _ w.heap.size _ _ _ rfl hbk Tryz.underlying107 rfl irw) rfl ⟨.inl ⟨hp5.kept hbw hlt, _, rfl, _, _, rfl, .inl ⟨?_, ?_, ?_⟩⟩, HK5.out.since hbw HW.out⟩
      · have := (isP_is h1).2.2
        rw [← HX.out] at this
        exact this
      · exact (((HT5.out.set HR5.out 0 _).set (HR5.out.store 0 _) 1 _).set ((HR5.out.store 0 _).store 1 _) 2 _).set (((HR5.out.store 0 _).store 1 _).store 2 _) 3 _
      · exact (((HU5.out.set HR5.out 0 _).set (HR5.out.store 0 _) 1 _).set ((HR5.out.store 0 _).store 1 _) 2 _).set (((HR5.out.store 0 _).store 1 _).store 2 _) 3 _
    · exact ⟨rfl, .inr ⟨rfl, h5⟩, HK5.out⟩
    · refine ⟨rfl, .inr ⟨rfl, ?_⟩, HK4.out⟩
      obtain ⟨y, hy, hd⟩ := h4
      exact ⟨y, hy, HD4.out _ hd⟩
    · refine ⟨rfl, .inr ⟨rfl, ?_⟩, HK3.out⟩
      obtain ⟨y, hy, hd⟩ := h3
      exact ⟨y, hy, HD3.out _ hd⟩
    · refine ⟨rfl, .inr ⟨rfl, ?_⟩, HK2.out⟩
      obtain ⟨y, hy, hd⟩ := h2
      exact ⟨y, hy, HD2.out _ hd⟩
    · refine ⟨rfl, .inr ⟨rfl, ?_⟩, HK1.out⟩
      obtain ⟨y, hy, hd⟩ := h1
      exact ⟨y, hy, HD1.out _ hd⟩
  | false =>
    obtain ⟨S1, hS1⟩ : ∃ S1, S1 = mustP (toks t) kParity S := ⟨_, rfl⟩
    obtain ⟨S2, hS2⟩ : ∃ S2, S2 = (numsP (toks t) S1).2 := ⟨_, rfl⟩
    obtain ⟨a, ha⟩ : ∃ a, a = (numsP (toks t) S1).1 := ⟨_, rfl⟩
    have hrow : rowP (toks t) S = (⟨x, a, []⟩, mustP (toks t) [59] S2) := by
      unfold rowP
      rw [hb, if_neg (by simp), HX.out, ha, hS2, hS1]
    rw [hrow]
    have HE1 := hideIt (fun W => HE.out kParity rfl S W)
    rw [← hS1] at HE1
    have HN1 := hideIt (fun W => HN.out S1 W)
    rw [← hS2, ← ha] at HN1
    have HD1 : Hid (∀ A, Dead (toks t) S1 A → Dead (toks t) (mustP (toks t) [59] S2) A) := fun A h => by rw [hS2]; exact dead_must (dead_numsP h) _
    have HD2 : Hid (∀ A, Dead (toks t) S2 A → Dead (toks t) (mustP (toks t) [59] S2) A) := fun A h => dead_must h _
    have HIB := HI
    rw [hb] at HIB
    have HB := hideIt hb
    clear hrow hS1 hS2 ha hb HI
    go_enter Tryz.func95, Tryz.ntmps95
    go_wp2_with (first
      | (go_at_call 77; rw [← HW0.out]; refine (HIB.out _ HP0.out).mono ?_; rintro e w' ⟨rfl, rfl⟩)
      | (go_at_call 66; refine (HE1.out _ HP0.out (Nat.le_trans HW.out HK0.out.size)).mono ?_; rintro e w1 ⟨⟨hp1, rfl, h1⟩ | ⟨rfl, h1⟩, hk1⟩ <;> have HK1 := hideIt (keep_then HK0.out hk1) <;> have HR1 := hideIt (HR0.out.keepT hk1 (by decide)) <;> have HL1 := hideIt (HL0.out.keepT hk1 (by decide)) <;> clear hk1)
      | (go_at_call 106; refine (HN1.out _ hp1 (Nat.le_trans HW.out HK1.out.size)).mono ?_; rintro e w2 ⟨⟨hp2, A2, n2, rfl, ht2⟩ | ⟨rfl, h2⟩, hk2⟩ <;> have HK2 := hideIt (keep_then HK1.out hk2) <;> have hr2 := HR1.out.keepT hk2 (by decide) <;> have hl2 := HL1.out.keepT hk2 (by decide) <;> have g3 : w2.cell? ⟨w.heap.size + 1, 3, none⟩ = _ := hl2.cell 3 <;> have k3 := hl2.free 3 <;> have HR2 := hideIt hr2 <;> have HL2 := hideIt hl2 <;> clear hk2 hr2 hl2)
      | (go_at_call 66; refine (HE.out [59] rfl S2 _ (hp2.kept (below_set (Below.refl (w.heap.size + 1) _) (Nat.le_refl _) _ _) (by omega)) (Nat.le_trans HW.out (Nat.le_trans HK2.out.size (by simp [World.setCell])))).mono ?_; rintro e w3 ⟨h, hk3⟩; have HK3 := hideIt (keep_then (HK2.out.since (below_set (Below.refl _ _) (Nat.le_succ _) 3 (.slice A2 a.length n2)) HW.out) hk3); have HT3 := hideIt ((ht2.set HL2.out 3 (.slice A2 a.length n2)).keepT hk3); have hr3 := (HR2.out.store_other (k := w.heap.size + 1) (i := 3) (u := .slice A2 a.length n2) (by omega)).keepT hk3 (by decide); have hl3 := (HL2.out.store 3 (.slice A2 a.length n2)).keepT hk3 (by decide); have g0 : w3.cell? ⟨w.heap.size + 1, 0, none⟩ = _ := hl3.cell 0; have g1 : w3.cell? ⟨w.heap.size + 1, 1, none⟩ = _ := hl3.cell 1; have g2 : w3.cell? ⟨w.heap.size + 1, 2, none⟩ = _ := hl3.cell 2; have g3 : w3.cell? ⟨w.heap.size + 1, 3, none⟩ = _ := hl3.cell 3; have q0 : w3.cell? ⟨w.heap.size, 0, none⟩ = _ := hr3.cell 0; have q1 : w3.cell? ⟨w.heap.size, 1, none⟩ = _ := hr3.cell 1; have q2 : w3.cell? ⟨w.heap.size, 2, none⟩ = _ := hr3.cell 2; have q3 : w3.cell? ⟨w.heap.size, 3, none⟩ = _ := hr3.cell 3; have f0 := hr3.free 0; have f1 := hr3.free 1; have f2 := hr3.free 2; have f3 := hr3.free 3; have HR3 := hideIt hr3; clear hk3 hr3 hl3; rcases h with ⟨hp3, rfl, _⟩ | ⟨rfl, h3⟩))
    · have hbw := below_four (w := w3) (Nat.le_refl w.heap.size) (.int .i64 (x.ps : Int)) (sv x.tx) (.slice none 0 0) (.slice A2 a.length n2)
      have hbk := (((HR3.out.store 0 (.int .i64 (x.ps : Int))).store 1 (sv x.tx)).store 2 (.slice none 0 0)).store 3 (.slice A2 a.length n2)
      refine bodyPost_ret (res_cell rfl _ _ w.heap.size _ _ _ rfl hbk Tryz.underlying107 rfl irw) rfl ⟨.inl ⟨hp3.kept hbw hlt, _, rfl, _, _, rfl, .inr ⟨?_, rfl, ?_, rfl⟩⟩, HK3.out.since hbw HW.out⟩
      · have := (isP_is h1).2.2
        rw [← HX.out] at this
        exact this
      · exact (((HT3.out.set HR3.out 0 _).set (HR3.out.store 0 _) 1 _).set ((HR3.out.store 0 _).store 1 _) 2 _).set (((HR3.out.store 0 _).store 1 _).store 2 _) 3 _
    · exact ⟨rfl, .inr ⟨rfl, h3⟩, HK3.out⟩
    · refine ⟨rfl, .inr ⟨rfl, ?_⟩, HK2.out⟩
      obtain ⟨y, hy, hd⟩ := h2
      exact ⟨y, hy, HD2.out _ hd⟩
    · refine ⟨rfl, .inr ⟨rfl, ?_⟩, HK1.out⟩
      obtain ⟨y, hy, hd⟩ := h1
      exact ⟨y, hy, HD1.out _ hd⟩

end Go.Proofs.YtcogkdnlpjfgdaaGreatDoor
