/-
  The program's parser, walked: next, is, take.
-/
import Derived.Test.YtcogkdnlpjfgdaaGreatDoorLngN
namespace Go.Proofs.YtcogkdnlpjfgdaaGreatDoor
open Go.RowKit
set_option linter.unusedVariables false
set_option linter.unusedSimpArgs false

theorem Blk.sets {w : World} {g : Nat} {t : TypeId} {cs : List Value} (h : Blk w g t cs) (i : Nat) (u : Value) : Blk (w.setCell ⟨g, i, none⟩ u) g t (cs.set i u) := h.store i u

set_option maxHeartbeats 1000000 in
theorem is_any (t k : Bs) (x : Tk) (pb : Nat) (w : World) (hb : Blk w pb 102 (prC t x)) :
    Calls Tryz.prog 77 #[.pointer (some ⟨pb, 0, none⟩), sv k] w fun e w' => e = .returned (.bool (decide (x.tx = k))) ∧ w = w' := by
  have hc : w.cell? ⟨pb, 2, none⟩ = some (sv x.tx) := hb.cell 2
  have he := s_eql 9 x.tx k
  clear hb
  go_enter Tryz.func77, Tryz.ntmps77
  go_wp2_with fail
  go_ret
  exact ⟨rfl, rfl⟩

set_option maxHeartbeats 1000000 in
theorem next_any (t : Bs) (ht : t.length ≤ 2000) (q : Nat) (hq : q ≤ t.length) (pb : Nat) (a b : Value) (ha : a.oneCell' = true) (hbv : b.oneCell' = true) (B : Nat) (w : World) (hb : Blk w pb 102 [sv t, a, b, sv (t.drop q)]) (hB : B ≤ pb) (hBw : B ≤ w.heap.size) :
    Calls Tryz.prog 65 #[.pointer (some ⟨pb, 0, none⟩)] w fun e w' =>
      ((nextS (t.drop q) q).kd ≠ 5 ∧ e = .returned (.tuple #[]) ∨ (nextS (t.drop q) q).kd = 5 ∧ e = pan) ∧ Blk w' pb 102 (prC t (nextS (t.drop q) q)) ∧ KeepT B [102] w w' := by
  have hc3 : w.cell? ⟨pb, 3, none⟩ = some (sv (t.drop q)) := hb.cell 3
  have hlen : (t.drop q).length ≤ 2000 := by rw [List.length_drop]; omega
  have HG := hideIt (skipGap_any (t.drop q) hlen)
  obtain ⟨e1, e2, e3⟩ := nextS_rest t q hq
  have e4 := nextS_tx (t.drop q) q
  have e8 := nextS_len (t.drop q) q
  have e5 := nextS_five (t.drop q) q
  have e6 := tsz_le (gapD (t.drop q))
  have e7 : (gapD (t.drop q)).length ≤ t.length := by rw [gapD_len, List.length_drop]; omega
  have hg2 : (gapD (t.drop q)).length ≤ 2000 := by omega
  have HS := hideIt (tokenSize_any (gapD (t.drop q)) hg2)
  have hs1 := s_take Tryz.underlying9 (gapD (t.drop q)) (tsz (gapD (t.drop q))) e6
  have hs2 := s_drop Tryz.underlying9 (gapD (t.drop q)) (tsz (gapD (t.drop q))) e6
  rw [← e4] at hs1
  rw [e1] at hs2
  have hl1 := len_c t
  have hl2 := len_c (gapD (t.drop q))
  have hsub := sub_c 3 t.length (gapD (t.drop q)).length e7 (by omega)
  rw [← e2] at hsub
  have HB := hideIt hb
  generalize nextS (t.drop q) q = x at *
  generalize gapD (t.drop q) = g at *
  generalize tsz g = z at *
  generalize t.drop q = r at *
  have HR : Hid (x.tx = [] → t.drop (x.ps + x.tx.length) = g) := fun h => by
    rw [h, List.length_nil] at e8
    rw [← e1, ← e8, List.drop_zero]
  have H5 := hideIt e5
  have H3 := hideIt e3
  clear e1 e2 e3 e4 e5 e6 e7 e8 hlen hg2 hq hb
  go_enter Tryz.func65, Tryz.ntmps65
  go_wp2_with (first
    | (go_at_call 90; refine (HG.out _).mono ?_; rintro e w1 ⟨rfl, hw⟩; have HW1 := hideIt hw; clear hw)
    | (go_at_call 91; refine (HS.out _).mono ?_; rintro e w2 ⟨rfl, hw⟩; have HW2 := hideIt hw; clear hw))
  have hb2 := (HB.out.kept HW1.out HB.out.lt).kept HW2.out (Nat.lt_of_lt_of_le HB.out.lt HW1.out.size)
  have c0 : w2.cell? ⟨pb, 0, none⟩ = some (sv t) := hb2.cell 0
  have c1 : w2.cell? ⟨pb, 1, none⟩ = some a := hb2.cell 1
  have c2 : w2.cell? ⟨pb, 2, none⟩ = some b := hb2.cell 2
  have f1 := hb2.free 1
  have f2 := hb2.free 2
  have f3 := hb2.free 3
  have HB2 := hideIt hb2
  clear hb2 hc3
  go_region
  obtain ⟨w3, hw3⟩ : ∃ W, W = ((w2.setCell ⟨pb, 1, none⟩ (.int .i64 (x.ps : Int))).setCell ⟨pb, 2, none⟩ (.string (ss x.tx))).drew := ⟨_, rfl⟩
  rw [← hw3]
  have hb3 : Blk w3 pb 102 [sv t, .int .i64 (x.ps : Int), sv x.tx, sv r] := by rw [hw3]; exact (HB2.out.store 1 _).store 2 _
  have HK3 : Hid (KeepT B [102] w w3) := by
    rw [hw3]
    have k2 : KeepT B [102] w w2 := KeepT.of_below (HW1.out.trans (HW2.out.mono HW1.out.size)) hBw
    exact KeepT.trans (keepT_set (keepT_set k2 HB2.out hB) (HB2.out.store 1 _) hB) (KeepT.of_below ((Below.refl _ _).drew) (Nat.le_trans hBw (Nat.le_trans k2.size (by simp [World.setCell]))))
  have c3 : w3.cell? ⟨pb, 3, none⟩ = some (sv r) := hb3.cell 3
  have f3 := hb3.free 3
  have HB3 := hideIt hb3
  clear hw3 hb3 c0 c1 c2 f1 f2 hs1 hsub hl1 hl2
  obtain ⟨p, hp⟩ : ∃ p, p = t.drop (x.ps + x.tx.length) := ⟨_, rfl⟩
  rw [← hp] at hs2 HR
  have HP := hideIt hp
  have HB4 : Hid (Blk (w3.setCell ⟨pb, 3, none⟩ (sv p)) pb 102 (prC t x)) := by
    show Blk _ _ _ [_, _, _, sv (t.drop (x.ps + x.tx.length))]
    rw [← hp]
    exact HB3.out.store 3 (sv p)
  have HK4 : Hid (KeepT B [102] w (w3.setCell ⟨pb, 3, none⟩ (sv p))) := keepT_set HK3.out HB3.out hB
  have hc4 : (w3.setCell ⟨pb, 3, none⟩ (sv p)).cell? ⟨pb, 3, none⟩ = some (sv p) := by
    rw [HB4.out.cell 3, hp]; rfl
  have HI := hideIt (is_any t [] x pb _ HB4.out)
  have hne := s_neq 9 p []
  clear hp
  have hz : (sv [] : Value) = .string ⟨#[]⟩ := rfl
  rw [hz] at hne HI
  by_cases h5 : x.kd = 5
  · obtain ⟨q1, q2⟩ := H5.out.1 h5
    have q3 := HR.out q1
    rw [decide_eq_true q1] at HI
    rw [decide_eq_true (by rw [q3]; exact q2)] at hne
    have H5' := hideIt h5
    clear h5 q1 q2 q3
    go_wp2_with (go_at_call 77; refine HI.out.mono ?_; rintro e w' ⟨rfl, rfl⟩)
    exact ⟨rfl, .inr ⟨H5'.out, rfl⟩, HB4.out, HK4.out⟩
  · have H5' := hideIt h5
    by_cases q1 : x.tx = []
    · rw [decide_eq_true q1] at HI
      have q2 : p = [] := by
        have := HR.out q1
        by_cases hp : p = []
        · exact hp
        · exact absurd (H5.out.2 ⟨q1, by rw [← this]; exact hp⟩) h5
      rw [decide_eq_false (fun h => h q2)] at hne
      clear h5 q1 q2
      go_wp2_with (go_at_call 77; refine HI.out.mono ?_; rintro e w' ⟨rfl, rfl⟩)
      go_end0
      exact ⟨.inl ⟨H5'.out, rfl⟩, HB4.out, HK4.out⟩
    · rw [decide_eq_false q1] at HI
      clear h5 q1 hne
      go_wp2_with (go_at_call 77; refine HI.out.mono ?_; rintro e w' ⟨rfl, rfl⟩)
      go_end0
      exact ⟨.inl ⟨H5'.out, rfl⟩, HB4.out, HK4.out⟩

end Go.Proofs.YtcogkdnlpjfgdaaGreatDoor
