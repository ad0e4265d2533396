/-
  The law's check, walked.
-/
import Derived.Test.YtodmcojcmihooaaDoorMatJ
namespace Go.Proofs.YtodmcojcmihooaaDoor
open Go.RowKit
set_option linter.unusedVariables false

theorem min_blk {W : World} {g : Nat} (F R C : Int) {l : List Int} (h : Blk W g 3 (l.map iv)) (hl : l.length ≤ 1000) : MIn W ⟨F, R, C, l⟩ (some ⟨g, 0, none⟩) l.length :=
  ⟨⟨by rw [List.length_map]; omega, fun _ => ⟨g, 0, rfl, h.lt, fun j v hj => by rw [Nat.zero_add, h.cell]; exact hj⟩⟩, Nat.le_refl _, by show l.length ≤ maxLen; unfold maxLen; omega⟩
theorem MRes.min2 {W W' : World} {r : Mt} {x : Int} {e : Ending} (h : MRes W (r, x) e W') : ∃ D c, e = .returned (.tuple #[mtV r.F r.R r.C (.slice D r.l.length c), .int .i64 x]) ∧ MIn W' r D c ∧ Below W.heap.size W W' := by
  obtain ⟨s, he, ho, hb⟩ := h
  obtain ⟨D, c, rfl, hin⟩ := MRes.min ho
  exact ⟨D, c, he, hin, hb⟩
/-- A matrix in its box. -/
structure BM (W : World) (p : Nat) (a : Mt) (A : Option Addr) (c : Nat) : Prop where
  box : Blk W p 24 (mtC a.F a.R a.C (.slice A a.l.length c))
  mat : MIn W a A c
theorem BM.keep {W W' : World} {p : Nat} {a : Mt} {A : Option Addr} {c : Nat} (h : BM W p a A c) (hb : Below W.heap.size W W') : BM W' p a A c := ⟨h.box.kept hb h.box.lt, h.mat.keep hb⟩

theorem la6 {w0 W : World} {o : Obj} (h : Below w0.heap.size w0 W) : Below w0.heap.size w0 (W.alloc o) := h.alloc h.size _
theorem ls6 {w0 P W : World} (h : Below w0.heap.size w0 P) (k : Below P.heap.size P W) : Below w0.heap.size w0 W := h.trans (k.mono h.size)
theorem min_own {w W : World} {a : Mt} {D : Option Addr} {n c : Nat} (hn : a.l.length = n) (h : W.ownsRow w.heap.size 3 1 (.slice D n c) n (a.l.map iv)) : MIn W a D c := by
  subst hn
  obtain ⟨A, c', h1, h2⟩ := MRes.min h
  injection h1 with e1 e2 e3
  subst e1 e3
  exact h2
theorem MRes.own2 {W W' : World} {r : Mt} {x : Int} {e : Ending} (h : MRes W (r, x) e W') : ∃ D c, e = .returned (.tuple #[mtV r.F r.R r.C (.slice D r.l.length c), .int .i64 x]) ∧ W'.ownsRow W.heap.size 3 1 (.slice D r.l.length c) r.l.length (r.l.map iv) ∧ Below W.heap.size W W' := by
  obtain ⟨s, he, ho, hb⟩ := h
  obtain ⟨D, c, rfl, _⟩ := MRes.min ho
  exact ⟨D, c, he, ho, hb⟩

set_option maxHeartbeats 4000000 in
set_option maxRecDepth 100000 in
theorem sanity_any (w : World) (hT : Tabs w) : Calls Tryd.prog 11 #[] w fun e w' => e = .returned (.bool true) ∧ Below w.heap.size w w' := by
  have HMU := hideIt (fun A B ca cb W (hW : Below w.heap.size w W) (ha : MIn W ⟨8, 2, 2, [1, 2, 3, 4]⟩ A ca) (hb : MIn W ⟨8, 2, 1, [5, 6]⟩ B cb) => show Calls Tryd.prog 12 #[mtV 8 2 2 (.slice A 4 ca), mtV 8 2 1 (.slice B 2 cb)] W (fun e w' => ∃ D c, e = .returned (.tuple #[mtV 8 2 1 (.slice D 2 c), .int .i64 0]) ∧ w'.ownsRow W.heap.size 3 1 (.slice D 2 c) 2 ([9, 23].map iv) ∧ Below W.heap.size W w') by
    have h := mul6_any _ _ A B ca cb W (hT.keep hW) ha hb
    rw [q_mul] at h
    exact h.mono (fun e w' h => h.own2))
  have HI0 := hideIt (fun A ca W (hW : Below w.heap.size w W) (ha : MIn W ⟨8, 2, 2, [1, 1, 1, 1]⟩ A ca) => show Calls Tryd.prog 18 #[mtV 8 2 2 (.slice A 4 ca)] W (fun e w' => ∃ D c, e = .returned (.tuple #[mtV 0 0 0 (.slice D 0 c), .int .i64 10]) ∧ MIn w' zeroM D c ∧ Below W.heap.size W w') by
    have h := inver_any _ A ca W (hT.keep hW) ha
    rw [q_inv0] at h
    exact h.mono (fun e w' h => h.min2))
  have HI1 := hideIt (fun A ca W (hW : Below w.heap.size w W) (ha : MIn W ⟨8, 2, 2, [1, 1, 0, 1]⟩ A ca) => show Calls Tryd.prog 18 #[mtV 8 2 2 (.slice A 4 ca)] W (fun e w' => ∃ D c, e = .returned (.tuple #[mtV 8 2 2 (.slice D 4 c), .int .i64 0]) ∧ MIn w' ⟨8, 2, 2, [1, 1, 0, 1]⟩ D c ∧ Below W.heap.size W w') by
    have h := inver_any _ A ca W (hT.keep hW) ha
    rw [q_inv] at h
    exact h.mono (fun e w' h => h.min2))
  have HS0 := hideIt (fun A B ca cb W (hW : Below w.heap.size w W) (ha : MIn W ⟨8, 1, 2, [1, 1]⟩ A ca) (hb : MIn W ⟨8, 1, 1, [7]⟩ B cb) => show Calls Tryd.prog 32 #[mtV 8 1 2 (.slice A 2 ca), mtV 8 1 1 (.slice B 1 cb)] W (fun e w' => ∃ D c, e = .returned (.tuple #[mtV 8 2 1 (.slice D 2 c), .int .i64 0]) ∧ MIn w' ⟨8, 2, 1, [7, 0]⟩ D c ∧ Below W.heap.size W w') by
    have h := solve_any _ _ A B ca cb W (hT.keep hW) ha hb
    rw [q_sol] at h
    exact h.mono (fun e w' h => h.min2))
  have HS1 := hideIt (fun A B ca cb W (hW : Below w.heap.size w W) (ha : MIn W ⟨8, 2, 1, [1, 1]⟩ A ca) (hb : MIn W ⟨8, 2, 1, [1, 2]⟩ B cb) => show Calls Tryd.prog 32 #[mtV 8 2 1 (.slice A 2 ca), mtV 8 2 1 (.slice B 2 cb)] W (fun e w' => ∃ D c, e = .returned (.tuple #[mtV 0 0 0 (.slice D 0 c), .int .i64 12]) ∧ MIn w' zeroM D c ∧ Below W.heap.size W w') by
    have h := solve_any _ _ A B ca cb W (hT.keep hW) ha hb
    rw [q_sol0] at h
    exact h.mono (fun e w' h => h.min2))
  have HRK := hideIt (fun A ca W (hW : Below w.heap.size w W) (ha : MIn W ⟨8, 2, 2, [1, 2, 2, 4]⟩ A ca) => show Calls Tryd.prog 25 #[mtV 8 2 2 (.slice A 4 ca)] W (fun e w' => e = .returned (.int .i64 1) ∧ Below W.heap.size W w') by
    have h := rank_any _ A ca W (hT.keep hW) ha
    rw [q_rank] at h
    exact h)
  have HIN := hideIt (fun A ca W (hW : Below w.heap.size w W) (ha : MIn W ⟨8, 4, 2, [0, 0, 1, 1, 2, 2, 0, 3]⟩ A ca) => show Calls Tryd.prog 28 #[mtV 8 4 2 (.slice A 8 ca)] W (fun e w' => ∃ D c, e = .returned (.slice D 2 c) ∧ Sl w' w'.heap.size D 1 2 ([1, 3].map iv) ∧ Below W.heap.size W w') by
    have h := indep_any _ A ca W (hT.keep hW) ha
    rw [q_ind] at h
    refine h.mono (fun e w' h => ?_)
    obtain ⟨v, rfl, ho, hb⟩ := h
    obtain ⟨D, c, rfl, hm⟩ := MRes.min (a := ⟨0, 0, 0, [1, 3]⟩) ho
    exact ⟨D, c, rfl, hm.sl, hb⟩)
  have HVA := hideIt (fun A ca W (hW : Below w.heap.size w W) (ha : MIn W ⟨8, 2, 2, [1, 2, 3, 4]⟩ A ca) => show Calls Tryd.prog 21 #[mtV 8 2 2 (.slice A 4 ca)] W (fun e w' => e = .returned (.bool true) ∧ Below W.heap.size W w') by
    have h := mvalid_b (hT.keep hW) ha W (Below.refl _ _)
    rw [q_v] at h
    exact h)
  have HV0 := hideIt (fun W (hW : Below w.heap.size w W) => show Calls Tryd.prog 21 #[mtV 8 2 2 (.slice none 0 0)] W (fun e w' => e = .returned (.bool false) ∧ Below W.heap.size W w') by
    obtain ⟨D, c, h0, hm⟩ := MRes.min (a := ⟨8, 2, 2, []⟩) (World.ownsRow_nil W W.heap.size 3 1)
    injection h0 with e1 e2 e3
    subst e1 e3
    have h := mvalid_b (hT.keep hW) hm W (Below.refl _ _)
    rw [q_v0] at h
    exact h)
  have HAT := hideIt (fun A ca W (hW : Below w.heap.size w W) (ha : MIn W ⟨8, 2, 2, [1, 2, 3, 4]⟩ A ca) => show Calls Tryd.prog 23 #[mtV 8 2 2 (.slice A 4 ca), .int .i64 1, .int .i64 0] W (fun e w' => e = .returned (.int .i64 3) ∧ Below W.heap.size W w') by
    have h := at_any _ 1 0 A ca W (hT.keep hW) ha
    rw [q_at] at h
    exact h)
  have HSM := hideIt (fun (a : Mt) (n : Nat) (hn : a.l.length = n) (hmx : n ≤ 100) A B ca cb W (ha : MIn W a A ca) (hb : MIn W a B cb) => show Calls Tryd.prog 20 #[mtV a.F a.R a.C (.slice A n ca), mtV a.F a.R a.C (.slice B n cb)] W (fun e w' => e = .returned (.bool true) ∧ Below W.heap.size W w') by
    subst hn
    have h := rsame_any a a A B ca cb W ha hb (by omega)
    rw [sameM_self] at h
    exact h)
  have HT := hideIt hT
  clear hT
  go_enter Tryd.func11, Tryd.ntmps11
  go_upto_region 2 with (go_at_call 34; refine (of_any _ _ _ _ _ _ _).mono ?_; rintro e w2 ⟨rfl, hb2⟩; have HB2 := hideIt hb2; clear hb2)
  have HBM1 := hideIt (show BM (w2.alloc (.cells #[.int .i64 8, .int .i64 2, .int .i64 2, .slice (some ⟨w.heap.size, 0, none⟩) 4 4] 24)) w2.heap.size ⟨8, 2, 2, [1, 2, 3, 4]⟩ (some ⟨w.heap.size, 0, none⟩) 4 from ⟨Blk.new w2 _ _, ((min_blk 8 2 2 (l := [1, 2, 3, 4]) (Blk.new w 3 ([1, 2, 3, 4].map iv)) (by decide)).keep HB2.out).keep (below_new _ _)⟩)
  have HLB := hideIt (show Below w.heap.size w (w2.alloc (.cells #[.int .i64 8, .int .i64 2, .int .i64 2, .slice (some ⟨w.heap.size, 0, none⟩) 4 4] 24)) from la6 (ls6 (below_new w _) HB2.out))
  obtain ⟨W1, hW1⟩ : ∃ W, W = w2.alloc (.cells #[.int .i64 8, .int .i64 2, .int .i64 2, .slice (some ⟨w.heap.size, 0, none⟩) 4 4] 24) := ⟨_, rfl⟩
  obtain ⟨p1, hp1⟩ : ∃ p, p = w2.heap.size := ⟨_, rfl⟩
  obtain ⟨A1, hA1⟩ : ∃ A, A = (some ⟨w.heap.size, 0, none⟩ : Option Addr) := ⟨_, rfl⟩
  rw [← hW1, ← hp1, ← hA1] at HBM1
  rw [← hW1] at HLB
  rw [← hW1, ← hp1]
  clear hW1 hp1 hA1 HB2
  have HHK : Hid (∀ W' bt, Below W1.heap.size W1 W' → Hooks [(3, fun W => Blk W p1 24 (mtC 8 2 2 (.slice A1 4 4)))] bt W') := hideIt (fun W' bt hb' => Hooks.add (HBM1.out.box.kept hb' HBM1.out.box.lt) (Hooks.nil _ _))
  go_cut [2, 3] (fun s2 s3 W => ∃ (p : Nat) (D : Option Addr) (c : Nat), s2 = .pointer (some ⟨p, 0, none⟩) ∧ s3 = .int .i64 0 ∧ Aside (Below W1.heap.size W1 W ∧ BM W p ⟨8, 2, 1, [9, 23]⟩ D c))
  case first =>
    have hww : Below W1.heap.size W1 W1.drew := (Below.refl _ _).drew
    refine loads_begin_n 10 [(3, fun W => Blk W p1 24 (mtC 8 2 2 (.slice A1 4 4)))] rfl (by kernel_rfl) ?_
    refine wpAnyL_take (oi := ⟨some 17, _, _, _, _, _⟩) 0 3 (mtV 8 2 2 (.slice A1 4 4)) _ rfl (by kernel_rfl) (by kernel_rfl) (by kernel_rfl) (by kernel_rfl) (by kernel_rfl) (by kernel_rfl) (.head _) (fun _ _ _ h => h) (by kernel_rfl) (fun W' hW' => exec_ld rfl (ld_mt hW')) (HHK.out _ _ hww) ?_
    try simp only [Act.put]
    try simp only [List.setIfInBounds_toArray]
    try simp only [List.set_cons_succ]
    try simp only [List.set_cons_zero]
    have HL0 := hideIt hww
    generalize W1.drew = X0 at *
    clear hww
    refine wpAnyL_two (oi := ⟨some 18, _, _, _, _, _⟩) (oj := ⟨some 2, _, _, _, _, _⟩) 1 7 (by kernel_rfl) rfl rfl (fun K hK => ?_) (fun K hK => ?_)
    · go_wp2_with fail
      have HN1 := hideIt (below_new X0 (.cells #[.int .i64 5, .int .i64 6] 3))
      have HM1 := hideIt (min_blk 8 2 1 (l := [5, 6]) (Blk.new X0 3 ([5, 6].map iv)) (by decide))
      have HL1 := hideIt (la6 (o := (.cells #[.int .i64 5, .int .i64 6] 3)) HL0.out)
      obtain ⟨X1, hX⟩ : ∃ W, W = X0.alloc (.cells #[.int .i64 5, .int .i64 6] 3) := ⟨_, rfl⟩
      rw [← hX]
      change Hid (MIn (X0.alloc (.cells #[.int .i64 5, .int .i64 6] 3)) ⟨8, 2, 1, [5, 6]⟩ _ 2) at HM1
      rw [← hX] at HN1 HM1 HL1
      clear hX
      refine hK _ _ (HHK.out _ _ HL1.out) ?_
      clear hK K
      refine wpAnyL_two (oi := ⟨some 19, _, _, _, _, _⟩) (oj := ⟨some 2, _, _, _, _, _⟩) 2 7 (by kernel_rfl) rfl rfl (fun K hK => ?_) (fun K hK => ?_)
      · go_wp2_with (go_at_call 34; refine (of_any _ _ _ _ _ _ _).mono ?_; rintro e X2 ⟨rfl, hb⟩; have HM2 := hideIt (HM1.out.keep hb); have HL2 := hideIt (ls6 HL1.out hb); clear hb)
        refine hK _ _ (HHK.out _ _ HL2.out) ?_
        clear hK K
        refine wpAnyL_two (oi := ⟨some 20, _, _, _, _, _⟩) (oj := ⟨some 2, _, _, _, _, _⟩) 3 7 (by kernel_rfl) rfl rfl (fun K hK => ?_) (fun K hK => ?_)
        · go_wp2_with (go_at_call 12; refine (HMU.out _ _ _ _ _ (ls6 HLB.out HL2.out) ((HBM1.out.keep HL2.out).mat) HM2.out).mono ?_; rintro e X3 ⟨D, c, rfl, hr, hb⟩; have HO := hideIt hr; have HR3 := hideIt (min_own (a := ⟨8, 2, 1, [9, 23]⟩) rfl hr); have HL3 := hideIt (ls6 HL2.out hb); clear hb hr)
          refine hK _ _ (HHK.out _ _ HL3.out) ?_
          clear hK K
          refine wpAnyL_move (oi := ⟨some 16, _, _, _, _, _⟩) 4 ?_ rfl (by kernel_rfl) (by kernel_rfl) (by kernel_rfl) (by kernel_rfl) (fun _ _ _ h => h) (by kernel_rfl) ?_ (HHK.out _ _ HL3.out) ?_
          rotate_left
          · intro W'; go_simp; first | done | with_reducible rfl
          try simp only [Act.put]
          try simp only [List.setIfInBounds_toArray]
          try simp only [List.set_cons_succ]
          try simp only [List.set_cons_zero]
          refine wpAnyL_move (oi := ⟨some 21, _, _, _, _, _⟩) 5 ?_ rfl (by kernel_rfl) (by kernel_rfl) (by kernel_rfl) (by kernel_rfl) (fun _ _ _ h => h) (by kernel_rfl) ?_ (HHK.out _ _ HL3.out) ?_
          rotate_left
          · intro W'; go_simp; first | done | with_reducible rfl
          try simp only [Act.put]
          try simp only [List.setIfInBounds_toArray]
          try simp only [List.set_cons_succ]
          try simp only [List.set_cons_zero]
          refine wpAnyL_move (oi := ⟨some 22, _, _, _, _, _⟩) 6 ?_ rfl (by kernel_rfl) (by kernel_rfl) (by kernel_rfl) (by kernel_rfl) (fun _ _ _ h => h) (by kernel_rfl) ?_ (HHK.out _ _ HL3.out) ?_
          rotate_left
          · intro W'; go_simp; first | done | with_reducible rfl
          try simp only [Act.put]
          try simp only [List.setIfInBounds_toArray]
          try simp only [List.set_cons_succ]
          try simp only [List.set_cons_zero]
          refine wpAnyL_one (o := ⟨some 2, _, _, _, _, _⟩) 7 (by kernel_rfl) rfl (fun K hK => ?_)
          go_wp2_with fail
          have HN4 := hideIt (below_new X3 (.cells #[.int .i64 0, .int .i64 0, .int .i64 0, .slice none 0 0] 24))
          have HA4 := hideIt (Blk.new X3 24 (mtC 0 0 0 (.slice none 0 0)))
          have HL4 := hideIt (la6 (o := (.cells #[.int .i64 0, .int .i64 0, .int .i64 0, .slice none 0 0] 24)) HL3.out)
          obtain ⟨X4, hX⟩ : ∃ W, W = X3.alloc (.cells #[.int .i64 0, .int .i64 0, .int .i64 0, .slice none 0 0] 24) := ⟨_, rfl⟩
          rw [← hX]
          change Hid (Blk (X3.alloc (.cells #[.int .i64 0, .int .i64 0, .int .i64 0, .slice none 0 0] 24)) _ _ _) at HA4
          rw [← hX] at HN4 HA4 HL4
          have HR4 := hideIt (HR3.out.keep HN4.out)
          clear hX
          refine hK _ _ (HHK.out _ _ HL4.out) ?_
          clear hK K
          have HLP := hideIt HL3.out.size
          refine loads_tail 8 (by kernel_rfl) (by kernel_rfl) (by kernel_rfl) (by kernel_rfl) ?_
          simp only [List.drop_succ_cons, List.drop_zero]
          go_wp2_with ((with_reducible refine at_store ?_); refine wpList_stM rfl (.tmp 2) (.tmp 21) rfl (X3.heap.size) _ _ _ _ _ _ _ _ rfl rfl rfl HA4.out ?_; intro w9 HT9 HBX)
          go_meet
          exact ⟨_, D, c, rfl, rfl, HT9.out.below HL4.out (by have := HL0.out.size; have := HLP.out; omega), ⟨HBX.out, HR3.out.keep (HT9.out.below HN4.out (Nat.le_refl _))⟩⟩
        · go_wp2_with fail
          have HN3 := hideIt (below_new X2 (.cells #[.int .i64 0, .int .i64 0, .int .i64 0, .slice none 0 0] 24))
          have HA3 := hideIt (Blk.new X2 24 (mtC 0 0 0 (.slice none 0 0)))
          have HL3 := hideIt (la6 (o := (.cells #[.int .i64 0, .int .i64 0, .int .i64 0, .slice none 0 0] 24)) HL2.out)
          obtain ⟨X3, hX⟩ : ∃ W, W = X2.alloc (.cells #[.int .i64 0, .int .i64 0, .int .i64 0, .slice none 0 0] 24) := ⟨_, rfl⟩
          rw [← hX]
          change Hid (Blk (X2.alloc (.cells #[.int .i64 0, .int .i64 0, .int .i64 0, .slice none 0 0] 24)) _ _ _) at HA3
          rw [← hX] at HN3 HA3 HL3
          have HM3 := hideIt (HM2.out.keep HN3.out)
          clear hX
          refine hK _ _ (HHK.out _ _ HL3.out) ?_
          clear hK K
          have HLA := hideIt HL2.out.size
          refine wpAnyL_one (o := ⟨some 20, _, _, _, _, _⟩) 3 (by kernel_rfl) rfl (fun K hK => ?_)
          go_wp2_with (go_at_call 12; refine (HMU.out _ _ _ _ _ (ls6 HLB.out HL3.out) ((HBM1.out.keep HL3.out).mat) HM3.out).mono ?_; rintro e X4 ⟨D, c, rfl, hr, hb⟩; have HO := hideIt hr; have HR4 := hideIt (min_own (a := ⟨8, 2, 1, [9, 23]⟩) rfl hr); have HL4 := hideIt (ls6 HL3.out hb); have HA4 := hideIt (HA3.out.kept hb HA3.out.lt); have HLT := hideIt (show X2.heap.size < X3.heap.size from HA3.out.lt); clear hb hr)
          refine hK _ _ (HHK.out _ _ HL4.out) ?_
          clear hK K
          refine wpAnyL_move (oi := ⟨some 16, _, _, _, _, _⟩) 4 ?_ rfl (by kernel_rfl) (by kernel_rfl) (by kernel_rfl) (by kernel_rfl) (fun _ _ _ h => h) (by kernel_rfl) ?_ (HHK.out _ _ HL4.out) ?_
          rotate_left
          · intro W'; go_simp; first | done | with_reducible rfl
          try simp only [Act.put]
          try simp only [List.setIfInBounds_toArray]
          try simp only [List.set_cons_succ]
          try simp only [List.set_cons_zero]
          refine wpAnyL_move (oi := ⟨some 21, _, _, _, _, _⟩) 5 ?_ rfl (by kernel_rfl) (by kernel_rfl) (by kernel_rfl) (by kernel_rfl) (fun _ _ _ h => h) (by kernel_rfl) ?_ (HHK.out _ _ HL4.out) ?_
          rotate_left
          · intro W'; go_simp; first | done | with_reducible rfl
          try simp only [Act.put]
          try simp only [List.setIfInBounds_toArray]
          try simp only [List.set_cons_succ]
          try simp only [List.set_cons_zero]
          refine wpAnyL_move (oi := ⟨some 22, _, _, _, _, _⟩) 6 ?_ rfl (by kernel_rfl) (by kernel_rfl) (by kernel_rfl) (by kernel_rfl) (fun _ _ _ h => h) (by kernel_rfl) ?_ (HHK.out _ _ HL4.out) ?_
          rotate_left
          · intro W'; go_simp; first | done | with_reducible rfl
          try simp only [Act.put]
          try simp only [List.setIfInBounds_toArray]
          try simp only [List.set_cons_succ]
          try simp only [List.set_cons_zero]
          have HLP := hideIt HLA.out
          refine loads_tail 8 (by kernel_rfl) (by kernel_rfl) (by kernel_rfl) (by kernel_rfl) ?_
          simp only [List.drop_succ_cons, List.drop_zero]
          go_wp2_with ((with_reducible refine at_store ?_); refine wpList_stM rfl (.tmp 2) (.tmp 21) rfl (X2.heap.size) _ _ _ _ _ _ _ _ rfl rfl rfl HA4.out ?_; intro w9 HT9 HBX)
          go_meet
          exact ⟨_, D, c, rfl, rfl, HT9.out.below HL4.out (by have := HL0.out.size; have := HLP.out; omega), ⟨HBX.out, min_own (a := ⟨8, 2, 1, [9, 23]⟩) rfl (own_turn HO.out HT9.out HLT.out)⟩⟩
      · go_wp2_with fail
        have HN2 := hideIt (below_new X1 (.cells #[.int .i64 0, .int .i64 0, .int .i64 0, .slice none 0 0] 24))
        have HA2 := hideIt (Blk.new X1 24 (mtC 0 0 0 (.slice none 0 0)))
        have HL2 := hideIt (la6 (o := (.cells #[.int .i64 0, .int .i64 0, .int .i64 0, .slice none 0 0] 24)) HL1.out)
        obtain ⟨X2, hX⟩ : ∃ W, W = X1.alloc (.cells #[.int .i64 0, .int .i64 0, .int .i64 0, .slice none 0 0] 24) := ⟨_, rfl⟩
        rw [← hX]
        change Hid (Blk (X1.alloc (.cells #[.int .i64 0, .int .i64 0, .int .i64 0, .slice none 0 0] 24)) _ _ _) at HA2
        rw [← hX] at HN2 HA2 HL2
        have HM2 := hideIt (HM1.out.keep HN2.out)
        clear hX
        refine hK _ _ (HHK.out _ _ HL2.out) ?_
        clear hK K
        have HLA := hideIt HL1.out.size
        refine wpAnyL_one (o := ⟨some 19, _, _, _, _, _⟩) 2 (by kernel_rfl) rfl (fun K hK => ?_)
        go_wp2_with (go_at_call 34; refine (of_any _ _ _ _ _ _ _).mono ?_; rintro e X3 ⟨rfl, hb⟩; have HM3 := hideIt (HM2.out.keep hb); have HL3 := hideIt (ls6 HL2.out hb); have HA3 := hideIt (HA2.out.kept hb HA2.out.lt); clear hb)
        refine hK _ _ (HHK.out _ _ HL3.out) ?_
        clear hK K
        refine wpAnyL_one (o := ⟨some 20, _, _, _, _, _⟩) 3 (by kernel_rfl) rfl (fun K hK => ?_)
        go_wp2_with (go_at_call 12; refine (HMU.out _ _ _ _ _ (ls6 HLB.out HL3.out) ((HBM1.out.keep HL3.out).mat) HM3.out).mono ?_; rintro e X4 ⟨D, c, rfl, hr, hb⟩; have HO := hideIt hr; have HR4 := hideIt (min_own (a := ⟨8, 2, 1, [9, 23]⟩) rfl hr); have HL4 := hideIt (ls6 HL3.out hb); have HA4 := hideIt (HA3.out.kept hb HA3.out.lt); have HLT := hideIt (show X1.heap.size < X3.heap.size from HA3.out.lt); clear hb hr)
        refine hK _ _ (HHK.out _ _ HL4.out) ?_
        clear hK K
        refine wpAnyL_move (oi := ⟨some 16, _, _, _, _, _⟩) 4 ?_ rfl (by kernel_rfl) (by kernel_rfl) (by kernel_rfl) (by kernel_rfl) (fun _ _ _ h => h) (by kernel_rfl) ?_ (HHK.out _ _ HL4.out) ?_
        rotate_left
        · intro W'; go_simp; first | done | with_reducible rfl
        try simp only [Act.put]
        try simp only [List.setIfInBounds_toArray]
        try simp only [List.set_cons_succ]
        try simp only [List.set_cons_zero]
        refine wpAnyL_move (oi := ⟨some 21, _, _, _, _, _⟩) 5 ?_ rfl (by kernel_rfl) (by kernel_rfl) (by kernel_rfl) (by kernel_rfl) (fun _ _ _ h => h) (by kernel_rfl) ?_ (HHK.out _ _ HL4.out) ?_
        rotate_left
        · intro W'; go_simp; first | done | with_reducible rfl
        try simp only [Act.put]
        try simp only [List.setIfInBounds_toArray]
        try simp only [List.set_cons_succ]
        try simp only [List.set_cons_zero]
        refine wpAnyL_move (oi := ⟨some 22, _, _, _, _, _⟩) 6 ?_ rfl (by kernel_rfl) (by kernel_rfl) (by kernel_rfl) (by kernel_rfl) (fun _ _ _ h => h) (by kernel_rfl) ?_ (HHK.out _ _ HL4.out) ?_
        rotate_left
        · intro W'; go_simp; first | done | with_reducible rfl
        try simp only [Act.put]
        try simp only [List.setIfInBounds_toArray]
        try simp only [List.set_cons_succ]
        try simp only [List.set_cons_zero]
        have HLP := hideIt HLA.out
        refine loads_tail 8 (by kernel_rfl) (by kernel_rfl) (by kernel_rfl) (by kernel_rfl) ?_
        simp only [List.drop_succ_cons, List.drop_zero]
        go_wp2_with ((with_reducible refine at_store ?_); refine wpList_stM rfl (.tmp 2) (.tmp 21) rfl (X1.heap.size) _ _ _ _ _ _ _ _ rfl rfl rfl HA4.out ?_; intro w9 HT9 HBX)
        go_meet
        exact ⟨_, D, c, rfl, rfl, HT9.out.below HL4.out (by have := HL0.out.size; have := HLP.out; omega), ⟨HBX.out, min_own (a := ⟨8, 2, 1, [9, 23]⟩) rfl (own_turn HO.out HT9.out HLT.out)⟩⟩
    · go_wp2_with fail
      have HN1 := hideIt (below_new X0 (.cells #[.int .i64 0, .int .i64 0, .int .i64 0, .slice none 0 0] 24))
      have HA1 := hideIt (Blk.new X0 24 (mtC 0 0 0 (.slice none 0 0)))
      have HL1 := hideIt (la6 (o := (.cells #[.int .i64 0, .int .i64 0, .int .i64 0, .slice none 0 0] 24)) HL0.out)
      obtain ⟨X1, hX⟩ : ∃ W, W = X0.alloc (.cells #[.int .i64 0, .int .i64 0, .int .i64 0, .slice none 0 0] 24) := ⟨_, rfl⟩
      rw [← hX]
      change Hid (Blk (X0.alloc (.cells #[.int .i64 0, .int .i64 0, .int .i64 0, .slice none 0 0] 24)) _ _ _) at HA1
      rw [← hX] at HN1 HA1 HL1
      clear hX
      refine hK _ _ (HHK.out _ _ HL1.out) ?_
      clear hK K
      have HLA := hideIt HL0.out.size
      refine wpAnyL_one (o := ⟨some 18, _, _, _, _, _⟩) 1 (by kernel_rfl) rfl (fun K hK => ?_)
      go_wp2_with fail
      have HN2 := hideIt (below_new X1 (.cells #[.int .i64 5, .int .i64 6] 3))
      have HM2 := hideIt (min_blk 8 2 1 (l := [5, 6]) (Blk.new X1 3 ([5, 6].map iv)) (by decide))
      have HL2 := hideIt (la6 (o := (.cells #[.int .i64 5, .int .i64 6] 3)) HL1.out)
      obtain ⟨X2, hX⟩ : ∃ W, W = X1.alloc (.cells #[.int .i64 5, .int .i64 6] 3) := ⟨_, rfl⟩
      rw [← hX]
      change Hid (MIn (X1.alloc (.cells #[.int .i64 5, .int .i64 6] 3)) ⟨8, 2, 1, [5, 6]⟩ _ 2) at HM2
      rw [← hX] at HN2 HM2 HL2
      have HA2 := hideIt (HA1.out.kept HN2.out HA1.out.lt)
      clear hX
      refine hK _ _ (HHK.out _ _ HL2.out) ?_
      clear hK K
      refine wpAnyL_one (o := ⟨some 19, _, _, _, _, _⟩) 2 (by kernel_rfl) rfl (fun K hK => ?_)
      go_wp2_with (go_at_call 34; refine (of_any _ _ _ _ _ _ _).mono ?_; rintro e X3 ⟨rfl, hb⟩; have HM3 := hideIt (HM2.out.keep hb); have HL3 := hideIt (ls6 HL2.out hb); have HA3 := hideIt (HA2.out.kept hb HA2.out.lt); clear hb)
      refine hK _ _ (HHK.out _ _ HL3.out) ?_
      clear hK K
      refine wpAnyL_one (o := ⟨some 20, _, _, _, _, _⟩) 3 (by kernel_rfl) rfl (fun K hK => ?_)
      go_wp2_with (go_at_call 12; refine (HMU.out _ _ _ _ _ (ls6 HLB.out HL3.out) ((HBM1.out.keep HL3.out).mat) HM3.out).mono ?_; rintro e X4 ⟨D, c, rfl, hr, hb⟩; have HO := hideIt hr; have HR4 := hideIt (min_own (a := ⟨8, 2, 1, [9, 23]⟩) rfl hr); have HL4 := hideIt (ls6 HL3.out hb); have HA4 := hideIt (HA3.out.kept hb HA3.out.lt); have HLT := hideIt (show X0.heap.size < X3.heap.size from HA3.out.lt); clear hb hr)
      refine hK _ _ (HHK.out _ _ HL4.out) ?_
      clear hK K
      refine wpAnyL_move (oi := ⟨some 16, _, _, _, _, _⟩) 4 ?_ rfl (by kernel_rfl) (by kernel_rfl) (by kernel_rfl) (by kernel_rfl) (fun _ _ _ h => h) (by kernel_rfl) ?_ (HHK.out _ _ HL4.out) ?_
      rotate_left
      · intro W'; go_simp; first | done | with_reducible rfl
      try simp only [Act.put]
      try simp only [List.setIfInBounds_toArray]
      try simp only [List.set_cons_succ]
      try simp only [List.set_cons_zero]
      refine wpAnyL_move (oi := ⟨some 21, _, _, _, _, _⟩) 5 ?_ rfl (by kernel_rfl) (by kernel_rfl) (by kernel_rfl) (by kernel_rfl) (fun _ _ _ h => h) (by kernel_rfl) ?_ (HHK.out _ _ HL4.out) ?_
      rotate_left
      · intro W'; go_simp; first | done | with_reducible rfl
      try simp only [Act.put]
      try simp only [List.setIfInBounds_toArray]
      try simp only [List.set_cons_succ]
      try simp only [List.set_cons_zero]
      refine wpAnyL_move (oi := ⟨some 22, _, _, _, _, _⟩) 6 ?_ rfl (by kernel_rfl) (by kernel_rfl) (by kernel_rfl) (by kernel_rfl) (fun _ _ _ h => h) (by kernel_rfl) ?_ (HHK.out _ _ HL4.out) ?_
      rotate_left
      · intro W'; go_simp; first | done | with_reducible rfl
      try simp only [Act.put]
      try simp only [List.setIfInBounds_toArray]
      try simp only [List.set_cons_succ]
      try simp only [List.set_cons_zero]
      have HLP := hideIt HLA.out
      refine loads_tail 8 (by kernel_rfl) (by kernel_rfl) (by kernel_rfl) (by kernel_rfl) ?_
      simp only [List.drop_succ_cons, List.drop_zero]
      go_wp2_with ((with_reducible refine at_store ?_); refine wpList_stM rfl (.tmp 2) (.tmp 21) rfl (X0.heap.size) _ _ _ _ _ _ _ _ rfl rfl rfl HA4.out ?_; intro w9 HT9 HBX)
      go_meet
      exact ⟨_, D, c, rfl, rfl, HT9.out.below HL4.out (by have := HL0.out.size; have := HLP.out; omega), ⟨HBX.out, min_own (a := ⟨8, 2, 1, [9, 23]⟩) rfl (own_turn HO.out HT9.out HLT.out)⟩⟩
  obtain ⟨p2, D2, c2, rfl, rfl, HJ⟩ := hcut
  have HQ1 := hideIt (HBM1.out.keep HJ.out.1)
  have HQ2 := hideIt HJ.out.2
  have HLC := hideIt (ls6 HLB.out HJ.out.1)
  clear HJ HBM1 HLB HHK HMU
  go_wp2_with fail
  refine (of_any _ _ _ _ _ _ _).mono ?_
  rintro e w3 ⟨rfl, hb⟩
  have HS := hideIt (ls6 (la6 (o := (.cells #[.int .i64 1, .int .i64 1, .int .i64 1, .int .i64 1] 3)) (Below.refl _ wc)) hb)
  have HLw3 := hideIt (ls6 HLC.out HS.out)
  have HQ1w3 := hideIt (HQ1.out.keep HS.out)
  have HQ2w3 := hideIt (HQ2.out.keep HS.out)
  have HMw3 := hideIt ((min_blk 8 2 2 (l := [1, 1, 1, 1]) (Blk.new wc 3 ([1, 1, 1, 1].map iv)) (by decide)).keep hb)
  clear HS hb HQ1 HQ2 HLC

  go_wp2_with fail
  refine (HI0.out _ _ w3 HLw3.out HMw3.out).mono ?_
  rintro e w4 ⟨D4, c4, rfl, hin4, hb⟩
  clear HMw3 hin4 HI0
  have HS := hideIt (ls6 (Below.refl _ w3) hb)
  have HLw4 := hideIt (ls6 HLw3.out HS.out)
  have HQ1w4 := hideIt (HQ1w3.out.keep HS.out)
  have HQ2w4 := hideIt (HQ2w3.out.keep HS.out)
  clear HS hb HQ1w3 HQ2w3 HLw3

  go_upto_region 4 with fail
  have HS := hideIt (below_new w4 (.cells #[.int .i64 0, .int .i64 0, .int .i64 0, .slice D4 0 c4] 24))
  obtain ⟨v4, hV⟩ : ∃ V, V = w4.alloc (.cells #[.int .i64 0, .int .i64 0, .int .i64 0, .slice D4 0 c4] 24) := ⟨_, rfl⟩
  rw [← hV] at HS ⊢
  generalize w4.heap.size = pzv4 at ⊢
  have HLv4 := hideIt (ls6 HLw4.out HS.out)
  have HQ1v4 := hideIt (HQ1w4.out.keep HS.out)
  have HQ2v4 := hideIt (HQ2w4.out.keep HS.out)
  clear HS hV HQ1w4 HQ2w4 HLw4

  go_wp2_with fail
  refine (of_any _ _ _ _ _ _ _).mono ?_
  rintro e w5 ⟨rfl, hb⟩
  have HS := hideIt (ls6 (la6 (o := (.cells #[.int .i64 1, .int .i64 1, .int .i64 0, .int .i64 1] 3)) (Below.refl _ v4)) hb)
  have HLw5 := hideIt (ls6 HLv4.out HS.out)
  have HQ1w5 := hideIt (HQ1v4.out.keep HS.out)
  have HQ2w5 := hideIt (HQ2v4.out.keep HS.out)
  have HMw5 := hideIt ((min_blk 8 2 2 (l := [1, 1, 0, 1]) (Blk.new v4 3 ([1, 1, 0, 1].map iv)) (by decide)).keep hb)
  clear HS hb HQ1v4 HQ2v4 HLv4

  go_upto_region 5 with fail
  have HS := hideIt (below_new w5 (.cells #[.int .i64 8, .int .i64 2, .int .i64 2, .slice (some ⟨v4.heap.size, 0, none⟩) 4 4] 24))
  have HB := hideIt (show BM (w5.alloc (.cells #[.int .i64 8, .int .i64 2, .int .i64 2, .slice (some ⟨v4.heap.size, 0, none⟩) 4 4] 24)) w5.heap.size ⟨8, 2, 2, [1, 1, 0, 1]⟩ (some ⟨v4.heap.size, 0, none⟩) 4 from ⟨Blk.new w5 _ _, (HMw5.out).keep (below_new _ _)⟩)
  obtain ⟨v5, hV⟩ : ∃ V, V = w5.alloc (.cells #[.int .i64 8, .int .i64 2, .int .i64 2, .slice (some ⟨v4.heap.size, 0, none⟩) 4 4] 24) := ⟨_, rfl⟩
  rw [← hV] at HS HB ⊢
  obtain ⟨p6, hp⟩ : ∃ p, p = w5.heap.size := ⟨_, rfl⟩
  rw [← hp] at HB ⊢
  have HQ6v5 := HB
  have HLv5 := hideIt (ls6 HLw5.out HS.out)
  have HQ1v5 := hideIt (HQ1w5.out.keep HS.out)
  have HQ2v5 := hideIt (HQ2w5.out.keep HS.out)
  clear HS hV hp HB HQ1w5 HQ2w5 HLw5

  clear HMw5
  go_wp2_with ((with_reducible refine at_load ?_); refine wpList_ldM rfl (.tmp 6) rfl p6 _ _ _ _ rfl HQ6v5.out.box ?_)
  refine (HI1.out _ _ v5 HLv5.out HQ6v5.out.mat).mono ?_
  rintro e w6 ⟨D6, c6, rfl, hin6, hb⟩
  have HM6 := hideIt hin6
  clear hin6 HI1
  have HS := hideIt (ls6 (Below.refl _ v5) hb)
  have HLw6 := hideIt (ls6 HLv5.out HS.out)
  have HQ1w6 := hideIt (HQ1v5.out.keep HS.out)
  have HQ2w6 := hideIt (HQ2v5.out.keep HS.out)
  have HQ6w6 := hideIt (HQ6v5.out.keep HS.out)
  clear HS hb HQ1v5 HQ2v5 HQ6v5 HLv5

  go_upto_region 6 with fail
  have HS := hideIt (below_new w6 (.cells #[.int .i64 8, .int .i64 2, .int .i64 2, .slice D6 4 c6] 24))
  have HB := hideIt (show BM (w6.alloc (.cells #[.int .i64 8, .int .i64 2, .int .i64 2, .slice D6 4 c6] 24)) w6.heap.size ⟨8, 2, 2, [1, 1, 0, 1]⟩ D6 c6 from ⟨Blk.new w6 _ _, (HM6.out).keep (below_new _ _)⟩)
  obtain ⟨v6, hV⟩ : ∃ V, V = w6.alloc (.cells #[.int .i64 8, .int .i64 2, .int .i64 2, .slice D6 4 c6] 24) := ⟨_, rfl⟩
  rw [← hV] at HS HB ⊢
  obtain ⟨p7, hp⟩ : ∃ p, p = w6.heap.size := ⟨_, rfl⟩
  rw [← hp] at HB ⊢
  have HQ7v6 := HB
  have HLv6 := hideIt (ls6 HLw6.out HS.out)
  have HQ1v6 := hideIt (HQ1w6.out.keep HS.out)
  have HQ2v6 := hideIt (HQ2w6.out.keep HS.out)
  have HQ6v6 := hideIt (HQ6w6.out.keep HS.out)
  clear HS hV hp HB HQ1w6 HQ2w6 HQ6w6 HLw6

  clear HM6
  go_wp2_with fail
  refine (of_any _ _ _ _ _ _ _).mono ?_
  rintro e w7 ⟨rfl, hb⟩
  have HS := hideIt (ls6 (la6 (o := (.cells #[.int .i64 1, .int .i64 1] 3)) (Below.refl _ v6)) hb)
  have HLw7 := hideIt (ls6 HLv6.out HS.out)
  have HQ1w7 := hideIt (HQ1v6.out.keep HS.out)
  have HQ2w7 := hideIt (HQ2v6.out.keep HS.out)
  have HQ6w7 := hideIt (HQ6v6.out.keep HS.out)
  have HQ7w7 := hideIt (HQ7v6.out.keep HS.out)
  have HMw7 := hideIt ((min_blk 8 1 2 (l := [1, 1]) (Blk.new v6 3 ([1, 1].map iv)) (by decide)).keep hb)
  clear HS hb HQ1v6 HQ2v6 HQ6v6 HQ7v6 HLv6

  go_wp2_with fail
  refine (of_any _ _ _ _ _ _ _).mono ?_
  rintro e w8 ⟨rfl, hb⟩
  have HS := hideIt (ls6 (la6 (o := (.cells #[.int .i64 7] 3)) (Below.refl _ w7)) hb)
  have HLw8 := hideIt (ls6 HLw7.out HS.out)
  have HQ1w8 := hideIt (HQ1w7.out.keep HS.out)
  have HQ2w8 := hideIt (HQ2w7.out.keep HS.out)
  have HQ6w8 := hideIt (HQ6w7.out.keep HS.out)
  have HQ7w8 := hideIt (HQ7w7.out.keep HS.out)
  have HMw8 := hideIt ((min_blk 8 1 1 (l := [7]) (Blk.new w7 3 ([7].map iv)) (by decide)).keep hb)
  have HMw7 := hideIt (HMw7.out.keep HS.out)
  clear HS hb HQ1w7 HQ2w7 HQ6w7 HQ7w7 HLw7

  go_wp2_with fail
  refine (HS0.out _ _ _ _ w8 HLw8.out HMw7.out HMw8.out).mono ?_
  rintro e w9 ⟨D9, c9, rfl, hin9, hb⟩
  have HM9 := hideIt hin9
  clear hin9 HS0 HMw7 HMw8
  have HS := hideIt (ls6 (Below.refl _ w8) hb)
  have HLw9 := hideIt (ls6 HLw8.out HS.out)
  have HQ1w9 := hideIt (HQ1w8.out.keep HS.out)
  have HQ2w9 := hideIt (HQ2w8.out.keep HS.out)
  have HQ6w9 := hideIt (HQ6w8.out.keep HS.out)
  have HQ7w9 := hideIt (HQ7w8.out.keep HS.out)
  clear HS hb HQ1w8 HQ2w8 HQ6w8 HQ7w8 HLw8

  go_upto_region 7 with fail
  have HS := hideIt (below_new w9 (.cells #[.int .i64 8, .int .i64 2, .int .i64 1, .slice D9 2 c9] 24))
  have HB := hideIt (show BM (w9.alloc (.cells #[.int .i64 8, .int .i64 2, .int .i64 1, .slice D9 2 c9] 24)) w9.heap.size ⟨8, 2, 1, [7, 0]⟩ D9 c9 from ⟨Blk.new w9 _ _, (HM9.out).keep (below_new _ _)⟩)
  obtain ⟨v9, hV⟩ : ∃ V, V = w9.alloc (.cells #[.int .i64 8, .int .i64 2, .int .i64 1, .slice D9 2 c9] 24) := ⟨_, rfl⟩
  rw [← hV] at HS HB ⊢
  obtain ⟨p9, hp⟩ : ∃ p, p = w9.heap.size := ⟨_, rfl⟩
  rw [← hp] at HB ⊢
  have HQ9v9 := HB
  have HLv9 := hideIt (ls6 HLw9.out HS.out)
  have HQ1v9 := hideIt (HQ1w9.out.keep HS.out)
  have HQ2v9 := hideIt (HQ2w9.out.keep HS.out)
  have HQ6v9 := hideIt (HQ6w9.out.keep HS.out)
  have HQ7v9 := hideIt (HQ7w9.out.keep HS.out)
  clear HS hV hp HB HQ1w9 HQ2w9 HQ6w9 HQ7w9 HLw9

  clear HM9
  go_wp2_with fail
  refine (of_any _ _ _ _ _ _ _).mono ?_
  rintro e w10 ⟨rfl, hb⟩
  have HS := hideIt (ls6 (la6 (o := (.cells #[.int .i64 1, .int .i64 1] 3)) (Below.refl _ v9)) hb)
  have HLw10 := hideIt (ls6 HLv9.out HS.out)
  have HQ1w10 := hideIt (HQ1v9.out.keep HS.out)
  have HQ2w10 := hideIt (HQ2v9.out.keep HS.out)
  have HQ6w10 := hideIt (HQ6v9.out.keep HS.out)
  have HQ7w10 := hideIt (HQ7v9.out.keep HS.out)
  have HQ9w10 := hideIt (HQ9v9.out.keep HS.out)
  have HMw10 := hideIt ((min_blk 8 2 1 (l := [1, 1]) (Blk.new v9 3 ([1, 1].map iv)) (by decide)).keep hb)
  clear HS hb HQ1v9 HQ2v9 HQ6v9 HQ7v9 HQ9v9 HLv9

  go_wp2_with fail
  refine (of_any _ _ _ _ _ _ _).mono ?_
  rintro e w11 ⟨rfl, hb⟩
  have HS := hideIt (ls6 (la6 (o := (.cells #[.int .i64 1, .int .i64 2] 3)) (Below.refl _ w10)) hb)
  have HLw11 := hideIt (ls6 HLw10.out HS.out)
  have HQ1w11 := hideIt (HQ1w10.out.keep HS.out)
  have HQ2w11 := hideIt (HQ2w10.out.keep HS.out)
  have HQ6w11 := hideIt (HQ6w10.out.keep HS.out)
  have HQ7w11 := hideIt (HQ7w10.out.keep HS.out)
  have HQ9w11 := hideIt (HQ9w10.out.keep HS.out)
  have HMw11 := hideIt ((min_blk 8 2 1 (l := [1, 2]) (Blk.new w10 3 ([1, 2].map iv)) (by decide)).keep hb)
  have HMw10 := hideIt (HMw10.out.keep HS.out)
  clear HS hb HQ1w10 HQ2w10 HQ6w10 HQ7w10 HQ9w10 HLw10

  go_wp2_with fail
  refine (HS1.out _ _ _ _ w11 HLw11.out HMw10.out HMw11.out).mono ?_
  rintro e w12 ⟨D12, c12, rfl, hin12, hb⟩
  clear hin12 HS1 HMw10 HMw11
  have HS := hideIt (ls6 (Below.refl _ w11) hb)
  have HLw12 := hideIt (ls6 HLw11.out HS.out)
  have HQ1w12 := hideIt (HQ1w11.out.keep HS.out)
  have HQ2w12 := hideIt (HQ2w11.out.keep HS.out)
  have HQ6w12 := hideIt (HQ6w11.out.keep HS.out)
  have HQ7w12 := hideIt (HQ7w11.out.keep HS.out)
  have HQ9w12 := hideIt (HQ9w11.out.keep HS.out)
  clear HS hb HQ1w11 HQ2w11 HQ6w11 HQ7w11 HQ9w11 HLw11

  go_upto_region 8 with fail
  have HS := hideIt (below_new w12 (.cells #[.int .i64 0, .int .i64 0, .int .i64 0, .slice D12 0 c12] 24))
  obtain ⟨v12, hV⟩ : ∃ V, V = w12.alloc (.cells #[.int .i64 0, .int .i64 0, .int .i64 0, .slice D12 0 c12] 24) := ⟨_, rfl⟩
  rw [← hV] at HS ⊢
  generalize w12.heap.size = pzv12 at ⊢
  have HLv12 := hideIt (ls6 HLw12.out HS.out)
  have HQ1v12 := hideIt (HQ1w12.out.keep HS.out)
  have HQ2v12 := hideIt (HQ2w12.out.keep HS.out)
  have HQ6v12 := hideIt (HQ6w12.out.keep HS.out)
  have HQ7v12 := hideIt (HQ7w12.out.keep HS.out)
  have HQ9v12 := hideIt (HQ9w12.out.keep HS.out)
  clear HS hV HQ1w12 HQ2w12 HQ6w12 HQ7w12 HQ9w12 HLw12

  go_wp2_with fail
  refine (of_any _ _ _ _ _ _ _).mono ?_
  rintro e w13 ⟨rfl, hb⟩
  have HS := hideIt (ls6 (la6 (o := (.cells #[.int .i64 1, .int .i64 2, .int .i64 2, .int .i64 4] 3)) (Below.refl _ v12)) hb)
  have HLw13 := hideIt (ls6 HLv12.out HS.out)
  have HQ1w13 := hideIt (HQ1v12.out.keep HS.out)
  have HQ2w13 := hideIt (HQ2v12.out.keep HS.out)
  have HQ6w13 := hideIt (HQ6v12.out.keep HS.out)
  have HQ7w13 := hideIt (HQ7v12.out.keep HS.out)
  have HQ9w13 := hideIt (HQ9v12.out.keep HS.out)
  have HMw13 := hideIt ((min_blk 8 2 2 (l := [1, 2, 2, 4]) (Blk.new v12 3 ([1, 2, 2, 4].map iv)) (by decide)).keep hb)
  clear HS hb HQ1v12 HQ2v12 HQ6v12 HQ7v12 HQ9v12 HLv12

  go_wp2_with fail
  refine (HRK.out _ _ w13 HLw13.out HMw13.out).mono ?_
  rintro e w14 ⟨rfl, hb⟩
  clear HMw13 HRK
  have HS := hideIt (ls6 (Below.refl _ w13) hb)
  have HLw14 := hideIt (ls6 HLw13.out HS.out)
  have HQ1w14 := hideIt (HQ1w13.out.keep HS.out)
  have HQ2w14 := hideIt (HQ2w13.out.keep HS.out)
  have HQ6w14 := hideIt (HQ6w13.out.keep HS.out)
  have HQ7w14 := hideIt (HQ7w13.out.keep HS.out)
  have HQ9w14 := hideIt (HQ9w13.out.keep HS.out)
  clear HS hb HQ1w13 HQ2w13 HQ6w13 HQ7w13 HQ9w13 HLw13

  go_wp2_with fail
  refine (of_any _ _ _ _ _ _ _).mono ?_
  rintro e w15 ⟨rfl, hb⟩
  have HS := hideIt (ls6 (la6 (o := (.cells #[.int .i64 0, .int .i64 0, .int .i64 1, .int .i64 1, .int .i64 2, .int .i64 2, .int .i64 0, .int .i64 3] 3)) (Below.refl _ w14)) hb)
  have HLw15 := hideIt (ls6 HLw14.out HS.out)
  have HQ1w15 := hideIt (HQ1w14.out.keep HS.out)
  have HQ2w15 := hideIt (HQ2w14.out.keep HS.out)
  have HQ6w15 := hideIt (HQ6w14.out.keep HS.out)
  have HQ7w15 := hideIt (HQ7w14.out.keep HS.out)
  have HQ9w15 := hideIt (HQ9w14.out.keep HS.out)
  have HMw15 := hideIt ((min_blk 8 4 2 (l := [0, 0, 1, 1, 2, 2, 0, 3]) (Blk.new w14 3 ([0, 0, 1, 1, 2, 2, 0, 3].map iv)) (by decide)).keep hb)
  clear HS hb HQ1w14 HQ2w14 HQ6w14 HQ7w14 HQ9w14 HLw14

  go_wp2_with fail
  refine (HIN.out _ _ w15 HLw15.out HMw15.out).mono ?_
  rintro e w16 ⟨D16, c16, rfl, hin16, hb⟩
  have HM16 := hideIt hin16
  clear HMw15 hin16 HIN
  have HS := hideIt (ls6 (Below.refl _ w15) hb)
  have HLw16 := hideIt (ls6 HLw15.out HS.out)
  have HQ1w16 := hideIt (HQ1w15.out.keep HS.out)
  have HQ2w16 := hideIt (HQ2w15.out.keep HS.out)
  have HQ6w16 := hideIt (HQ6w15.out.keep HS.out)
  have HQ7w16 := hideIt (HQ7w15.out.keep HS.out)
  have HQ9w16 := hideIt (HQ9w15.out.keep HS.out)
  clear HS hb HQ1w15 HQ2w15 HQ6w15 HQ7w15 HQ9w15 HLw15

  go_wp2_with fail
  have HNX := hideIt (below_new w16 (.cells #[.int .i64 1, .int .i64 3] 3))
  have HIT := hideIt (ints_any [1, 3] [1, 3] D16 (some ⟨w16.heap.size, 0, none⟩) c16 2 (w16.alloc (.cells #[.int .i64 1, .int .i64 3] 3)) ((HM16.out.below HNX.out).wide HNX.out.size) (min_blk 0 0 0 (l := [1, 3]) (Blk.new w16 3 ([1, 3].map iv)) (by decide)).sl (by decide))
  rw [show decide (([1, 3] : List Int) = [1, 3]) = true from rfl] at HIT
  refine HIT.out.mono ?_
  rintro e w17 ⟨rfl, hb⟩
  clear HIT HNX HM16
  have HS := hideIt (ls6 (la6 (o := (.cells #[.int .i64 1, .int .i64 3] 3)) (Below.refl _ w16)) hb)
  have HLw17 := hideIt (ls6 HLw16.out HS.out)
  have HQ1w17 := hideIt (HQ1w16.out.keep HS.out)
  have HQ2w17 := hideIt (HQ2w16.out.keep HS.out)
  have HQ6w17 := hideIt (HQ6w16.out.keep HS.out)
  have HQ7w17 := hideIt (HQ7w16.out.keep HS.out)
  have HQ9w17 := hideIt (HQ9w16.out.keep HS.out)
  clear HS hb HQ1w16 HQ2w16 HQ6w16 HQ7w16 HQ9w16 HLw16

  go_upto_region 9 with fail
  have HHK : Hid (∀ W' bt, Below w17.heap.size w17 W' → Hooks [(6, fun W => Blk W p2 24 (mtC 8 2 1 (.slice D2 2 c2))), (19, fun W => Blk W p7 24 (mtC 8 2 2 (.slice D6 4 c6))), (19, fun W => Blk W p6 24 (mtC 8 2 2 (.slice (some ⟨v4.heap.size, 0, none⟩) 4 4))), (29, fun W => Blk W p9 24 (mtC 8 2 1 (.slice D9 2 c9))), (40, fun W => Blk W p1 24 (mtC 8 2 2 (.slice A1 4 4))), (49, fun W => Blk W p1 24 (mtC 8 2 2 (.slice A1 4 4)))] bt W') := hideIt (fun W' bt hb' => Hooks.add (HQ2w17.out.box.kept hb' HQ2w17.out.box.lt) (Hooks.add (HQ7w17.out.box.kept hb' HQ7w17.out.box.lt) (Hooks.add (HQ6w17.out.box.kept hb' HQ6w17.out.box.lt) (Hooks.add (HQ9w17.out.box.kept hb' HQ9w17.out.box.lt) (Hooks.add (HQ1w17.out.box.kept hb' HQ1w17.out.box.lt) (Hooks.add (HQ1w17.out.box.kept hb' HQ1w17.out.box.lt) (Hooks.nil _ _)))))))
  have hww : Below w17.heap.size w17 w17.drew := (Below.refl _ _).drew
  refine loads_begin_n 53 [(6, fun W => Blk W p2 24 (mtC 8 2 1 (.slice D2 2 c2))), (19, fun W => Blk W p7 24 (mtC 8 2 2 (.slice D6 4 c6))), (19, fun W => Blk W p6 24 (mtC 8 2 2 (.slice (some ⟨v4.heap.size, 0, none⟩) 4 4))), (29, fun W => Blk W p9 24 (mtC 8 2 1 (.slice D9 2 c9))), (40, fun W => Blk W p1 24 (mtC 8 2 2 (.slice A1 4 4))), (49, fun W => Blk W p1 24 (mtC 8 2 2 (.slice A1 4 4)))] rfl (by kernel_rfl) ?_
  have HL0 := hideIt hww
  generalize w17.drew = X0 at *
  clear hww
  refine wpAnyL_move (oi := ⟨some 63, _, _, _, _, _⟩) 0 ?_ rfl (by kernel_rfl) (by kernel_rfl) (by kernel_rfl) (by kernel_rfl) (fun _ _ _ h => h) (by kernel_rfl) ?_ (HHK.out _ _ HL0.out) ?_
  rotate_left
  · intro W'; go_simp; first | done | with_reducible rfl
  try simp only [Act.put]
  try simp only [List.setIfInBounds_toArray]
  try simp only [List.set_cons_succ]
  try simp only [List.set_cons_zero]
  refine wpAnyL_move (oi := ⟨some 64, _, _, _, _, _⟩) 1 ?_ rfl (by kernel_rfl) (by kernel_rfl) (by kernel_rfl) (by kernel_rfl) (fun _ _ _ h => h) (by kernel_rfl) ?_ (HHK.out _ _ HL0.out) ?_
  rotate_left
  · intro W'; go_simp; first | done | with_reducible rfl
  try simp only [Act.put]
  try simp only [List.setIfInBounds_toArray]
  try simp only [List.set_cons_succ]
  try simp only [List.set_cons_zero]
  refine wpAnyL_move (oi := ⟨some 65, _, _, _, _, _⟩) 2 ?_ rfl (by kernel_rfl) (by kernel_rfl) (by kernel_rfl) (by kernel_rfl) (fun _ _ _ h => h) (by kernel_rfl) ?_ (HHK.out _ _ HL0.out) ?_
  rotate_left
  · intro W'; go_simp; first | done | with_reducible rfl
  try simp only [Act.put]
  try simp only [List.setIfInBounds_toArray]
  try simp only [List.set_cons_succ]
  try simp only [List.set_cons_zero]
  refine wpAnyL_take (oi := ⟨some 66, _, _, _, _, _⟩) 3 6 (mtV 8 2 1 (.slice D2 2 c2)) _ rfl (by kernel_rfl) (by kernel_rfl) (by kernel_rfl) (by kernel_rfl) (by kernel_rfl) (by kernel_rfl) (.head _) (fun _ _ _ h => h) (by kernel_rfl) (fun W' hW' => exec_ld rfl (ld_mt hW')) (HHK.out _ _ HL0.out) ?_
  try simp only [Act.put]
  try simp only [List.setIfInBounds_toArray]
  try simp only [List.set_cons_succ]
  try simp only [List.set_cons_zero]
  refine wpAnyL_one (o := ⟨some 67, _, _, _, _, _⟩) 4 (by kernel_rfl) rfl (fun K hK => ?_)
  go_wp2_with fail
  have HN := hideIt (below_new X0 (.cells #[.int .i64 9, .int .i64 23] 3))
  have HM := hideIt (min_blk 8 2 1 (l := [9, 23]) (Blk.new X0 3 ([9, 23].map iv)) (by decide))
  have HL1 := hideIt (la6 (o := (.cells #[.int .i64 9, .int .i64 23] 3)) HL0.out)
  obtain ⟨X1, hX⟩ : ∃ W, W = X0.alloc (.cells #[.int .i64 9, .int .i64 23] 3) := ⟨_, rfl⟩
  rw [← hX]
  change Hid (MIn (X0.alloc (.cells #[.int .i64 9, .int .i64 23] 3)) ⟨8, 2, 1, [9, 23]⟩ _ 2) at HM
  rw [← hX] at HN HM HL1
  clear hX HN
  refine hK _ _ (HHK.out _ _ HL1.out) ?_
  clear hK K
  refine wpAnyL_one (o := ⟨some 68, _, _, _, _, _⟩) 5 (by kernel_rfl) rfl (fun K hK => ?_)
  go_wp2_with (go_at_call 34; refine (of_any _ _ _ _ _ _ _).mono ?_; rintro e X2 ⟨rfl, hb⟩; have HM := hideIt (HM.out.keep hb); have HL2 := hideIt (ls6 HL1.out hb); clear hb)
  refine hK _ _ (HHK.out _ _ HL2.out) ?_
  clear hK K
  refine wpAnyL_one (o := ⟨some 69, _, _, _, _, _⟩) 6 (by kernel_rfl) rfl (fun K hK => ?_)
  go_wp2_with (go_at_call 20; refine (HSM.out ⟨8, 2, 1, [9, 23]⟩ 2 rfl (by decide) _ _ _ _ _ (HQ2w17.out.keep HL2.out).mat HM.out).mono ?_; rintro e X3 ⟨rfl, hb⟩; have HL3 := hideIt (ls6 HL2.out hb); clear hb)
  refine hK _ _ (HHK.out _ _ HL3.out) ?_
  clear hK K
  clear HM
  refine wpAnyL_move (oi := ⟨some 70, _, _, _, _, _⟩) 7 ?_ rfl (by kernel_rfl) (by kernel_rfl) (by kernel_rfl) (by kernel_rfl) (fun _ _ _ h => h) (by kernel_rfl) ?_ (HHK.out _ _ HL3.out) ?_
  rotate_left
  · intro W'; go_simp; first | done | with_reducible rfl
  try simp only [Act.put]
  try simp only [List.setIfInBounds_toArray]
  try simp only [List.set_cons_succ]
  try simp only [List.set_cons_zero]
  refine wpAnyL_move (oi := ⟨some 71, _, _, _, _, _⟩) 8 ?_ rfl (by kernel_rfl) (by kernel_rfl) (by kernel_rfl) (by kernel_rfl) (fun _ _ _ h => h) (by kernel_rfl) ?_ (HHK.out _ _ HL3.out) ?_
  rotate_left
  · intro W'; go_simp; first | done | with_reducible rfl
  try simp only [Act.put]
  try simp only [List.setIfInBounds_toArray]
  try simp only [List.set_cons_succ]
  try simp only [List.set_cons_zero]
  refine wpAnyL_move (oi := ⟨some 72, _, _, _, _, _⟩) 9 ?_ rfl (by kernel_rfl) (by kernel_rfl) (by kernel_rfl) (by kernel_rfl) (fun _ _ _ h => h) (by kernel_rfl) ?_ (HHK.out _ _ HL3.out) ?_
  rotate_left
  · intro W'; go_simp; first | done | with_reducible rfl
  try simp only [Act.put]
  try simp only [List.setIfInBounds_toArray]
  try simp only [List.set_cons_succ]
  try simp only [List.set_cons_zero]
  refine wpAnyL_move (oi := ⟨some 73, _, _, _, _, _⟩) 10 ?_ rfl (by kernel_rfl) (by kernel_rfl) (by kernel_rfl) (by kernel_rfl) (fun _ _ _ h => h) (by kernel_rfl) ?_ (HHK.out _ _ HL3.out) ?_
  rotate_left
  · intro W'; go_simp; first | done | with_reducible rfl
  try simp only [Act.put]
  try simp only [List.setIfInBounds_toArray]
  try simp only [List.set_cons_succ]
  try simp only [List.set_cons_zero]
  refine wpAnyL_move (oi := ⟨some 74, _, _, _, _, _⟩) 11 ?_ rfl (by kernel_rfl) (by kernel_rfl) (by kernel_rfl) (by kernel_rfl) (fun _ _ _ h => h) (by kernel_rfl) ?_ (HHK.out _ _ HL3.out) ?_
  rotate_left
  · intro W'; go_simp; first | done | with_reducible rfl
  try simp only [Act.put]
  try simp only [List.setIfInBounds_toArray]
  try simp only [List.set_cons_succ]
  try simp only [List.set_cons_zero]
  refine wpAnyL_move (oi := ⟨some 75, _, _, _, _, _⟩) 12 ?_ rfl (by kernel_rfl) (by kernel_rfl) (by kernel_rfl) (by kernel_rfl) (fun _ _ _ h => h) (by kernel_rfl) ?_ (HHK.out _ _ HL3.out) ?_
  rotate_left
  · intro W'; go_simp; first | done | with_reducible rfl
  try simp only [Act.put]
  try simp only [List.setIfInBounds_toArray]
  try simp only [List.set_cons_succ]
  try simp only [List.set_cons_zero]
  refine wpAnyL_move (oi := ⟨some 76, _, _, _, _, _⟩) 13 ?_ rfl (by kernel_rfl) (by kernel_rfl) (by kernel_rfl) (by kernel_rfl) (fun _ _ _ h => h) (by kernel_rfl) ?_ (HHK.out _ _ HL3.out) ?_
  rotate_left
  · intro W'; go_simp; first | done | with_reducible rfl
  try simp only [Act.put]
  try simp only [List.setIfInBounds_toArray]
  try simp only [List.set_cons_succ]
  try simp only [List.set_cons_zero]
  refine wpAnyL_move (oi := ⟨some 77, _, _, _, _, _⟩) 14 ?_ rfl (by kernel_rfl) (by kernel_rfl) (by kernel_rfl) (by kernel_rfl) (fun _ _ _ h => h) (by kernel_rfl) ?_ (HHK.out _ _ HL3.out) ?_
  rotate_left
  · intro W'; go_simp; first | done | with_reducible rfl
  try simp only [Act.put]
  try simp only [List.setIfInBounds_toArray]
  try simp only [List.set_cons_succ]
  try simp only [List.set_cons_zero]
  refine wpAnyL_move (oi := ⟨some 78, _, _, _, _, _⟩) 15 ?_ rfl (by kernel_rfl) (by kernel_rfl) (by kernel_rfl) (by kernel_rfl) (fun _ _ _ h => h) (by kernel_rfl) ?_ (HHK.out _ _ HL3.out) ?_
  rotate_left
  · intro W'; go_simp; first | done | with_reducible rfl
  try simp only [Act.put]
  try simp only [List.setIfInBounds_toArray]
  try simp only [List.set_cons_succ]
  try simp only [List.set_cons_zero]
  refine wpAnyL_move (oi := ⟨some 79, _, _, _, _, _⟩) 16 ?_ rfl (by kernel_rfl) (by kernel_rfl) (by kernel_rfl) (by kernel_rfl) (fun _ _ _ h => h) (by kernel_rfl) ?_ (HHK.out _ _ HL3.out) ?_
  rotate_left
  · intro W'; go_simp; first | done | with_reducible rfl
  try simp only [Act.put]
  try simp only [List.setIfInBounds_toArray]
  try simp only [List.set_cons_succ]
  try simp only [List.set_cons_zero]
  refine wpAnyL_take (oi := ⟨some 80, _, _, _, _, _⟩) 17 19 (mtV 8 2 2 (.slice D6 4 c6)) _ rfl (by kernel_rfl) (by kernel_rfl) (by kernel_rfl) (by kernel_rfl) (by kernel_rfl) (by kernel_rfl) (.tail _ (.head _)) (fun _ _ _ h => h) (by kernel_rfl) (fun W' hW' => exec_ld rfl (ld_mt hW')) (HHK.out _ _ HL3.out) ?_
  try simp only [Act.put]
  try simp only [List.setIfInBounds_toArray]
  try simp only [List.set_cons_succ]
  try simp only [List.set_cons_zero]
  refine wpAnyL_take (oi := ⟨some 81, _, _, _, _, _⟩) 18 19 (mtV 8 2 2 (.slice (some ⟨v4.heap.size, 0, none⟩) 4 4)) _ rfl (by kernel_rfl) (by kernel_rfl) (by kernel_rfl) (by kernel_rfl) (by kernel_rfl) (by kernel_rfl) (.tail _ (.tail _ (.head _))) (fun _ _ _ h => h) (by kernel_rfl) (fun W' hW' => exec_ld rfl (ld_mt hW')) (HHK.out _ _ HL3.out) ?_
  try simp only [Act.put]
  try simp only [List.setIfInBounds_toArray]
  try simp only [List.set_cons_succ]
  try simp only [List.set_cons_zero]
  refine wpAnyL_one (o := ⟨some 82, _, _, _, _, _⟩) 19 (by kernel_rfl) rfl (fun K hK => ?_)
  go_wp2_with (go_at_call 20; refine (HSM.out ⟨8, 2, 2, [1, 1, 0, 1]⟩ 4 rfl (by decide) _ _ _ _ _ (HQ7w17.out.keep HL3.out).mat (HQ6w17.out.keep HL3.out).mat).mono ?_; rintro e X4 ⟨rfl, hb⟩; have HL4 := hideIt (ls6 HL3.out hb); clear hb)
  refine hK _ _ (HHK.out _ _ HL4.out) ?_
  clear hK K
  refine wpAnyL_move (oi := ⟨some 83, _, _, _, _, _⟩) 20 ?_ rfl (by kernel_rfl) (by kernel_rfl) (by kernel_rfl) (by kernel_rfl) (fun _ _ _ h => h) (by kernel_rfl) ?_ (HHK.out _ _ HL4.out) ?_
  rotate_left
  · intro W'; go_simp; first | done | with_reducible rfl
  try simp only [Act.put]
  try simp only [List.setIfInBounds_toArray]
  try simp only [List.set_cons_succ]
  try simp only [List.set_cons_zero]
  refine wpAnyL_move (oi := ⟨some 84, _, _, _, _, _⟩) 21 ?_ rfl (by kernel_rfl) (by kernel_rfl) (by kernel_rfl) (by kernel_rfl) (fun _ _ _ h => h) (by kernel_rfl) ?_ (HHK.out _ _ HL4.out) ?_
  rotate_left
  · intro W'; go_simp; first | done | with_reducible rfl
  try simp only [Act.put]
  try simp only [List.setIfInBounds_toArray]
  try simp only [List.set_cons_succ]
  try simp only [List.set_cons_zero]
  refine wpAnyL_move (oi := ⟨some 85, _, _, _, _, _⟩) 22 ?_ rfl (by kernel_rfl) (by kernel_rfl) (by kernel_rfl) (by kernel_rfl) (fun _ _ _ h => h) (by kernel_rfl) ?_ (HHK.out _ _ HL4.out) ?_
  rotate_left
  · intro W'; go_simp; first | done | with_reducible rfl
  try simp only [Act.put]
  try simp only [List.setIfInBounds_toArray]
  try simp only [List.set_cons_succ]
  try simp only [List.set_cons_zero]
  refine wpAnyL_move (oi := ⟨some 86, _, _, _, _, _⟩) 23 ?_ rfl (by kernel_rfl) (by kernel_rfl) (by kernel_rfl) (by kernel_rfl) (fun _ _ _ h => h) (by kernel_rfl) ?_ (HHK.out _ _ HL4.out) ?_
  rotate_left
  · intro W'; go_simp; first | done | with_reducible rfl
  try simp only [Act.put]
  try simp only [List.setIfInBounds_toArray]
  try simp only [List.set_cons_succ]
  try simp only [List.set_cons_zero]
  refine wpAnyL_move (oi := ⟨some 87, _, _, _, _, _⟩) 24 ?_ rfl (by kernel_rfl) (by kernel_rfl) (by kernel_rfl) (by kernel_rfl) (fun _ _ _ h => h) (by kernel_rfl) ?_ (HHK.out _ _ HL4.out) ?_
  rotate_left
  · intro W'; go_simp; first | done | with_reducible rfl
  try simp only [Act.put]
  try simp only [List.setIfInBounds_toArray]
  try simp only [List.set_cons_succ]
  try simp only [List.set_cons_zero]
  refine wpAnyL_move (oi := ⟨some 88, _, _, _, _, _⟩) 25 ?_ rfl (by kernel_rfl) (by kernel_rfl) (by kernel_rfl) (by kernel_rfl) (fun _ _ _ h => h) (by kernel_rfl) ?_ (HHK.out _ _ HL4.out) ?_
  rotate_left
  · intro W'; go_simp; first | done | with_reducible rfl
  try simp only [Act.put]
  try simp only [List.setIfInBounds_toArray]
  try simp only [List.set_cons_succ]
  try simp only [List.set_cons_zero]
  refine wpAnyL_take (oi := ⟨some 89, _, _, _, _, _⟩) 26 29 (mtV 8 2 1 (.slice D9 2 c9)) _ rfl (by kernel_rfl) (by kernel_rfl) (by kernel_rfl) (by kernel_rfl) (by kernel_rfl) (by kernel_rfl) (.tail _ (.tail _ (.tail _ (.head _)))) (fun _ _ _ h => h) (by kernel_rfl) (fun W' hW' => exec_ld rfl (ld_mt hW')) (HHK.out _ _ HL4.out) ?_
  try simp only [Act.put]
  try simp only [List.setIfInBounds_toArray]
  try simp only [List.set_cons_succ]
  try simp only [List.set_cons_zero]
  refine wpAnyL_one (o := ⟨some 90, _, _, _, _, _⟩) 27 (by kernel_rfl) rfl (fun K hK => ?_)
  go_wp2_with fail
  have HN := hideIt (below_new X4 (.cells #[.int .i64 7, .int .i64 0] 3))
  have HM := hideIt (min_blk 8 2 1 (l := [7, 0]) (Blk.new X4 3 ([7, 0].map iv)) (by decide))
  have HL5 := hideIt (la6 (o := (.cells #[.int .i64 7, .int .i64 0] 3)) HL4.out)
  obtain ⟨X5, hX⟩ : ∃ W, W = X4.alloc (.cells #[.int .i64 7, .int .i64 0] 3) := ⟨_, rfl⟩
  rw [← hX]
  change Hid (MIn (X4.alloc (.cells #[.int .i64 7, .int .i64 0] 3)) ⟨8, 2, 1, [7, 0]⟩ _ 2) at HM
  rw [← hX] at HN HM HL5
  clear hX HN
  refine hK _ _ (HHK.out _ _ HL5.out) ?_
  clear hK K
  refine wpAnyL_one (o := ⟨some 91, _, _, _, _, _⟩) 28 (by kernel_rfl) rfl (fun K hK => ?_)
  go_wp2_with (go_at_call 34; refine (of_any _ _ _ _ _ _ _).mono ?_; rintro e X6 ⟨rfl, hb⟩; have HM := hideIt (HM.out.keep hb); have HL6 := hideIt (ls6 HL5.out hb); clear hb)
  refine hK _ _ (HHK.out _ _ HL6.out) ?_
  clear hK K
  refine wpAnyL_one (o := ⟨some 92, _, _, _, _, _⟩) 29 (by kernel_rfl) rfl (fun K hK => ?_)
  go_wp2_with (go_at_call 20; refine (HSM.out ⟨8, 2, 1, [7, 0]⟩ 2 rfl (by decide) _ _ _ _ _ (HQ9w17.out.keep HL6.out).mat HM.out).mono ?_; rintro e X7 ⟨rfl, hb⟩; have HL7 := hideIt (ls6 HL6.out hb); clear hb)
  refine hK _ _ (HHK.out _ _ HL7.out) ?_
  clear hK K
  clear HM
  refine wpAnyL_move (oi := ⟨some 93, _, _, _, _, _⟩) 30 ?_ rfl (by kernel_rfl) (by kernel_rfl) (by kernel_rfl) (by kernel_rfl) (fun _ _ _ h => h) (by kernel_rfl) ?_ (HHK.out _ _ HL7.out) ?_
  rotate_left
  · intro W'; go_simp; first | done | with_reducible rfl
  try simp only [Act.put]
  try simp only [List.setIfInBounds_toArray]
  try simp only [List.set_cons_succ]
  try simp only [List.set_cons_zero]
  refine wpAnyL_move (oi := ⟨some 94, _, _, _, _, _⟩) 31 ?_ rfl (by kernel_rfl) (by kernel_rfl) (by kernel_rfl) (by kernel_rfl) (fun _ _ _ h => h) (by kernel_rfl) ?_ (HHK.out _ _ HL7.out) ?_
  rotate_left
  · intro W'; go_simp; first | done | with_reducible rfl
  try simp only [Act.put]
  try simp only [List.setIfInBounds_toArray]
  try simp only [List.set_cons_succ]
  try simp only [List.set_cons_zero]
  refine wpAnyL_move (oi := ⟨some 95, _, _, _, _, _⟩) 32 ?_ rfl (by kernel_rfl) (by kernel_rfl) (by kernel_rfl) (by kernel_rfl) (fun _ _ _ h => h) (by kernel_rfl) ?_ (HHK.out _ _ HL7.out) ?_
  rotate_left
  · intro W'; go_simp; first | done | with_reducible rfl
  try simp only [Act.put]
  try simp only [List.setIfInBounds_toArray]
  try simp only [List.set_cons_succ]
  try simp only [List.set_cons_zero]
  refine wpAnyL_move (oi := ⟨some 96, _, _, _, _, _⟩) 33 ?_ rfl (by kernel_rfl) (by kernel_rfl) (by kernel_rfl) (by kernel_rfl) (fun _ _ _ h => h) (by kernel_rfl) ?_ (HHK.out _ _ HL7.out) ?_
  rotate_left
  · intro W'; go_simp; first | done | with_reducible rfl
  try simp only [Act.put]
  try simp only [List.setIfInBounds_toArray]
  try simp only [List.set_cons_succ]
  try simp only [List.set_cons_zero]
  refine wpAnyL_move (oi := ⟨some 97, _, _, _, _, _⟩) 34 ?_ rfl (by kernel_rfl) (by kernel_rfl) (by kernel_rfl) (by kernel_rfl) (fun _ _ _ h => h) (by kernel_rfl) ?_ (HHK.out _ _ HL7.out) ?_
  rotate_left
  · intro W'; go_simp; first | done | with_reducible rfl
  try simp only [Act.put]
  try simp only [List.setIfInBounds_toArray]
  try simp only [List.set_cons_succ]
  try simp only [List.set_cons_zero]
  refine wpAnyL_move (oi := ⟨some 98, _, _, _, _, _⟩) 35 ?_ rfl (by kernel_rfl) (by kernel_rfl) (by kernel_rfl) (by kernel_rfl) (fun _ _ _ h => h) (by kernel_rfl) ?_ (HHK.out _ _ HL7.out) ?_
  rotate_left
  · intro W'; go_simp; first | done | with_reducible rfl
  try simp only [Act.put]
  try simp only [List.setIfInBounds_toArray]
  try simp only [List.set_cons_succ]
  try simp only [List.set_cons_zero]
  refine wpAnyL_move (oi := ⟨some 99, _, _, _, _, _⟩) 36 ?_ rfl (by kernel_rfl) (by kernel_rfl) (by kernel_rfl) (by kernel_rfl) (fun _ _ _ h => h) (by kernel_rfl) ?_ (HHK.out _ _ HL7.out) ?_
  rotate_left
  · intro W'; go_simp; first | done | with_reducible rfl
  try simp only [Act.put]
  try simp only [List.setIfInBounds_toArray]
  try simp only [List.set_cons_succ]
  try simp only [List.set_cons_zero]
  refine wpAnyL_move (oi := ⟨some 100, _, _, _, _, _⟩) 37 ?_ rfl (by kernel_rfl) (by kernel_rfl) (by kernel_rfl) (by kernel_rfl) (fun _ _ _ h => h) (by kernel_rfl) ?_ (HHK.out _ _ HL7.out) ?_
  rotate_left
  · intro W'; go_simp; first | done | with_reducible rfl
  try simp only [Act.put]
  try simp only [List.setIfInBounds_toArray]
  try simp only [List.set_cons_succ]
  try simp only [List.set_cons_zero]
  refine wpAnyL_move (oi := ⟨some 101, _, _, _, _, _⟩) 38 ?_ rfl (by kernel_rfl) (by kernel_rfl) (by kernel_rfl) (by kernel_rfl) (fun _ _ _ h => h) (by kernel_rfl) ?_ (HHK.out _ _ HL7.out) ?_
  rotate_left
  · intro W'; go_simp; first | done | with_reducible rfl
  try simp only [Act.put]
  try simp only [List.setIfInBounds_toArray]
  try simp only [List.set_cons_succ]
  try simp only [List.set_cons_zero]
  refine wpAnyL_take (oi := ⟨some 102, _, _, _, _, _⟩) 39 40 (mtV 8 2 2 (.slice A1 4 4)) _ rfl (by kernel_rfl) (by kernel_rfl) (by kernel_rfl) (by kernel_rfl) (by kernel_rfl) (by kernel_rfl) (.tail _ (.tail _ (.tail _ (.tail _ (.head _))))) (fun _ _ _ h => h) (by kernel_rfl) (fun W' hW' => exec_ld rfl (ld_mt hW')) (HHK.out _ _ HL7.out) ?_
  try simp only [Act.put]
  try simp only [List.setIfInBounds_toArray]
  try simp only [List.set_cons_succ]
  try simp only [List.set_cons_zero]
  refine wpAnyL_one (o := ⟨some 103, _, _, _, _, _⟩) 40 (by kernel_rfl) rfl (fun K hK => ?_)
  go_wp2_with (go_at_call 21; refine (HVA.out _ _ _ (ls6 HLw17.out HL7.out) (HQ1w17.out.keep HL7.out).mat).mono ?_; rintro e X8 ⟨rfl, hb⟩; have HL8 := hideIt (ls6 HL7.out hb); clear hb)
  refine hK _ _ (HHK.out _ _ HL8.out) ?_
  clear hK K
  refine wpAnyL_move (oi := ⟨some 104, _, _, _, _, _⟩) 41 ?_ rfl (by kernel_rfl) (by kernel_rfl) (by kernel_rfl) (by kernel_rfl) (fun _ _ _ h => h) (by kernel_rfl) ?_ (HHK.out _ _ HL8.out) ?_
  rotate_left
  · intro W'; go_simp; first | done | with_reducible rfl
  try simp only [Act.put]
  try simp only [List.setIfInBounds_toArray]
  try simp only [List.set_cons_succ]
  try simp only [List.set_cons_zero]
  refine wpAnyL_move (oi := ⟨some 105, _, _, _, _, _⟩) 42 ?_ rfl (by kernel_rfl) (by kernel_rfl) (by kernel_rfl) (by kernel_rfl) (fun _ _ _ h => h) (by kernel_rfl) ?_ (HHK.out _ _ HL8.out) ?_
  rotate_left
  · intro W'; go_simp; first | done | with_reducible rfl
  try simp only [Act.put]
  try simp only [List.setIfInBounds_toArray]
  try simp only [List.set_cons_succ]
  try simp only [List.set_cons_zero]
  refine wpAnyL_one (o := ⟨some 106, _, _, _, _, _⟩) 43 (by kernel_rfl) rfl (fun K hK => ?_)
  go_wp2_with (go_at_call 34; refine (of_any _ _ _ _ _ _ _).mono ?_; rintro e X9 ⟨rfl, hb⟩; have HL9 := hideIt (ls6 HL8.out hb); clear hb)
  refine hK _ _ (HHK.out _ _ HL9.out) ?_
  clear hK K
  refine wpAnyL_one (o := ⟨some 107, _, _, _, _, _⟩) 44 (by kernel_rfl) rfl (fun K hK => ?_)
  go_wp2_with (go_at_call 21; refine (HV0.out _ (ls6 HLw17.out HL9.out)).mono ?_; rintro e X10 ⟨rfl, hb⟩; have HL10 := hideIt (ls6 HL9.out hb); clear hb)
  refine hK _ _ (HHK.out _ _ HL10.out) ?_
  clear hK K
  refine wpAnyL_move (oi := ⟨some 108, _, _, _, _, _⟩) 45 ?_ rfl (by kernel_rfl) (by kernel_rfl) (by kernel_rfl) (by kernel_rfl) (fun _ _ _ h => h) (by kernel_rfl) ?_ (HHK.out _ _ HL10.out) ?_
  rotate_left
  · intro W'; go_simp; first | done | with_reducible rfl
  try simp only [Act.put]
  try simp only [List.setIfInBounds_toArray]
  try simp only [List.set_cons_succ]
  try simp only [List.set_cons_zero]
  refine wpAnyL_move (oi := ⟨some 109, _, _, _, _, _⟩) 46 ?_ rfl (by kernel_rfl) (by kernel_rfl) (by kernel_rfl) (by kernel_rfl) (fun _ _ _ h => h) (by kernel_rfl) ?_ (HHK.out _ _ HL10.out) ?_
  rotate_left
  · intro W'; go_simp; first | done | with_reducible rfl
  try simp only [Act.put]
  try simp only [List.setIfInBounds_toArray]
  try simp only [List.set_cons_succ]
  try simp only [List.set_cons_zero]
  refine wpAnyL_move (oi := ⟨some 110, _, _, _, _, _⟩) 47 ?_ rfl (by kernel_rfl) (by kernel_rfl) (by kernel_rfl) (by kernel_rfl) (fun _ _ _ h => h) (by kernel_rfl) ?_ (HHK.out _ _ HL10.out) ?_
  rotate_left
  · intro W'; go_simp; first | done | with_reducible rfl
  try simp only [Act.put]
  try simp only [List.setIfInBounds_toArray]
  try simp only [List.set_cons_succ]
  try simp only [List.set_cons_zero]
  refine wpAnyL_take (oi := ⟨some 111, _, _, _, _, _⟩) 48 49 (mtV 8 2 2 (.slice A1 4 4)) _ rfl (by kernel_rfl) (by kernel_rfl) (by kernel_rfl) (by kernel_rfl) (by kernel_rfl) (by kernel_rfl) (.tail _ (.tail _ (.tail _ (.tail _ (.tail _ (.head _)))))) (fun _ _ _ h => h) (by kernel_rfl) (fun W' hW' => exec_ld rfl (ld_mt hW')) (HHK.out _ _ HL10.out) ?_
  try simp only [Act.put]
  try simp only [List.setIfInBounds_toArray]
  try simp only [List.set_cons_succ]
  try simp only [List.set_cons_zero]
  refine wpAnyL_one (o := ⟨some 112, _, _, _, _, _⟩) 49 (by kernel_rfl) rfl (fun K hK => ?_)
  go_wp2_with (go_at_call 23; refine (HAT.out _ _ _ (ls6 HLw17.out HL10.out) (HQ1w17.out.keep HL10.out).mat).mono ?_; rintro e X11 ⟨rfl, hb⟩; have HL11 := hideIt (ls6 HL10.out hb); clear hb)
  refine hK _ _ (HHK.out _ _ HL11.out) ?_
  clear hK K
  refine wpAnyL_move (oi := ⟨some 113, _, _, _, _, _⟩) 50 ?_ rfl (by kernel_rfl) (by kernel_rfl) (by kernel_rfl) (by kernel_rfl) (fun _ _ _ h => h) (by kernel_rfl) ?_ (HHK.out _ _ HL11.out) ?_
  rotate_left
  · intro W'; go_simp; first | done | with_reducible rfl
  try simp only [Act.put]
  try simp only [List.setIfInBounds_toArray]
  try simp only [List.set_cons_succ]
  try simp only [List.set_cons_zero]
  refine wpAnyL_move (oi := ⟨some 114, _, _, _, _, _⟩) 51 ?_ rfl (by kernel_rfl) (by kernel_rfl) (by kernel_rfl) (by kernel_rfl) (fun _ _ _ h => h) (by kernel_rfl) ?_ (HHK.out _ _ HL11.out) ?_
  rotate_left
  · intro W'; go_simp; first | done | with_reducible rfl
  try simp only [Act.put]
  try simp only [List.setIfInBounds_toArray]
  try simp only [List.set_cons_succ]
  try simp only [List.set_cons_zero]
  refine loads_tail 52 (by kernel_rfl) (by kernel_rfl) (by kernel_rfl) (by kernel_rfl) ?_
  simp only [List.drop_succ_cons, List.drop_zero]
  go_wp2_with fail
  go_ret
  exact ⟨rfl, ls6 HLw17.out HL11.out⟩

end Go.Proofs.YtodmcojcmihooaaDoor
