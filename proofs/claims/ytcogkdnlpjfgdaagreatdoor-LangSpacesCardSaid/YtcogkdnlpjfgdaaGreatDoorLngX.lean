/-
  The program's parser, walked: the end of the text, recover, read.
-/
import Derived.Test.YtcogkdnlpjfgdaaGreatDoorLngW
namespace Go.Proofs.YtcogkdnlpjfgdaaGreatDoor
open Go.RowKit
set_option linter.unusedVariables false
set_option linter.unusedSimpArgs false

set_option maxHeartbeats 1000000 in
set_option maxRecDepth 100000 in
theorem expect_end (t : Bs) (ht : t.length ≤ 2000) (pb B : Nat) (hB : B ≤ pb) (S : PS) (w : World) (hp : At t w pb S) (hBw : B ≤ w.heap.size) :
    Calls Tryz.prog 66 #[.pointer (some ⟨pb, 0, none⟩), .string ⟨#[]⟩] w fun e w' =>
      ((e = .returned (.tuple #[]) ∧ (kindP (toks t) 4 S).bad = -1) ∨ (e = pan ∧ ∃ y, Blk w' pb 102 (prC t y) ∧ (kindP (toks t) 4 S).bad = (y.ps : Int))) ∧ KeepT B [102] w w' := by
  obtain ⟨hS, x, hx, h5, hb⟩ := hp
  have hA : Below w.heap.size w (w.alloc (.cells #[.string ⟨#[]⟩] 9)) := (Below.refl _ _).alloc (Nat.le_refl _) _
  have HT := hideIt (take_any t ht S.i x hx h5 _ _ pb B _ (asks_same [] w.heap.size (w.alloc (.cells #[.string ⟨#[]⟩] 9)) ((Blk.new w 9 [.string ⟨#[]⟩]).cell 0) (by simp)) (hb.kept hA hb.lt) hB (Nat.le_trans hBw hA.size))
  have HM : Hid (∀ e w', TPost t pb S.i x (decide (x.tx = [])) e w' → (e = .returned (.agg #[.int .i64 (x.ps : Int), sv x.tx]) ∧ (kindP (toks t) 4 S).bad = -1) ∨ (e = pan ∧ ∃ y, Blk w' pb 102 (prC t y) ∧ (kindP (toks t) 4 S).bad = (y.ps : Int))) := by
    intro e w' h
    have hc := cur_is hx (-1)
    rw [ps_eta hS] at hc
    have hf := (toks_kd hx h5).1.fin
    rcases h with ⟨h1, rfl, h3⟩ | ⟨rfl, y, hy, h⟩
    · have h4 := hf.1 (of_decide_eq_true h1)
      refine .inl ⟨rfl, ?_⟩
      unfold kindP
      rw [if_pos ⟨by rw [hS]; decide, by rw [hc]; exact h4⟩]
      exact hS
    · refine .inr ⟨rfl, y, hy, ?_⟩
      rcases h with ⟨h1, rfl⟩ | ⟨h1, h3, _, _⟩
      · unfold kindP
        rw [if_neg (fun q => by have := hf.2 (by rw [← hc]; exact q.2); exact absurd this (of_decide_eq_false h1))]
        unfold failP
        rw [if_pos (by rw [hS]; decide), hc]
      · have := hf.1 (of_decide_eq_true h1)
        omega
  have HK0 := hideIt (KeepT.of_below (ts := [102]) hA hBw)
  have hmf : ∀ (fn : Fn) (first cap : Array Value) (w : World), (Instr.makeFunc fn first cap).run Tryz.prog w = .ok (.func fn first cap) w := fun _ _ _ _ => rfl
  clear hx h5 hb hA
  go_enter Tryz.func66, Tryz.ntmps66
  go_wp2_with (go_at_call 92; refine HT.out.mono ?_; rintro e w' ⟨h, hk⟩; have HK := hideIt hk; have h2 := HM.out e w' h; clear h hk; rcases h2 with ⟨rfl, h⟩ | ⟨rfl, h⟩ <;> have HH := hideIt h <;> clear h)
  · go_end0
    exact ⟨.inl ⟨rfl, HH.out⟩, HK0.out.trans HK.out⟩
  · exact ⟨rfl, .inr ⟨rfl, HH.out⟩, HK0.out.trans HK.out⟩

/-- The deferred function, where the reading has panicked. -/
theorem caught (pb fb ab eb : Nat) (y : Int) (w : World) (hy : w.cell? ⟨pb, 1, none⟩ = some (.int .i64 y)) (f1 : Value) (a1 : Value) (e1 : Value) (hf : Blk w fb 70 [f1]) (ha : Blk w ab 3 [a1]) (he : Blk w eb 25 [e1]) (hfa : fb ≠ ab) (hfe : fb ≠ eb) (hae : ab ≠ eb) (n1 : pb ≠ fb) (n2 : pb ≠ ab) (n3 : pb ≠ eb) :
    CallsD Tryz.prog 64 #[.pointer (some ⟨pb, 0, none⟩), .pointer (some ⟨fb, 0, none⟩), .pointer (some ⟨ab, 0, none⟩), .pointer (some ⟨eb, 0, none⟩)] (.panicking [{ v := .iface 25 (.int .i64 3), recovered := false }]) w fun e u' w' =>
      e = .returned (.tuple #[]) ∧ u' = .panicking [{ v := .iface 25 (.int .i64 3), recovered := true }] ∧ w' = ((w.setCell ⟨fb, 0, none⟩ (.slice none 0 0)).setCell ⟨ab, 0, none⟩ (.int .i64 y)).setCell ⟨eb, 0, none⟩ (.int .i64 3) := by
  refine callsD_of_wpS Tryz.func64 rfl fun c₀ cs hu => ?_
  apply wpS_seq
  apply wpS_region
  simp [wpOpsS, go_sem, recoverD, hu, Tryz.ntmps64, Exit.thenS]
  refine wpS_of_wp ?_
  have q0 : w.cell? ⟨fb, 0, none⟩ = some f1 := hf.cell 0
  have q1 : w.cell? ⟨ab, 0, none⟩ = some a1 := ha.cell 0
  have q2 : w.cell? ⟨eb, 0, none⟩ = some e1 := he.cell 0
  have z0 := hf.free 0
  have z1 := ha.free 0
  have z2 := he.free 0
  have y1 : (w.setCell ⟨fb, 0, none⟩ (.slice none 0 0)).cell? ⟨ab, 0, none⟩ = some a1 := (ha.store_other (Ne.symm hfa)).cell 0
  have y2 : ((w.setCell ⟨fb, 0, none⟩ (.slice none 0 0)).setCell ⟨ab, 0, none⟩ (.int .i64 y)).cell? ⟨eb, 0, none⟩ = some e1 := ((he.store_other (Ne.symm hfe)).store_other (Ne.symm hae)).cell 0
  go_wp2_with fail
  simp [bodyPostS, results, Tryz.results64]

theorem idle (args : Array Value) (ha : args.size = 4) (w : World) :
    CallsD Tryz.prog 64 args .returning w fun e u' w' => e = .returned (.tuple #[]) ∧ u' = .returning ∧ w' = w := by
  obtain ⟨a, b, c, d, rfl⟩ : ∃ a b c d, args = #[a, b, c, d] := by
    obtain ⟨l⟩ := args
    match l, ha with
    | [a, b, c, d], _ => exact ⟨a, b, c, d, rfl⟩
  refine callsD_of_wpS Tryz.func64 rfl fun c₀ cs hu => ?_
  apply wpS_seq
  apply wpS_region
  simp [wpOpsS, go_sem, recoverD, hu, Tryz.ntmps64, Exit.thenS]
  refine wpS_of_wp ?_
  go_wp2_with fail
  cases c₀
  simp_all [bodyPostS, results, Tryz.results64]

theorem res_read {fn : Func} {p1 p2 p3 : Tmp} (h : fn.results = #[.cell p1 70, .cell p2 3, .cell p3 25]) (tmps : Array Value) (w : World) (g1 g2 g3 : Nat) (A : Option Addr) (n c : Nat) (x y : Int)
    (hp1 : tmps.getD p1 undef = .pointer (some ⟨g1, 0, none⟩)) (hp2 : tmps.getD p2 undef = .pointer (some ⟨g2, 0, none⟩)) (hp3 : tmps.getD p3 undef = .pointer (some ⟨g3, 0, none⟩))
    (h1 : w.cell? ⟨g1, 0, none⟩ = some (.slice A n c)) (h2 : w.cell? ⟨g2, 0, none⟩ = some (.int .i64 x)) (h3 : w.cell? ⟨g3, 0, none⟩ = some (.int .i64 y)) :
    (results fn tmps).run Tryz.prog w = .ok (.tuple #[.slice A n c, .int .i64 x, .int .i64 y]) w := by
  have hq1 : tmps[p1]?.getD undef = .pointer (some ⟨g1, 0, none⟩) := by simpa using hp1
  have hq2 : tmps[p2]?.getD undef = .pointer (some ⟨g2, 0, none⟩) := by simpa using hp2
  have hq3 : tmps[p3]?.getD undef = .pointer (some ⟨g3, 0, none⟩) := by simpa using hp3
  simp only [results, h]
  simp [hq1, hq2, hq3, Sem.run_bind, go_sem, h1, h2, h3]
theorem At.other {t : Bs} {w : World} {pb g i : Nat} {S : PS} {u : Value} (h : At t w pb S) (hg : pb ≠ g) : At t (w.setCell ⟨g, i, none⟩ u) pb S := by
  obtain ⟨h1, x, h2, h3, h4⟩ := h
  exact ⟨h1, x, h2, h3, h4.store_other hg⟩

/-- How read ends. -/
def ReadE (t : Bs) (S' : PS) (xs : List Df) (B : Nat) (e : Ending) (w' : World) : Prop :=
  (2000 < t.length ∧ e = .returned (.tuple #[.slice none 0 0, .int .i64 0, .int .i64 2])) ∨
  (t.length ≤ 2000 ∧ 0 ≤ (kindP (toks t) 4 S').bad ∧ e = .returned (.tuple #[.slice none 0 0, .int .i64 (kindP (toks t) 4 S').bad, .int .i64 3])) ∨
  (t.length ≤ 2000 ∧ (kindP (toks t) 4 S').bad < 0 ∧ ∃ A c, e = .returned (.tuple #[.slice A xs.length c, .int .i64 0, .int .i64 0]) ∧ DefsR w' B B (.slice A xs.length c) xs)

set_option maxHeartbeats 1000000 in
set_option maxRecDepth 100000 in
theorem read_any (t : Bs) (g : FuncId) (hen : Enters Tryz.prog g) (S' : PS) (xs : List Df) (w : World)
    (hD : ∀ A, Dead (toks t) ⟨0, -1⟩ A → Dead (toks t) S' A)
    (hG : t.length ≤ 2000 → ∀ (pb : Nat) (W : World), w.heap.size ≤ pb → At t W pb ⟨0, -1⟩ → w.heap.size ≤ W.heap.size → Calls Tryz.prog g #[.pointer (some ⟨pb, 0, none⟩)] W fun e w' =>
      Ends t pb S' (GramV w.heap.size xs) e w' ∧ KeepT w.heap.size [102] W w') :
    Calls Tryz.prog 43 #[sv t, .func (.func g) #[] #[]] w fun e w' => ReadE t S' xs w.heap.size e w' ∧ Below w.heap.size w w' := by
  have hmf : ∀ (fn : Fn) (first cap : Array Value) (w : World), (Instr.makeFunc fn first cap).run Tryz.prog w = .ok (.func fn first cap) w := fun _ _ _ _ => rfl
  have hln := len_c t
  unfold Enters at hen
  have e3 : (((w.alloc (.cells #[.slice none 0 0] 70)).alloc (.cells #[.int .i64 0] 3)).alloc (.cells #[.int .i64 0] 25)).heap.size = w.heap.size + 3 := by simp
  obtain ⟨W0, hW0⟩ : ∃ W, W = ((w.alloc (.cells #[.slice none 0 0] 70)).alloc (.cells #[.int .i64 0] 3)).alloc (.cells #[.int .i64 0] 25) := ⟨_, rfl⟩
  have HB0 : Hid (Below w.heap.size w W0) := by rw [hW0]; exact (((Below.refl _ _).alloc (Nat.le_refl _) _).alloc (by simp) _).alloc (by simp; omega) _
  have HF0 : Hid (Blk W0 w.heap.size 70 [.slice none 0 0]) := by rw [hW0]; exact ((Blk.new w 70 [.slice none 0 0]).alloc _).alloc _
  have HA0 : Hid (Blk W0 (w.heap.size + 1) 3 [.int .i64 0]) := by
    have := Blk.new (w.alloc (.cells #[.slice none 0 0] 70)) 3 [.int .i64 0]
    rw [show (w.alloc (.cells #[.slice none 0 0] 70)).heap.size = w.heap.size + 1 by simp] at this
    rw [hW0]; exact this.alloc _
  have HE0 : Hid (Blk W0 (w.heap.size + 2) 25 [.int .i64 0]) := by
    have := Blk.new ((w.alloc (.cells #[.slice none 0 0] 70)).alloc (.cells #[.int .i64 0] 3)) 25 [.int .i64 0]
    rw [show ((w.alloc (.cells #[.slice none 0 0] 70)).alloc (.cells #[.int .i64 0] 3)).heap.size = w.heap.size + 2 by simp] at this
    rw [hW0]; exact this
  have HS0 : Hid (W0.heap.size = w.heap.size + 3) := by rw [hW0]; exact e3
  have HW0 := hideIt hW0
  clear hW0 e3
  by_cases h2 : 2000 < t.length
  · have hlt : (t.length : Int) > 2000 := by omega
    have HL := hideIt h2
    clear hD hG h2
    go_enter_defers Tryz.func43, Tryz.ntmps43
    go_wp2_with fail
    have hc0 := ((Blk.new w 70 [.slice none 0 0]).alloc (.cells #[.int .i64 0] 3)).alloc (.cells #[.int .i64 2] 25)
    have hc1 := (Blk.new (w.alloc (.cells #[.slice none 0 0] 70)) 3 [.int .i64 0]).alloc (.cells #[.int .i64 2] 25)
    rw [show (w.alloc (.cells #[.slice none 0 0] 70)).heap.size = w.heap.size + 1 by simp] at hc1
    have hc2 := Blk.new ((w.alloc (.cells #[.slice none 0 0] 70)).alloc (.cells #[.int .i64 0] 3)) 25 [.int .i64 2]
    rw [show ((w.alloc (.cells #[.slice none 0 0] 70)).alloc (.cells #[.int .i64 0] 3)).heap.size = w.heap.size + 1 + 1 by simp] at hc2
    exact ⟨_, res_read rfl _ _ w.heap.size (w.heap.size + 1) (w.heap.size + 1 + 1) none 0 0 0 2 rfl rfl rfl (hc0.cell 0) (hc1.cell 0) (hc2.cell 0), .inl ⟨HL.out, rfl⟩, (((Below.refl _ _).alloc (Nat.le_refl _) _).alloc (by simp) _).alloc (by simp; omega) _⟩
  · have hlt : ¬ (t.length : Int) > 2000 := by omega
    have ht : t.length ≤ 2000 := by omega
    have HL := hideIt ht
    have HD := hideIt hD
    have HGG := hideIt (hG ht)
    have hs0 := HS0.out
    have hb1 := Blk.new W0 102 [.string (ss t), .int .i64 0, .string ⟨#[]⟩, .string (ss t)]
    rw [show W0.heap.size = w.heap.size + 1 + 1 + 1 by omega] at hb1
    have HB1 := hideIt hb1
    have HNX : Hid (Calls Tryz.prog 65 #[.pointer (some ⟨w.heap.size + 1 + 1 + 1, 0, none⟩)] (W0.alloc (.cells #[.string (ss t), .int .i64 0, .string ⟨#[]⟩, .string (ss t)] 102)) fun e w' =>
        (e = .returned (.tuple #[]) ∧ At t w' (w.heap.size + 1 + 1 + 1) ⟨0, -1⟩ ∨ e = pan ∧ ∃ y, Blk w' (w.heap.size + 1 + 1 + 1) 102 (prC t y) ∧ Dead (toks t) ⟨0, -1⟩ y.ps) ∧ KeepT w.heap.size [102] (W0.alloc (.cells #[.string (ss t), .int .i64 0, .string ⟨#[]⟩, .string (ss t)] 102)) w') := by
      refine (next_any t ht 0 (Nat.zero_le _) (w.heap.size + 1 + 1 + 1) _ _ rfl rfl w.heap.size _ (by rw [List.drop_zero]; exact HB1.out) (by omega) (by simp; omega)).mono ?_
      rw [List.drop_zero]
      rintro e w' ⟨h, hb, hk⟩
      refine ⟨?_, hk⟩
      have hf := toks_first t
      rcases h with ⟨h5, rfl⟩ | ⟨h5, rfl⟩
      · exact .inl ⟨rfl, rfl, _, hf, h5, hb⟩
      · refine .inr ⟨rfl, _, hb, .inr ⟨ng1, ?_, ?_⟩⟩
        · rw [cur_is hf]; exact h5
        · rw [cur_is hf]
    have HEN := hideIt (fun W hp hBw => expect_end t ht (w.heap.size + 1 + 1 + 1) w.heap.size (by omega) S' W hp hBw)
    have HBW := hideIt (HB0.out.alloc HB0.out.size (.cells #[.string (ss t), .int .i64 0, .string ⟨#[]⟩, .string (ss t)] 102))
    have HF1 := hideIt (HF0.out.alloc (.cells #[.string (ss t), .int .i64 0, .string ⟨#[]⟩, .string (ss t)] 102))
    have HA1 := hideIt (HA0.out.alloc (.cells #[.string (ss t), .int .i64 0, .string ⟨#[]⟩, .string (ss t)] 102))
    have HE1 := hideIt (HE0.out.alloc (.cells #[.string (ss t), .int .i64 0, .string ⟨#[]⟩, .string (ss t)] 102))
    have HBK : Hid (∀ a b, KeepT w.heap.size [102] a b → Below w.heap.size a b) := fun a b h => h.below
    clear hD hG h2 hb1 hs0 ht
    go_enter_defers Tryz.func43, Tryz.ntmps43
    go_wp2_with (first
      | (go_at_call 66; refine (HEN.out _ (hp3.other (by omega)) (by have h1 := HBW.out.size; have h2 := HK2.out.size; have h3 := HK3.out.size; simp [World.setCell] at *; omega)).mono ?_; rintro e w4 ⟨h, hk4⟩; have hf4 := (HF3.out.store 0 (.slice A3 xs.length c3)).keepT hk4 (by decide); have ha4 := (HA3.out.store_other (k := w.heap.size) (i := 0) (u := .slice A3 xs.length c3) (by omega)).keepT hk4 (by decide); have he4 := (HE3.out.store_other (k := w.heap.size) (i := 0) (u := .slice A3 xs.length c3) (by omega)).keepT hk4 (by decide); have q0 : w4.cell? ⟨w.heap.size, 0, none⟩ = _ := hf4.cell 0; have q1 : w4.cell? ⟨w.heap.size + 1, 0, none⟩ = _ := ha4.cell 0; have q2 : w4.cell? ⟨w.heap.size + 1 + 1, 0, none⟩ = _ := he4.cell 0; have k0 := hf4.free 0; have k1 := ha4.free 0; have k2 := he4.free 0; have HF4 := hideIt hf4; have HA4 := hideIt ha4; have HE4 := hideIt he4; have HK4 := hideIt hk4; clear hf4 ha4 he4 hk4; rcases h with ⟨rfl, h4⟩ | ⟨rfl, h4⟩)
      | (go_at_fn g; refine (HGG.out _ _ (by omega) hp2 (by have h1 := HBW.out.size; have h2 := HK2.out.size; omega)).mono ?_; rintro e w3 ⟨⟨hp3, A3, c3, rfl, hd3⟩ | ⟨rfl, h3⟩, hk3⟩ <;> have hf3 := HF2.out.keepT hk3 (by decide) <;> have HA3 := hideIt (HA2.out.keepT hk3 (by decide)) <;> have HE3 := hideIt (HE2.out.keepT hk3 (by decide)) <;> have HK3 := hideIt hk3 <;> have q0 : w3.cell? ⟨w.heap.size, 0, none⟩ = _ := hf3.cell 0 <;> have k0 := hf3.free 0 <;> have HF3 := hideIt hf3 <;> clear hf3 hk3)
      | (go_at_call 65; rw [← HW0.out]; refine HNX.out.mono ?_; rintro e w2 ⟨⟨rfl, hp2⟩ | ⟨rfl, h2⟩, hk2⟩ <;> have HK2 := hideIt hk2 <;> have HF2 := hideIt (HF1.out.keepT hk2 (by decide)) <;> have HA2 := hideIt (HA1.out.keepT hk2 (by decide)) <;> have HE2 := hideIt (HE1.out.keepT hk2 (by decide)) <;> clear hk2))
    · refine leaves_cons (f := 64) (args := #[.pointer (some ⟨w.heap.size + 1 + 1 + 1, 0, none⟩), .pointer (some ⟨w.heap.size, 0, none⟩), .pointer (some ⟨w.heap.size + 1, 0, none⟩), .pointer (some ⟨w.heap.size + 1 + 1, 0, none⟩)]) (by simp) (by simp [go_sem]) ?_
      refine (idle _ rfl _).mono ?_
      rintro e u' w'' ⟨rfl, rfl, rfl⟩
      have g0 := HF4.out.store 0 (.slice A3 xs.length c3)
      have g1 := HA4.out.store_other (k := w.heap.size) (i := 0) (u := .slice A3 xs.length c3) (by omega)
      have g2 := (HE4.out.store_other (k := w.heap.size) (i := 0) (u := .slice A3 xs.length c3) (by omega)).store_other (k := w.heap.size + 1) (i := 0) (u := .int .i64 0) (by omega)
      have r0 := ((g0.store_other (k := w.heap.size + 1) (i := 0) (u := .int .i64 0) (by omega)).store_other (k := w.heap.size + 1 + 1) (i := 0) (u := .int .i64 0) (by omega)).cell 0
      have r1 := ((g1.store 0 (.int .i64 0)).store_other (k := w.heap.size + 1 + 1) (i := 0) (u := .int .i64 0) (by omega)).cell 0
      have r2 := (g2.store 0 (.int .i64 0)).cell 0
      refine ⟨_, res_read rfl _ _ w.heap.size (w.heap.size + 1) (w.heap.size + 1 + 1) A3 xs.length c3 0 0 rfl rfl rfl r0 r1 r2, .inr (.inr ⟨HL.out, by rw [h4]; decide, A3, c3, rfl, ?_⟩), ?_⟩
      · have d1 := (hd3.set HF3.out (by decide) (by decide) (by decide) 0 (.slice A3 xs.length c3)).keepT HK4.out
        exact ((d1.set HF4.out (by decide) (by decide) (by decide) 0 _).set g1 (by decide) (by decide) (by decide) 0 _).set g2 (by decide) (by decide) (by decide) 0 _
      · exact below_set (below_set (below_set (((HBW.out.trans (HBK.out _ _ HK2.out)).trans (HBK.out _ _ HK3.out)).trans ((below_set (Below.refl _ _) (Nat.le_refl _) 0 (.slice A3 xs.length c3)).trans (HBK.out _ _ HK4.out))) (Nat.le_refl _) _ _) (by omega) _ _) (by omega) _ _
    · obtain ⟨y, hy, hbad⟩ := h4
      refine leaves_cons (f := 64) (args := #[.pointer (some ⟨w.heap.size + 1 + 1 + 1, 0, none⟩), .pointer (some ⟨w.heap.size, 0, none⟩), .pointer (some ⟨w.heap.size + 1, 0, none⟩), .pointer (some ⟨w.heap.size + 1 + 1, 0, none⟩)]) (by simp) (by simp [go_sem]) ?_
      refine (caught (w.heap.size + 1 + 1 + 1) w.heap.size (w.heap.size + 1) (w.heap.size + 1 + 1) (y.ps : Int) _ (hy.cell 1) _ _ _ HF4.out HA4.out HE4.out (by omega) (by omega) (by omega) (by omega) (by omega) (by omega)).mono ?_
      rintro e u' w'' ⟨rfl, rfl, rfl⟩
      have r0 := (((HF4.out.store 0 (.slice none 0 0)).store_other (k := w.heap.size + 1) (i := 0) (u := .int .i64 (y.ps : Int)) (by omega)).store_other (k := w.heap.size + 1 + 1) (i := 0) (u := .int .i64 3) (by omega)).cell 0
      have r1 := (((HA4.out.store_other (k := w.heap.size) (i := 0) (u := .slice none 0 0) (by omega)).store 0 (.int .i64 (y.ps : Int))).store_other (k := w.heap.size + 1 + 1) (i := 0) (u := .int .i64 3) (by omega)).cell 0
      have r2 := (((HE4.out.store_other (k := w.heap.size) (i := 0) (u := .slice none 0 0) (by omega)).store_other (k := w.heap.size + 1) (i := 0) (u := .int .i64 (y.ps : Int)) (by omega)).store 0 (.int .i64 3)).cell 0
      refine ⟨_, res_read rfl _ _ w.heap.size (w.heap.size + 1) (w.heap.size + 1 + 1) none 0 0 (y.ps : Int) 3 rfl rfl rfl r0 r1 r2, .inr (.inl ⟨HL.out, by rw [hbad]; exact Int.natCast_nonneg _, by rw [hbad]⟩), ?_⟩
      exact below_set (below_set (below_set (((HBW.out.trans (HBK.out _ _ HK2.out)).trans (HBK.out _ _ HK3.out)).trans ((below_set (Below.refl _ _) (Nat.le_refl _) 0 (.slice A3 xs.length c3)).trans (HBK.out _ _ HK4.out))) (Nat.le_refl _) _ _) (by omega) _ _) (by omega) _ _
    · obtain ⟨y, hy, hbad⟩ := (show ∃ y, Blk w3 (w.heap.size + 1 + 1 + 1) 102 (prC t y) ∧ (kindP (toks t) 4 S').bad = (y.ps : Int) from by obtain ⟨y, hy, hd⟩ := h3; exact ⟨y, hy, dead_four hd⟩)
      refine leaves_cons (f := 64) (args := #[.pointer (some ⟨w.heap.size + 1 + 1 + 1, 0, none⟩), .pointer (some ⟨w.heap.size, 0, none⟩), .pointer (some ⟨w.heap.size + 1, 0, none⟩), .pointer (some ⟨w.heap.size + 1 + 1, 0, none⟩)]) (by simp) (by simp [go_sem]) ?_
      refine (caught (w.heap.size + 1 + 1 + 1) w.heap.size (w.heap.size + 1) (w.heap.size + 1 + 1) (y.ps : Int) _ (hy.cell 1) _ _ _ HF3.out HA3.out HE3.out (by omega) (by omega) (by omega) (by omega) (by omega) (by omega)).mono ?_
      rintro e u' w'' ⟨rfl, rfl, rfl⟩
      have r0 := (((HF3.out.store 0 (.slice none 0 0)).store_other (k := w.heap.size + 1) (i := 0) (u := .int .i64 (y.ps : Int)) (by omega)).store_other (k := w.heap.size + 1 + 1) (i := 0) (u := .int .i64 3) (by omega)).cell 0
      have r1 := (((HA3.out.store_other (k := w.heap.size) (i := 0) (u := .slice none 0 0) (by omega)).store 0 (.int .i64 (y.ps : Int))).store_other (k := w.heap.size + 1 + 1) (i := 0) (u := .int .i64 3) (by omega)).cell 0
      have r2 := (((HE3.out.store_other (k := w.heap.size) (i := 0) (u := .slice none 0 0) (by omega)).store_other (k := w.heap.size + 1) (i := 0) (u := .int .i64 (y.ps : Int)) (by omega)).store 0 (.int .i64 3)).cell 0
      refine ⟨_, res_read rfl _ _ w.heap.size (w.heap.size + 1) (w.heap.size + 1 + 1) none 0 0 (y.ps : Int) 3 rfl rfl rfl r0 r1 r2, .inr (.inl ⟨HL.out, by rw [hbad]; exact Int.natCast_nonneg _, by rw [hbad]⟩), ?_⟩
      exact below_set (below_set (below_set ((HBW.out.trans (HBK.out _ _ HK2.out)).trans (HBK.out _ _ HK3.out)) (Nat.le_refl _) _ _) (by omega) _ _) (by omega) _ _
    · obtain ⟨y, hy, hbad⟩ := (show ∃ y, Blk w2 (w.heap.size + 1 + 1 + 1) 102 (prC t y) ∧ (kindP (toks t) 4 S').bad = (y.ps : Int) from by obtain ⟨y, hy, hd⟩ := h2; exact ⟨y, hy, dead_four (HD.out _ hd)⟩)
      refine leaves_cons (f := 64) (args := #[.pointer (some ⟨w.heap.size + 1 + 1 + 1, 0, none⟩), .pointer (some ⟨w.heap.size, 0, none⟩), .pointer (some ⟨w.heap.size + 1, 0, none⟩), .pointer (some ⟨w.heap.size + 1 + 1, 0, none⟩)]) (by simp) (by simp [go_sem]) ?_
      refine (caught (w.heap.size + 1 + 1 + 1) w.heap.size (w.heap.size + 1) (w.heap.size + 1 + 1) (y.ps : Int) _ (hy.cell 1) _ _ _ HF2.out HA2.out HE2.out (by omega) (by omega) (by omega) (by omega) (by omega) (by omega)).mono ?_
      rintro e u' w'' ⟨rfl, rfl, rfl⟩
      have r0 := (((HF2.out.store 0 (.slice none 0 0)).store_other (k := w.heap.size + 1) (i := 0) (u := .int .i64 (y.ps : Int)) (by omega)).store_other (k := w.heap.size + 1 + 1) (i := 0) (u := .int .i64 3) (by omega)).cell 0
      have r1 := (((HA2.out.store_other (k := w.heap.size) (i := 0) (u := .slice none 0 0) (by omega)).store 0 (.int .i64 (y.ps : Int))).store_other (k := w.heap.size + 1 + 1) (i := 0) (u := .int .i64 3) (by omega)).cell 0
      have r2 := (((HE2.out.store_other (k := w.heap.size) (i := 0) (u := .slice none 0 0) (by omega)).store_other (k := w.heap.size + 1) (i := 0) (u := .int .i64 (y.ps : Int)) (by omega)).store 0 (.int .i64 3)).cell 0
      refine ⟨_, res_read rfl _ _ w.heap.size (w.heap.size + 1) (w.heap.size + 1 + 1) none 0 0 (y.ps : Int) 3 rfl rfl rfl r0 r1 r2, .inr (.inl ⟨HL.out, by rw [hbad]; exact Int.natCast_nonneg _, by rw [hbad]⟩), ?_⟩
      exact below_set (below_set (below_set (HBW.out.trans (HBK.out _ _ HK2.out)) (Nat.le_refl _) _ _) (by omega) _ _) (by omega) _ _

end Go.Proofs.YtcogkdnlpjfgdaaGreatDoor
