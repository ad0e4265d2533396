/-
  The program's parser, walked: setting, numbers.
-/
import Derived.Test.YtcogkdnlpjfgdaaGreatDoorLngP
namespace Go.Proofs.YtcogkdnlpjfgdaaGreatDoor
open Go.RowKit
set_option linter.unusedVariables false
set_option linter.unusedSimpArgs false

/-- The parser in memory is where S says, and has met no error. -/
def At (t : Bs) (w : World) (pb : Nat) (S : PS) : Prop := S.bad = -1 ∧ PT w pb t S.i
/-- How a function of the parser ends: V is what it hands back, S' where the parser is then. -/
def Ends (t : Bs) (pb : Nat) (S' : PS) (V : Ending → World → Prop) (e : Ending) (w' : World) : Prop :=
  (At t w' pb S' ∧ V e w') ∨ (e = pan ∧ ∃ y, Blk w' pb 102 (prC t y) ∧ Dead (toks t) S' y.ps)
theorem At.kept {t : Bs} {w w' : World} {pb B : Nat} {S : PS} (h : At t w pb S) (hb : Below B w w') (hB : pb < B) : At t w' pb S := ⟨h.1, h.2.kept hb hB⟩
theorem At.new {t : Bs} {w : World} {pb : Nat} {S : PS} (h : At t w pb S) (o : Obj) : At t (w.alloc o) pb S := by
  obtain ⟨h1, x, h2, h3, h4⟩ := h
  exact ⟨h1, x, h2, h3, h4.alloc o⟩
theorem At.lt {t : Bs} {w : World} {pb : Nat} {S : PS} (h : At t w pb S) : pb < w.heap.size := by
  obtain ⟨h1, x, h2, h3, h4⟩ := h
  exact h4.lt
theorem ps_eta {S : PS} (h : S.bad = -1) : (⟨S.i, -1⟩ : PS) = S := by
  cases S
  simp only at h
  rw [h]
/-- May a text be a word or a sign of the grammar? -/
def kwB : Bs → Bool
  | [] => false
  | c :: _ => !digB c
theorem kw_of {k : Bs} (h : kwB k = true) : KwB k := by
  cases k with
  | nil => exact absurd h (by decide)
  | cons c r =>
    refine ⟨by simp, fun c' y e => ?_⟩
    injection e with e1 e2
    rw [← e1]
    unfold kwB at h
    simpa using h

theorem expect_at (t : Bs) (ht : t.length ≤ 2000) (pb B : Nat) (hB : B ≤ pb) (k : Bs) (hk : kwB k = true) (S : PS) (w : World) (hp : At t w pb S) (hBw : B ≤ w.heap.size) :
    Calls Tryz.prog 66 #[.pointer (some ⟨pb, 0, none⟩), sv k] w fun e w' =>
      Ends t pb (mustP (toks t) k S) (fun e _ => e = .returned (.tuple #[]) ∧ isP (toks t) k S = true) e w' ∧ KeepT B [102] w w' := by
  refine (expect_any t ht k (kw_of hk) S.i pb B w hp.2 hB hBw).mono ?_
  rintro e w' ⟨h, hk⟩
  rw [ps_eta hp.1] at h
  refine ⟨?_, hk⟩
  rcases h with ⟨h1, h2, h3, h4⟩ | h
  · exact .inl ⟨⟨by rw [h2], by rw [h2]; exact h4⟩, h1, h3⟩
  · exact .inr h
theorem taken_at (t : Bs) (ht : t.length ≤ 2000) (pb B : Nat) (hB : B ≤ pb) (K : Bs → Bool) (n : Nat) (hn : n ≤ 3) (hK : ∀ x : Tk, TokK x → (K x.tx = true ↔ x.kd = n)) (kv : Value) (S : PS) (w : World) (ha : AsksT w kv K) (hp : At t w pb S) (hBw : B ≤ w.heap.size) :
    Calls Tryz.prog 92 #[.pointer (some ⟨pb, 0, none⟩), kv] w fun e w' =>
      Ends t pb (kindP (toks t) n S) (fun e _ => e = .returned (tkV (cur (toks t) S)) ∧ (cur (toks t) S).kd = n) e w' ∧ KeepT B [102] w w' := by
  obtain ⟨hS, x, hx, h5, hb⟩ := hp
  refine (take_any t ht S.i x hx h5 K kv pb B w ha hb hB hBw).mono ?_
  rintro e w' ⟨h, hk⟩
  refine ⟨?_, hk⟩
  have hc := cur_is hx (-1)
  have h := kind_end hn (hK x (toks_kd hx h5).1) hx h
  rw [ps_eta hS] at h hc
  rw [hc]
  rcases h with ⟨h1, h2, h3, h4⟩ | h
  · exact .inl ⟨⟨by rw [h2], by rw [h2]; exact h4⟩, h1, h3⟩
  · exact .inr h
theorem num_at (t : Bs) (ht : t.length ≤ 2000) (pb B : Nat) (hB : B ≤ pb) (S : PS) (w : World) (hp : At t w pb S) (hBw : B ≤ w.heap.size) :
    Calls Tryz.prog 92 #[.pointer (some ⟨pb, 0, none⟩), .func (.func 105) #[] #[]] w fun e w' =>
      Ends t pb (kindP (toks t) 2 S) (fun e _ => e = .returned (tkV (cur (toks t) S)) ∧ (cur (toks t) S).kd = 2) e w' ∧ KeepT B [102] w w' :=
  taken_at t ht pb B hB numB 2 (by decide) (fun x h => h.num) _ S w (asks_num w) hp hBw
theorem word_at (t : Bs) (ht : t.length ≤ 2000) (pb B : Nat) (hB : B ≤ pb) (S : PS) (w : World) (hp : At t w pb S) (hBw : B ≤ w.heap.size) :
    Calls Tryz.prog 92 #[.pointer (some ⟨pb, 0, none⟩), .func (.func 33) #[] #[]] w fun e w' =>
      Ends t pb (kindP (toks t) 1 S) (fun e _ => e = .returned (tkV (cur (toks t) S)) ∧ (cur (toks t) S).kd = 1) e w' ∧ KeepT B [102] w w' :=
  taken_at t ht pb B hB wordB 1 (by decide) (fun x h => h.word) _ S w (asks_word w) hp hBw
theorem is_at (t : Bs) (pb : Nat) (k : Bs) (hk : kwB k = true) (S : PS) (w : World) (hp : At t w pb S) :
    Calls Tryz.prog 77 #[.pointer (some ⟨pb, 0, none⟩), sv k] w fun e w' => e = .returned (.bool (isP (toks t) k S)) ∧ w = w' := by
  obtain ⟨hS, x, hx, h5, hb⟩ := hp
  refine (is_any t k x pb w hb).mono ?_
  rintro e w' ⟨rfl, rfl⟩
  refine ⟨?_, rfl⟩
  have hc := cur_is hx (-1)
  rw [ps_eta hS] at hc
  congr 2
  unfold isP
  rw [hc, hS, Bool.eq_iff_iff, decide_eq_true_iff, decide_eq_true_iff]
  have hk := kw_of hk
  have := (toks_kd hx h5).1.kw k hk.2 hk.1
  exact ⟨fun q => ⟨ng1, (this.1 q).1, q⟩, fun q => q.2.2⟩

theorem keep_new {B : Nat} {w0 w : World} (h : KeepT B [102] w0 w) (hB : B ≤ w0.heap.size) (o : Obj) : KeepT B [102] w0 (w.alloc o) := keepT_alloc h hB o
theorem keep_then {B : Nat} {w0 w w' : World} (h : KeepT B [102] w0 w) (k : KeepT B [102] w w') : KeepT B [102] w0 w' := h.trans k

set_option maxHeartbeats 1000000 in
set_option maxRecDepth 100000 in
theorem setting_any (t : Bs) (ht : t.length ≤ 2000) (pb B : Nat) (hB : B ≤ pb) (k : Bs) (hk : kwB k = true) (S : PS) (w : World) (hp : At t w pb S) (hBw : B ≤ w.heap.size) :
    Calls Tryz.prog 94 #[.pointer (some ⟨pb, 0, none⟩), sv k] w fun e w' =>
      Ends t pb (oneP (toks t) k S).2 (fun e _ => e = .returned (tkV (cur (toks t) (mustP (toks t) k S))) ∧ (cur (toks t) (mustP (toks t) k S)).kd = 2) e w' ∧ KeepT B [102] w w' := by
  have HE := hideIt (fun k hk S W hp hBw => expect_at t ht pb B hB k hk S W hp hBw)
  have HN := hideIt (fun S W hp hBw => num_at t ht pb B hB S W hp hBw)
  have HP := hideIt hp
  have HW := hideIt hBw
  have HKW := hideIt hk
  obtain ⟨S1, hS1⟩ : ∃ S1, S1 = mustP (toks t) k S := ⟨_, rfl⟩
  obtain ⟨S2, hS2⟩ : ∃ S2, S2 = kindP (toks t) 2 S1 := ⟨_, rfl⟩
  have hS3 : (oneP (toks t) k S).2 = mustP (toks t) [59] S2 := by rw [hS2, hS1]; rfl
  rw [hS3, ← hS1]
  have H1 := hideIt hS1
  have H2 := hideIt hS2
  have hlt := hp.lt
  have HK := hideIt (keep_new (KeepT.refl B [102] w) hBw (.cells #[.int .i64 0, .string ⟨#[]⟩] 77))
  have HR0 := hideIt (Blk.new w 77 [.int .i64 0, .string ⟨#[]⟩])
  have HP0 := hideIt (hp.new (.cells #[.int .i64 0, .string ⟨#[]⟩] 77))
  clear hp hBw hk hS1 hS2 hS3 ht
  go_enter Tryz.func94, Tryz.ntmps94
  go_wp2_with (first
    | (go_at_call 66; refine (HE.out [59] rfl S2 _ (hp2.new _) (Nat.le_trans HW.out (Nat.le_trans HK.out.size (keep_new HK2.out (Nat.le_trans HW.out HK.out.size) _).size))).mono ?_; rintro e w3 ⟨h, hk⟩; have HK3 := hideIt (keep_then (keep_new HK2.out (Nat.le_trans HW.out HK.out.size) _) hk); have hA := HR0.out.keepT HK3.out (by decide); have hN := (Blk.new w2 77 (tkC (cur (toks t) S1))).keepT hk (by decide); have d0 : w3.cell? ⟨w.heap.size, 0, none⟩ = _ := hA.cell 0; have d1 : w3.cell? ⟨w.heap.size, 1, none⟩ = _ := hA.cell 1; have d2 : w3.cell? ⟨w2.heap.size, 0, none⟩ = _ := hN.cell 0; have d3 : w3.cell? ⟨w2.heap.size, 1, none⟩ = _ := hN.cell 1; have f0 := hA.free 0; have f1 := hA.free 1; have HA := hideIt hA; clear hA hN hk; rcases h with ⟨hp3, rfl, _⟩ | ⟨rfl, h3⟩)
    | (go_at_call 66; refine (HE.out k HKW.out S _ HP0.out (Nat.le_trans HW.out HK.out.size)).mono ?_; rintro e w1 ⟨⟨hp1, rfl, h⟩ | ⟨rfl, h⟩, hk1⟩ <;> have HK1 := hideIt hk1 <;> clear hk1)
    | (go_at_call 92; refine (HN.out S1 _ (H1.out ▸ hp1) (Nat.le_trans HW.out (Nat.le_trans HK.out.size HK1.out.size))).mono ?_; rw [← H2.out]; rintro e w2 ⟨⟨hp2, rfl, h2⟩ | ⟨rfl, h2⟩, hk2⟩ <;> have HK2 := hideIt (keep_then HK1.out hk2) <;> clear hk2))
  · have hbw : Below w.heap.size w3 ((w3.setCell ⟨w.heap.size, 0, none⟩ (.int .i64 ((cur (toks t) S1).ps : Int))).setCell ⟨w.heap.size, 1, none⟩ (.string (ss (cur (toks t) S1).tx))) :=
      below_set (below_set (Below.refl _ _) (Nat.le_refl _) _ _) (Nat.le_refl _) _ _
    have hbk := (HA.out.store 0 (.int .i64 ((cur (toks t) S1).ps : Int))).store 1 (.string (ss (cur (toks t) S1).tx))
    refine bodyPost_ret (res_cell rfl _ _ w.heap.size _ _ _ rfl hbk Tryz.underlying77 rfl itk) rfl ⟨.inl ⟨hp3.kept hbw hlt, rfl, h2⟩, ?_⟩
    exact (keep_then HK.out HK3.out).since hbw HW.out
  · exact ⟨rfl, .inr ⟨rfl, h3⟩, keep_then HK.out HK3.out⟩
  · refine ⟨rfl, .inr ⟨rfl, ?_⟩, keep_then HK.out HK2.out⟩
    obtain ⟨y, hy, hd⟩ := h2
    exact ⟨y, hy, dead_must hd _⟩
  · refine ⟨rfl, .inr ⟨rfl, ?_⟩, keep_then HK.out HK1.out⟩
    obtain ⟨y, hy, hd⟩ := h
    rw [← H1.out] at hd
    refine ⟨y, hy, dead_must ?_ _⟩
    rw [H2.out]
    exact dead_kind hd (by decide)

end Go.Proofs.YtcogkdnlpjfgdaaGreatDoor
