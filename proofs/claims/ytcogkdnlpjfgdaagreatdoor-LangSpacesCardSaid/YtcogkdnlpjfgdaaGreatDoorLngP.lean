/-
  The program's parser, walked: take, expect, setting.
-/
import Derived.Test.YtcogkdnlpjfgdaaGreatDoorLngO
namespace Go.Proofs.YtcogkdnlpjfgdaaGreatDoor
open Go.RowKit
set_option linter.unusedVariables false
set_option linter.unusedSimpArgs false

theorem res_cell {P : Program} {fn : Func} {p : Tmp} {T : TypeId} (h : fn.results = #[.cell p T]) (tmps : Array Value) (w : World) (g : Nat) (ty : TypeId) (cs : List Value) (d : TypeDesc)
    (hp : tmps.getD p undef = .pointer (some ⟨g, 0, none⟩)) (hg : Blk w g ty cs) (hu : P.underlying T = some d) (hd : d.isRow = true) (hi : (P.info? T).map (·.size) = some cs.length) :
    (results fn tmps).run P w = .ok (.agg cs.toArray) w := by
  have hl := run_loadVar_mid (P := P) w g 0 T cs d (fun j v hv => by rw [hg.cell, Nat.zero_add]; exact hv) hu hd hi
  have ha : ∀ W, (asAddr (.pointer (some ⟨g, 0, none⟩))).run P W = .ok ⟨g, 0, none⟩ W := fun _ => rfl
  simp only [results, h]
  simp only [List.mapM_cons, List.mapM_nil, hp, bind_pure_comp, map_pure, Array.mapM_eq_mapM_toList]
  simp [Sem.run_bind, ha, hl, Result.andThen]
theorem below_set {B g : Nat} {a w : World} (h : Below B a w) (hg : B ≤ g) (i : Nat) (u : Value) : Below B a (w.setCell ⟨g, i, none⟩ u) := h.setCell (p := ⟨g, i, none⟩) hg u
theorem itk : (Tryz.prog.info? 77).map (·.size) = some 2 := by kernel_rfl
theorem irw : (Tryz.prog.info? 107).map (·.size) = some 4 := by kernel_rfl
theorem idf : (Tryz.prog.info? 80).map (·.size) = some 9 := by kernel_rfl
theorem PT.kept {w w' : World} {pb i B : Nat} {t : Bs} (h : PT w pb t i) (hb : Below B w w') (hB : pb < B) : PT w' pb t i := by
  obtain ⟨x, h1, h2, h3⟩ := h
  exact ⟨x, h1, h2, h3.kept hb hB⟩

/-- How take ends: at token x (number i) and the answer kb. -/
def TPost (t : Bs) (pb i : Nat) (x : Tk) (kb : Bool) (e : Ending) (w' : World) : Prop :=
  (kb = true ∧ e = .returned (tkV x) ∧ (x.kd ≤ 3 → PT w' pb t (i + 1))) ∨
  (e = pan ∧ ∃ y, Blk w' pb 102 (prC t y) ∧ ((kb = false ∧ y = x) ∨ (kb = true ∧ x.kd ≤ 3 ∧ (toks t)[i + 1]? = some y ∧ y.kd = 5)))

theorem toks_end {t : Bs} {i : Nat} {x : Tk} (hx : (toks t)[i]? = some x) (h4 : x.kd = 4) : t.drop (x.ps + x.tx.length) = [] ∧ x.ps + x.tx.length ≤ t.length := by
  obtain ⟨q, hq, rfl, _⟩ := toks_step hx
  obtain ⟨e1, e2, e3⟩ := nextS_rest t q hq
  refine ⟨?_, e3⟩
  rw [← e1]
  have h := (tokS_of (gapD (t.drop q)) (q + skp false (t.drop q))).2.2.2.2.2.2.2.1 h4
  rw [h]; rfl
theorem toks_le {t : Bs} {i : Nat} {x : Tk} (hx : (toks t)[i]? = some x) : x.ps + x.tx.length ≤ t.length := by
  obtain ⟨q, hq, rfl, _⟩ := toks_step hx
  exact (nextS_rest t q hq).2.2
theorem toks_kd {t : Bs} {i : Nat} {x : Tk} (hx : (toks t)[i]? = some x) (h5 : x.kd ≠ 5) : TokK x ∧ 1 ≤ x.kd ∧ x.kd ≤ 4 := by
  obtain ⟨q, hq, rfl, _⟩ := toks_step hx
  have := nextS_of (t.drop q) q
  exact ⟨nextS_kind _ _ h5, this.1.k1, by have := this.1.k5; omega⟩
theorem nextS_nil (p : Nat) : (nextS [] p).kd = 4 := rfl

set_option maxHeartbeats 1000000 in
set_option maxRecDepth 100000 in
theorem take_any (t : Bs) (ht : t.length ≤ 2000) (i : Nat) (x : Tk) (hx : (toks t)[i]? = some x) (h5 : x.kd ≠ 5) (K : Bs → Bool) (kv : Value) (pb B : Nat) (w : World) (hK : AsksT w kv K) (hb : Blk w pb 102 (prC t x)) (hB : B ≤ pb) (hBw : B ≤ w.heap.size) :
    Calls Tryz.prog 92 #[.pointer (some ⟨pb, 0, none⟩), kv] w fun e w' => TPost t pb i x (K x.tx) e w' ∧ KeepT B [102] w w' := by
  obtain ⟨f, caps, rfl, hen, hdo⟩ := hK
  unfold Enters at hen
  have hle := toks_le hx
  have hxl : x.tx.length ≤ 2000 := by omega
  have HD := hideIt (fun W h => hdo W h x.tx hxl)
  have c1 : w.cell? ⟨pb, 1, none⟩ = some (.int .i64 (x.ps : Int)) := hb.cell 1
  have c2 : w.cell? ⟨pb, 2, none⟩ = some (sv x.tx) := hb.cell 2
  have hlt := hb.lt
  have HB := hideIt hb
  have hnx : Hid (∀ W, Blk W pb 102 (prC t x) → B ≤ W.heap.size → Calls Tryz.prog 65 #[.pointer (some ⟨pb, 0, none⟩)] W fun e w' =>
      ((x.kd ≤ 3 → PT w' pb t (i + 1)) ∧ e = .returned (.tuple #[]) ∨ e = pan ∧ ∃ y, Blk w' pb 102 (prC t y) ∧ x.kd ≤ 3 ∧ (toks t)[i + 1]? = some y ∧ y.kd = 5) ∧ KeepT B [102] W w') := by
    intro W hW hBW
    refine (next_any t ht (x.ps + x.tx.length) hle pb _ _ rfl rfl B W hW hB hBW).mono ?_
    rintro e w' ⟨h, hbb, hk⟩
    refine ⟨?_, hk⟩
    obtain ⟨_, k1, k4⟩ := toks_kd hx h5
    by_cases h3 : x.kd ≤ 3
    · obtain ⟨_, _, _, hs⟩ := toks_step hx
      have hs := hs h3
      rcases h with ⟨n5, rfl⟩ | ⟨n5, rfl⟩
      · exact .inl ⟨fun _ => ⟨_, hs, n5, hbb⟩, rfl⟩
      · exact .inr ⟨rfl, _, hbb, h3, hs, n5⟩
    · have h4 := toks_end hx (by omega)
      rw [h4.1] at h
      rcases h with ⟨n5, rfl⟩ | ⟨n5, _⟩
      · exact .inl ⟨fun h => absurd h h3, rfl⟩
      · rw [nextS_nil] at n5; exact absurd n5 (by decide)
  clear hdo hb hle hxl hx h5 ht
  obtain ⟨kb, hkb⟩ : ∃ kb, kb = K x.tx := ⟨_, rfl⟩
  rw [← hkb] at HD ⊢
  clear hkb
  have HNX := hnx
  clear hnx
  have HA : Hid (Below w.heap.size w ((w.alloc (.cells #[.int .i64 0, .string ⟨#[]⟩] 77)).alloc (.cells #[.int .i64 (x.ps : Int), .string (ss x.tx)] 77))) :=
    ((Below.refl _ _).alloc (Nat.le_refl _) _).alloc (by simp) _
  have HA4 : Hid (Blk ((w.alloc (.cells #[.int .i64 0, .string ⟨#[]⟩] 77)).alloc (.cells #[.int .i64 (x.ps : Int), .string (ss x.tx)] 77)) w.heap.size 77 [.int .i64 0, .string ⟨#[]⟩]) :=
    (Blk.new w 77 [.int .i64 0, .string ⟨#[]⟩]).alloc _
  have HA5 : Hid (Blk ((w.alloc (.cells #[.int .i64 0, .string ⟨#[]⟩] 77)).alloc (.cells #[.int .i64 (x.ps : Int), .string (ss x.tx)] 77)) (w.heap.size + 1) 77 [.int .i64 (x.ps : Int), .string (ss x.tx)]) := by
    have h := Blk.new (w.alloc (.cells #[.int .i64 0, .string ⟨#[]⟩] 77)) 77 [.int .i64 (x.ps : Int), .string (ss x.tx)]
    rw [show (w.alloc (.cells #[.int .i64 0, .string ⟨#[]⟩] 77)).heap.size = w.heap.size + 1 by simp] at h
    exact h
  cases kb with
  | false =>
    go_enter Tryz.func92, Tryz.ntmps92
    go_wp2_with (go_at_fn f; refine (HD.out _ HA.out).mono ?_; rintro e w' ⟨rfl, hw⟩; have HW := hideIt hw; clear hw)
    have hb := HA.out.trans (HW.out.mono HA.out.size)
    exact ⟨rfl, .inr ⟨rfl, x, HB.out.kept hb hlt, .inl ⟨rfl, rfl⟩⟩, KeepT.of_below hb hBw⟩
  | true =>
    go_enter Tryz.func92, Tryz.ntmps92
    go_wp2_with (first
      | (go_at_fn f; refine (HD.out _ HA.out).mono ?_; rintro e w' ⟨rfl, hw⟩; have HW := hideIt hw; clear hw)
      | (go_at_call 65; refine (HNX.out _ (HB.out.kept (HA.out.trans (HW.out.mono HA.out.size)) hlt) (Nat.le_trans hBw (HA.out.trans (HW.out.mono HA.out.size)).size)).mono ?_; rintro e w2 ⟨h, hk⟩; have hA4 := (HA4.out.kept HW.out HA4.out.lt).keepT hk (by decide); have hA5 := (HA5.out.kept HW.out HA5.out.lt).keepT hk (by decide); have d0 : w2.cell? ⟨w.heap.size, 0, none⟩ = _ := hA4.cell 0; have d1 : w2.cell? ⟨w.heap.size, 1, none⟩ = _ := hA4.cell 1; have d2 : w2.cell? ⟨w.heap.size + 1, 0, none⟩ = _ := hA5.cell 0; have d3 : w2.cell? ⟨w.heap.size + 1, 1, none⟩ = _ := hA5.cell 1; have f0 := hA4.free 0; have f1 := hA4.free 1; have H4 := hideIt hA4; have HK := hideIt hk; clear hA4 hA5 hk; rcases h with ⟨h, rfl⟩ | ⟨rfl, h⟩ <;> have HH := hideIt h <;> clear h))
    · have hbw : Below w.heap.size w2 ((w2.setCell ⟨w.heap.size, 0, none⟩ (.int .i64 (x.ps : Int))).setCell ⟨w.heap.size, 1, none⟩ (.string (ss x.tx))) :=
        below_set (below_set (Below.refl _ _) (Nat.le_refl _) _ _) (Nat.le_refl _) _ _
      have hbk : Blk ((w2.setCell ⟨w.heap.size, 0, none⟩ (.int .i64 (x.ps : Int))).setCell ⟨w.heap.size, 1, none⟩ (.string (ss x.tx))) w.heap.size 77 [.int .i64 (x.ps : Int), .string (ss x.tx)] := (H4.out.store 0 _).store 1 _
      refine bodyPost_ret (res_cell rfl _ _ w.heap.size _ _ _ rfl hbk Tryz.underlying77 rfl itk) rfl ⟨.inl ⟨rfl, rfl, fun h3 => (HH.out h3).kept hbw hlt⟩, ?_⟩
      exact ((KeepT.of_below (HA.out.trans (HW.out.mono HA.out.size)) hBw).trans HK.out).since hbw hBw
    · exact ⟨rfl, .inr ⟨rfl, by obtain ⟨y, h1, h2, h3, h4⟩ := HH.out; exact ⟨y, h1, .inr ⟨rfl, h2, h3, h4⟩⟩⟩, (KeepT.of_below (HA.out.trans (HW.out.mono HA.out.size)) hBw).trans HK.out⟩

/-- The three kinds that the parser asks for. -/
theorem asks_word (w : World) : AsksT w (.func (.func 33) #[] #[]) wordB :=
  ⟨_, _, rfl, enters_of Tryz.func33 (by kernel_rfl) rfl, fun w' _ x _ => isWord_any x w'⟩
theorem asks_num (w : World) : AsksT w (.func (.func 105) #[] #[]) numB :=
  ⟨_, _, rfl, enters_of Tryz.func105 (by kernel_rfl) rfl, fun w' _ x _ => isNumber_any x w'⟩
set_option maxHeartbeats 400000 in
theorem same_any (k x : Bs) (g : Nat) (w : World) (hg : w.cell? ⟨g, 0, none⟩ = some (sv k)) :
    Calls Tryz.prog 93 #[sv x, .pointer (some ⟨g, 0, none⟩)] w fun e w' => e = .returned (.bool (decide (x = k))) ∧ w = w' := by
  have he := s_eql 9 x k
  go_enter Tryz.func93, Tryz.ntmps93
  go_wp2_with fail
  go_ret
  exact ⟨rfl, rfl⟩
theorem asks_same (k : Bs) (g : Nat) (w : World) (hg : w.cell? ⟨g, 0, none⟩ = some (sv k)) (hl : g < w.heap.size) : AsksT w (.func (.func 93) #[] #[.pointer (some ⟨g, 0, none⟩)]) (fun x => decide (x = k)) :=
  ⟨_, _, rfl, enters_of Tryz.func93 (by kernel_rfl) rfl, fun w' hb x _ =>
    (same_any k x g w' ((hb.cell (p := ⟨g, 0, none⟩) hl).trans hg)).mono fun e w'' ⟨h1, h2⟩ => ⟨h1, h2 ▸ Below.refl _ _⟩⟩

theorem ng1 : (-1 : Int) < 0 := by decide
/-- A word or a sign of the grammar. -/
def KwB (k : Bs) : Prop := k ≠ [] ∧ ∀ c y, k = c :: y → digB c = false
theorem must_end {t : Bs} {pb i : Nat} {x : Tk} {k : Bs} (hk : KwB k) (hx : (toks t)[i]? = some x) (h5 : x.kd ≠ 5) {e : Ending} {w' : World} (h : TPost t pb i x (decide (x.tx = k)) e w') :
    (e = .returned (tkV x) ∧ mustP (toks t) k ⟨i, -1⟩ = ⟨i + 1, -1⟩ ∧ isP (toks t) k ⟨i, -1⟩ = true ∧ PT w' pb t (i + 1)) ∨
    (e = pan ∧ ∃ y, Blk w' pb 102 (prC t y) ∧ Dead (toks t) (mustP (toks t) k ⟨i, -1⟩) y.ps) := by
  obtain ⟨kd, k1, k4⟩ := toks_kd hx h5
  have hc := cur_is hx (-1)
  have his : isP (toks t) k ⟨i, -1⟩ = decide (x.tx = k) := by
    unfold isP
    rw [hc, Bool.eq_iff_iff, decide_eq_true_iff, decide_eq_true_iff]
    have := kd.kw k hk.2 hk.1
    exact ⟨fun q => q.2.2, fun q => ⟨ng1, (this.1 q).1, q⟩⟩
  rcases h with ⟨h1, rfl, h3⟩ | ⟨rfl, y, hy, h⟩
  · rw [h1] at his
    have hkd := (kd.kw k hk.2 hk.1).1 (of_decide_eq_true h1)
    exact .inl ⟨rfl, by unfold mustP; rw [his]; rfl, his, h3 (by omega)⟩
  · refine .inr ⟨rfl, y, hy, ?_⟩
    rcases h with ⟨h1, rfl⟩ | ⟨h1, h3, hn, h5'⟩
    · rw [h1] at his
      unfold mustP
      rw [his, if_neg (by simp)]
      unfold failP
      rw [if_pos ng1, hc]
      exact .inl ⟨Int.natCast_nonneg _, rfl⟩
    · rw [h1] at his
      unfold mustP
      rw [his, if_pos rfl]
      refine .inr ⟨ng1, ?_, ?_⟩
      · rw [cur_is hn]; exact h5'
      · rw [cur_is hn]
theorem kind_end {t : Bs} {pb i : Nat} {x : Tk} {K : Bs → Bool} {n : Nat} (hn3 : n ≤ 3) (hK : K x.tx = true ↔ x.kd = n) (hx : (toks t)[i]? = some x) {e : Ending} {w' : World} (h : TPost t pb i x (K x.tx) e w') :
    (e = .returned (tkV x) ∧ kindP (toks t) n ⟨i, -1⟩ = ⟨i + 1, -1⟩ ∧ x.kd = n ∧ PT w' pb t (i + 1)) ∨
    (e = pan ∧ ∃ y, Blk w' pb 102 (prC t y) ∧ Dead (toks t) (kindP (toks t) n ⟨i, -1⟩) y.ps) := by
  have hc := cur_is hx (-1)
  rcases h with ⟨h1, rfl, h3⟩ | ⟨rfl, y, hy, h⟩
  · have h1 := hK.1 h1
    exact .inl ⟨rfl, by unfold kindP; rw [hc, if_pos ⟨ng1, h1⟩], h1, h3 (by omega)⟩
  · refine .inr ⟨rfl, y, hy, ?_⟩
    rcases h with ⟨h1, rfl⟩ | ⟨h1, h3, hn, h5'⟩
    · have h1 : ¬ y.kd = n := fun q => by rw [hK.2 q] at h1; exact absurd h1 (by decide)
      unfold kindP
      rw [hc, if_neg (fun q => h1 q.2)]
      unfold failP
      rw [if_pos ng1, hc]
      exact .inl ⟨Int.natCast_nonneg _, rfl⟩
    · unfold kindP
      rw [hc, if_pos ⟨ng1, hK.1 h1⟩]
      refine .inr ⟨ng1, ?_, ?_⟩
      · rw [cur_is hn]; exact h5'
      · rw [cur_is hn]

/-- A parser's function, called at token i: it goes on as f does. -/
def Goes (t : Bs) (pb B : Nat) (i : Nat) (s' : PS) (V : Value → World → Prop) (w : World) (e : Ending) (w' : World) : Prop :=
  ((∃ v, e = .returned v ∧ s' = ⟨s'.i, -1⟩ ∧ i ≤ s'.i ∧ V v w' ∧ PT w' pb t s'.i) ∨ (e = pan ∧ ∃ y, Blk w' pb 102 (prC t y) ∧ Dead (toks t) s' y.ps)) ∧ KeepT B [102] w w'

set_option maxHeartbeats 1000000 in
set_option maxRecDepth 100000 in
theorem expect_any (t : Bs) (ht : t.length ≤ 2000) (k : Bs) (hk : KwB k) (i pb B : Nat) (w : World) (hp : PT w pb t i) (hB : B ≤ pb) (hBw : B ≤ w.heap.size) :
    Calls Tryz.prog 66 #[.pointer (some ⟨pb, 0, none⟩), sv k] w fun e w' =>
      ((e = .returned (.tuple #[]) ∧ mustP (toks t) k ⟨i, -1⟩ = ⟨i + 1, -1⟩ ∧ isP (toks t) k ⟨i, -1⟩ = true ∧ PT w' pb t (i + 1)) ∨
        (e = pan ∧ ∃ y, Blk w' pb 102 (prC t y) ∧ Dead (toks t) (mustP (toks t) k ⟨i, -1⟩) y.ps)) ∧ KeepT B [102] w w' := by
  obtain ⟨x, hx, h5, hb⟩ := hp
  have hA : Below w.heap.size w (w.alloc (.cells #[.string (ss k)] 9)) := (Below.refl _ _).alloc (Nat.le_refl _) _
  have HT := hideIt (take_any t ht i x hx h5 _ _ pb B _ (asks_same k w.heap.size (w.alloc (.cells #[.string (ss k)] 9)) ((Blk.new w 9 [.string (ss k)]).cell 0) (by simp)) (hb.kept hA hb.lt) hB (Nat.le_trans hBw hA.size))
  have HM := hideIt (fun e w' h => must_end (w' := w') (pb := pb) (e := e) hk hx h5 h)
  have HK0 := hideIt (KeepT.of_below (ts := [102]) hA hBw)
  have hmf : ∀ (fn : Fn) (first cap : Array Value) (w : World), (Instr.makeFunc fn first cap).run Tryz.prog w = .ok (.func fn first cap) w := fun _ _ _ _ => rfl
  clear hx h5 hb hA hk
  go_enter Tryz.func66, Tryz.ntmps66
  go_wp2_with (go_at_call 92; refine HT.out.mono ?_; rintro e w' ⟨h, hk⟩; have HK := hideIt hk; have h2 := HM.out e w' h; clear h hk; rcases h2 with ⟨rfl, h⟩ | ⟨rfl, h⟩ <;> have HH := hideIt h <;> clear h)
  · go_end0
    exact ⟨.inl ⟨rfl, HH.out⟩, HK0.out.trans HK.out⟩
  · exact ⟨rfl, .inr ⟨rfl, HH.out⟩, HK0.out.trans HK.out⟩

end Go.Proofs.YtcogkdnlpjfgdaaGreatDoor
