/-
  The program's parser, walked: single, list, the end.
-/
import Derived.Test.YtcogkdnlpjfgdaaGreatDoorLngV
namespace Go.Proofs.YtcogkdnlpjfgdaaGreatDoor
open Go.RowKit
set_option linter.unusedVariables false
set_option linter.unusedSimpArgs false

/-- Definitions in memory. -/
def DefsR (w : World) (C B : Nat) (v : Value) (xs : List Df) : Prop :=
  ∃ css : List (List Value), w.ownsRow C 80 9 v xs.length css.flatten ∧ All2 (DefR w B) xs css
theorem DefR.len {w : World} {B : Nat} {x : Df} {cs : List Value} (h : DefR w B x cs) : cs.length = 9 := by
  obtain ⟨v, rfl, _⟩ := h
  unfold dfC dmC
  cases x.dm <;> rfl
theorem DefR.form {w : World} {B : Nat} {x : Df} {cs : List Value} (h : DefR w B x cs) : ∃ (a0 : Int) (a1 : Bs) (a2 : Int) (a3 : Bs) (a4 : Int) (a5 : Bs) (a6 : Int) (a7 : Bs) (A : Option Addr) (n c : Nat),
    cs = [.int .i64 a0, sv a1, .int .i64 a2, sv a3, .int .i64 a4, sv a5, .int .i64 a6, sv a7, .slice A n c] := by
  obtain ⟨v, rfl, css, h1, _⟩ := h
  obtain ⟨A, c, rfl, _⟩ := own_form h1
  unfold dfC dmC
  cases x.dm with
  | none => exact ⟨_, _, _, _, _, _, 0, [], _, _, _, rfl⟩
  | some m => exact ⟨_, _, _, _, _, _, _, _, _, _, _, rfl⟩
theorem DefR.imp {w w' : World} {B : Nat} (hT : ∀ v l, TkS w B v l → TkS w' B v l) (ho : ∀ v n ys, w.ownsRow B 107 4 v n ys → w'.ownsRow B 107 4 v n ys) (x : Df) (cs : List Value) (h : DefR w B x cs) : DefR w' B x cs := by
  obtain ⟨v, rfl, hr⟩ := h
  exact ⟨v, rfl, hr.imp hT (fun ys n h => ho _ _ _ h)⟩
theorem DefsR.imp {w w' : World} {C B : Nat} {v : Value} {xs : List Df} (hT : ∀ v l, TkS w B v l → TkS w' B v l) (ho : ∀ v n ys, w.ownsRow B 107 4 v n ys → w'.ownsRow B 107 4 v n ys)
    (hd : ∀ n ys, w.ownsRow C 80 9 v n ys → w'.ownsRow C 80 9 v n ys) (h : DefsR w C B v xs) : DefsR w' C B v xs := by
  obtain ⟨css, h1, h2⟩ := h
  exact ⟨css, hd _ _ h1, All2.imp (DefR.imp hT ho) h2⟩
theorem DefsR.keepT {w w' : World} {C B B' : Nat} {v : Value} {xs : List Df} (h : DefsR w C B v xs) (hk : KeepT B' [102] w w') : DefsR w' C B v xs :=
  h.imp (fun v l h => h.keepT hk) (fun v n ys h => own_keepT h hk (by decide)) (fun n ys h => own_keepT h hk (by decide))
theorem DefsR.alloc {w : World} {C B : Nat} {v : Value} {xs : List Df} (h : DefsR w C B v xs) (o : Obj) : DefsR (w.alloc o) C B v xs :=
  h.imp (fun v l h => World.ownsRow.alloc h o) (fun v n ys h => h.alloc o) (fun n ys h => h.alloc o)
theorem DefsR.set {w : World} {C B g : Nat} {v : Value} {xs : List Df} {t : TypeId} {cs : List Value} (hr : DefsR w C B v xs) (hb : Blk w g t cs) (h1 : t ≠ 77) (h2 : t ≠ 107) (h3 : t ≠ 80) (i : Nat) (u : Value) : DefsR (w.setCell ⟨g, i, none⟩ u) C B v xs :=
  hr.imp (fun v l h => own_set h hb h1 i u) (fun v n ys h => own_set h hb h2 i u) (fun n ys h => own_set h hb h3 i u)
theorem DefR.alloc {w : World} {B : Nat} {x : Df} {cs : List Value} (h : DefR w B x cs) (o : Obj) : DefR (w.alloc o) B x cs :=
  DefR.imp (fun v l h => World.ownsRow.alloc h o) (fun v n ys h => h.alloc o) x cs h
theorem DefsR.one {w : World} {C B : Nat} {x : Df} {cs : List Value} (hr : DefR w B x cs) (hB : C ≤ w.heap.size) : DefsR (w.alloc (.cells cs.toArray 80)) C B (.slice (some ⟨w.heap.size, 0, none⟩) 1 1) [x] :=
  ⟨[cs], by
    have := own_new w C hB 80 cs 9 hr.len
    simpa using this, hr.alloc _, trivial⟩
theorem DefsR.snoc {w w' : World} {C B : Nat} {v v' : Value} {xs : List Df} {x : Df} {css : List (List Value)} {cs : List Value} (h1 : w.ownsRow C 80 9 v xs.length css.flatten) (h2 : All2 (DefR w B) xs css) (hr : DefR w B x cs)
    (hg : w.grownBy w' v.ownBlock) (ho : w'.ownsRow C 80 9 v' (xs.length + 1) (css.flatten ++ cs)) : DefsR w' C B v' (xs ++ [x]) := by
  have hT : ∀ u l, TkS w B u l → TkS w' B u l := fun u l h => World.ownsRow.kept h hg (own_apart h h1 (by decide))
  have hR : ∀ u n ys, w.ownsRow B 107 4 u n ys → w'.ownsRow B 107 4 u n ys := fun u n ys h => World.ownsRow.kept h hg (own_apart h h1 (by decide))
  exact ⟨css ++ [cs], by rw [List.length_append, List.flatten_append]; simpa using ho, All2.snoc (DefR.imp hT hR _ _ hr) (All2.imp (DefR.imp hT hR) h2)⟩
theorem DefsR.low {w : World} {C C' B : Nat} {v : Value} {xs : List Df} (hr : DefsR w C B v xs) (h : C' ≤ C) : DefsR w C' B v xs := by
  obtain ⟨css, h1, h2⟩ := hr
  exact ⟨css, own_low h1 h, h2⟩

/-- Definitions up to the end of the text, as a plain function. -/
def defsG (l : List Tk) : Nat → PS → List Df → List Df × PS
  | 0, s, out => (out, s)
  | f + 1, s, out => if s.bad < 0 ∧ (cur l s).kd ≠ 4 then defsG l f (defP l s).2 (out ++ [(defP l s).1]) else (out, s)
theorem dead_defP {l : List Tk} {S : PS} {A : Nat} (h : Dead l S A) : Dead l (defP l S).2 A := by
  have := dead_codeP h
  rw [codeP_def] at this
  exact this
theorem dead_defsG {l : List Tk} {A : Nat} : ∀ (f : Nat) {s : PS} (out : List Df), Dead l s A → Dead l (defsG l f s out).2 A
  | 0, s, out, h => h
  | f + 1, s, out, h => by
    rw [defsG]
    split
    · exact dead_defsG f _ (dead_defP h)
    · exact h
theorem mono_fail (l : List Tk) (s : PS) : (failP l s).i = s.i := by unfold failP; split <;> rfl
theorem mono_must (l : List Tk) (k : Bs) (s : PS) : s.i ≤ (mustP l k s).i := by
  unfold mustP
  split
  · exact Nat.le_succ _
  · rw [mono_fail]; exact Nat.le_refl _
theorem mono_kind (l : List Tk) (n : Nat) (s : PS) : s.i ≤ (kindP l n s).i := by
  unfold kindP
  split
  · exact Nat.le_succ _
  · rw [mono_fail]; exact Nat.le_refl _
theorem mono_numsG (l : List Tk) : ∀ (f : Nat) (s : PS) (out : List Tk), s.i ≤ (numsG l f s out).2.i
  | 0, s, out => Nat.le_refl _
  | f + 1, s, out => by
    rw [numsG]
    split
    · exact Nat.le_trans (mono_kind l 2 s) (mono_numsG l f _ _)
    · exact Nat.le_refl _
theorem mono_one (l : List Tk) (k : Bs) (s : PS) : s.i ≤ (oneP l k s).2.i := Nat.le_trans (mono_must l k s) (Nat.le_trans (mono_kind l 2 _) (mono_must l _ _))
theorem mono_row (l : List Tk) (s : PS) : s.i ≤ (rowP l s).2.i := by
  have hn : ∀ s : PS, s.i ≤ (numsP l s).2.i := fun s => Nat.le_trans (mono_kind l 2 s) (mono_numsG l _ _ _)
  unfold rowP
  split
  · exact Nat.le_trans (mono_must l kLocal s) (Nat.le_trans (hn _) (Nat.le_trans (mono_must l _ _) (Nat.le_trans (hn _) (mono_must l _ _))))
  · exact Nat.le_trans (mono_must l kParity s) (Nat.le_trans (hn _) (mono_must l _ _))
theorem mono_rows (l : List Tk) : ∀ (f : Nat) (b : Bool) (s : PS) (out : List Ln), s.i ≤ (rowsG l f b s out).2.i
  | 0, b, s, out => Nat.le_refl _
  | f + 1, b, s, out => by
    rw [rowsG]
    split
    · exact Nat.le_trans (mono_row l s) (mono_rows l f _ _ _)
    · exact Nat.le_refl _
theorem def_i {l : List Tk} {S : PS} (h : (defP l S).2.bad = -1) : S.i < (defP l S).2.i := by
  have h1 := mustP_ok (show (mustP l [125] (dE l (dR l S).2).2).bad < 0 by rw [show (mustP l [125] (dE l (dR l S).2).2).bad = -1 from h]; decide)
  have h2 : (defP l S).2.i = (dE l (dR l S).2).2.i + 1 := by
    show (mustP l [125] (dE l (dR l S).2).2).i = _
    rw [h1.2.2]
  have h3 : (dR l S).2.i ≤ (dE l (dR l S).2).2.i := by
    unfold dE
    split
    · exact mono_one l _ _
    · exact Nat.le_refl _
  have h4 : S.i ≤ (dR l S).2.i :=
    Nat.le_trans (mono_must l kCode S) (Nat.le_trans (mono_kind l 1 _) (Nat.le_trans (mono_must l _ _) (Nat.le_trans (mono_one l _ _) (Nat.le_trans (mono_one l _ _) (mono_rows l _ _ _ _)))))
  omega

theorem definition_sl (t : Bs) (ht : t.length ≤ 2000) (pb B : Nat) (hB : B ≤ pb) (S : PS) (w : World) (hp : At t w pb S) (hBw : B ≤ w.heap.size) :
    Calls Tryz.prog 67 #[.pointer (some ⟨pb, 0, none⟩)] w fun e w' =>
      Ends t pb (defP (toks t) S).2 (fun e w' => ∃ (a0 : Int) (a1 : Bs) (a2 : Int) (a3 : Bs) (a4 : Int) (a5 : Bs) (a6 : Int) (a7 : Bs) (A : Option Addr) (n c : Nat),
        e = .returned (.agg #[.int .i64 a0, sv a1, .int .i64 a2, sv a3, .int .i64 a4, sv a5, .int .i64 a6, sv a7, .slice A n c]) ∧ DefR w' B (defP (toks t) S).1 [.int .i64 a0, sv a1, .int .i64 a2, sv a3, .int .i64 a4, sv a5, .int .i64 a6, sv a7, .slice A n c]) e w' ∧ KeepT B [102] w w' := by
  refine (definition_any t ht pb B hB S w hp hBw).mono ?_
  rintro e w' ⟨h, hk⟩
  refine ⟨?_, hk⟩
  rcases h with ⟨h1, cs, rfl, h2⟩ | h
  · obtain ⟨a0, a1, a2, a3, a4, a5, a6, a7, A, n, c, rfl⟩ := h2.form
    exact .inl ⟨h1, a0, a1, a2, a3, a4, a5, a6, a7, A, n, c, rfl, h2⟩
  · exact .inr h

/-- What a grammar hands back. -/
def GramV (B : Nat) (xs : List Df) (e : Ending) (w' : World) : Prop := ∃ A c, e = .returned (.slice A xs.length c) ∧ DefsR w' B B (.slice A xs.length c) xs
set_option maxHeartbeats 1000000 in
set_option maxRecDepth 100000 in
theorem single_any (t : Bs) (ht : t.length ≤ 2000) (pb B : Nat) (hB : B ≤ pb) (S : PS) (w : World) (hp : At t w pb S) (hBw : B ≤ w.heap.size) :
    Calls Tryz.prog 44 #[.pointer (some ⟨pb, 0, none⟩)] w fun e w' =>
      Ends t pb (defP (toks t) S).2 (GramV B [(defP (toks t) S).1]) e w' ∧ KeepT B [102] w w' := by
  have HD := hideIt (definition_sl t ht pb B hB S w hp hBw)
  have HW := hideIt hBw
  have hlt := hp.lt
  generalize defP (toks t) S = D at *
  clear hp hBw
  go_enter Tryz.func44, Tryz.ntmps44
  go_wp2_with (go_at_call 67; refine HD.out.mono ?_; rintro e w1 ⟨⟨hp1, a0, a1, a2, a3, a4, a5, a6, a7, A, n, c, rfl, hr1⟩ | ⟨rfl, h1⟩, hk1⟩ <;> have HK1 := hideIt hk1 <;> clear hk1)
  · go_ret
    exact ⟨.inl ⟨hp1.new _, _, _, rfl, DefsR.one hr1 (Nat.le_trans HW.out HK1.out.size)⟩, keep_new HK1.out HW.out _⟩
  · exact ⟨rfl, .inr ⟨rfl, h1⟩, HK1.out⟩

theorem end_at (t : Bs) (pb : Nat) (S : PS) (w : World) (hp : At t w pb S) :
    Calls Tryz.prog 77 #[.pointer (some ⟨pb, 0, none⟩), .string ⟨#[]⟩] w fun e w' => e = .returned (.bool (decide ((cur (toks t) S).kd = 4))) ∧ w = w' := by
  obtain ⟨hS, x, hx, h5, hb⟩ := hp
  refine (is_any t [] x pb w hb).mono ?_
  rintro e w' ⟨rfl, rfl⟩
  refine ⟨?_, rfl⟩
  have hc := cur_is hx (-1)
  rw [ps_eta hS] at hc
  congr 2
  rw [hc, Bool.eq_iff_iff, decide_eq_true_iff, decide_eq_true_iff]
  exact (toks_kd hx h5).1.fin

set_option maxHeartbeats 1000000 in
set_option maxRecDepth 100000 in
theorem list_any (t : Bs) (ht : t.length ≤ 2000) (pb B : Nat) (hB : B ≤ pb) (S : PS) (w : World) (hp : At t w pb S) (hBw : B ≤ w.heap.size) (hS0 : S.i = 0) :
    Calls Tryz.prog 49 #[.pointer (some ⟨pb, 0, none⟩)] w fun e w' =>
      Ends t pb (defsG (toks t) ((toks t).length + 1) S []).2 (GramV B (defsG (toks t) ((toks t).length + 1) S []).1) e w' ∧ KeepT B [102] w w' := by
  obtain ⟨i0, hi, hz0, hz1, hz2⟩ := info_three (show (Tryz.prog.info? 80).map (fun i => (i.zero, i.size, i.bytes)) = some (some (.agg #[.int .i64 0, .string ⟨#[]⟩, .int .i64 0, .string ⟨#[]⟩, .int .i64 0, .string ⟨#[]⟩, .int .i64 0, .string ⟨#[]⟩, .slice none 0 0]), 9, 120) by kernel_rfl)
  have HD := hideIt (fun S W hp hBw => definition_sl t ht pb B hB S W hp hBw)
  have HEN := hideIt (fun S W hp => end_at t pb S W hp)
  have HTL : Hid ((toks t).length ≤ 2001) := by have := (toks_of t).2.2; exact (by omega : (toks t).length ≤ 2001)
  have HW := hideIt hBw
  have hlt := hp.lt
  have HP := hideIt hp
  obtain ⟨R, hR⟩ : ∃ R, R = defsG (toks t) ((toks t).length + 1) S [] := ⟨_, rfl⟩
  rw [← hR]
  have HR := hideIt hR
  have HS0 := hideIt hS0
  clear hp hBw hR ht hS0
  go_enter Tryz.func49, Tryz.ntmps49
  go_wp2_with fail
  go_loopg [3] ((toks t).length + 1) (fun gk s3 wr => ∃ (S' : PS) (out : List Df) (A : Option Addr) (c : Nat), s3 = .slice A out.length c ∧ Aside (defsG (toks t) gk S' out = R ∧ At t wr pb S' ∧ DefsR wr w.heap.size B (.slice A out.length c) out ∧ KeepT B [102] w wr ∧ out.length ≤ S'.i ∧ (toks t).length + 1 ≤ gk + S'.i))
  case atStart => exact ⟨S, [], none, 0, rfl, HR.out.symm, HP.out, ⟨[], World.ownsRow_nil _ _ _ _, trivial⟩, KeepT.refl _ _ _, Nat.zero_le _, by omega⟩
  case round =>
    obtain ⟨S', out, A, c, rfl, HI⟩ := hrel
    obtain ⟨_, _, hil, _, _, _⟩ := HI.out.2.1.cur
    have hplt := HI.out.2.1.lt
    have HRL := hideIt HI.out.2.2.2.2.1
    have HGL := hideIt HI.out.2.2.2.2.2
    have hol : out.length ≤ 2001 := by have := HTL.out; have := HRL.out; omega
    have HE := hideIt (HEN.out S' wr HI.out.2.1)
    by_cases h4 : (cur (toks t) S').kd = 4
    · rw [decide_eq_true h4] at HE
      have HST : Hid (R = (out, S')) := by
        have := HI.out.1
        obtain ⟨g, hg⟩ : ∃ g, gk = g + 1 := ⟨gk - 1, by have := HGL.out; omega⟩
        rw [hg, defsG, if_neg (fun q => q.2 h4)] at this
        exact this.symm
      clear h4
      go_wp2_with (go_at_call 77; refine HE.out.mono ?_; rintro e w' ⟨rfl, rfl⟩)
      go_ret
      have hR := HST.out
      subst hR
      exact ⟨.inl ⟨HI.out.2.1, A, c, rfl, HI.out.2.2.1.low HW.out⟩, HI.out.2.2.2.1⟩
    · rw [decide_eq_false h4] at HE
      obtain ⟨g, hg⟩ : ∃ g, gk = g + 1 := ⟨gk - 1, by have := HGL.out; omega⟩
      have HG := hideIt hg
      obtain ⟨x, hx⟩ : ∃ x, x = (defP (toks t) S').1 := ⟨_, rfl⟩
      obtain ⟨T', hT'⟩ : ∃ T', T' = (defP (toks t) S').2 := ⟨_, rfl⟩
      have HST : Hid (defsG (toks t) g T' (out ++ [x]) = R) := by
        have := HI.out.1
        rw [hg, defsG, if_pos ⟨by rw [HI.out.2.1.1]; decide, h4⟩, ← hx, ← hT'] at this
        exact this
      have HDX := hideIt (fun W => HD.out S' W)
      rw [← hx, ← hT'] at HDX
      have HTI : Hid (T'.bad = -1 → S'.i < T'.i) := fun h => by rw [hT'] at h ⊢; exact def_i h
      clear hx hT' hg h4
      go_wp2_with (first
        | (go_at_call 77; refine HE.out.mono ?_; rintro e w' ⟨rfl, rfl⟩)
        | (go_at_call 67; refine (HDX.out _ HI.out.2.1 (Nat.le_trans HW.out HI.out.2.2.2.1.size)).mono ?_; rintro e w1 ⟨⟨hp1, a0, a1, a2, a3, a4, a5, a6, a7, A1, n1, c1, rfl, hr1⟩ | ⟨rfl, h1⟩, hk1⟩ <;> have HDS1 := hideIt (HI.out.2.2.1.keepT hk1) <;> have HK1 := hideIt (keep_then HI.out.2.2.2.1 hk1) <;> clear hk1 <;> (try (obtain ⟨css, hown, hall⟩ := HDS1.out.alloc (.cells #[.int .i64 a0, sv a1, .int .i64 a2, sv a3, .int .i64 a4, sv a5, .int .i64 a6, sv a7, .slice A1 n1 c1] 80); have HOWN := hideIt hown; have HALL := hideIt hall; have HR1 := hideIt (hr1.alloc (.cells #[.int .i64 a0, sv a1, .int .i64 a2, sv a3, .int .i64 a4, sv a5, .int .i64 a6, sv a7, .slice A1 n1 c1] 80)); clear hown hall; have hb1 := HK1.out.size)))
        | ((with_reducible refine at_append ?_); refine wpList_app2 rfl (.tmp 7) (.tmp 10) 70 rfl w.heap.size 80 i0 (.agg #[.int .i64 0, .string ⟨#[]⟩, .int .i64 0, .string ⟨#[]⟩, .int .i64 0, .string ⟨#[]⟩, .int .i64 0, .string ⟨#[]⟩, .slice none 0 0]) 9 120 Tryz.underlying70 hi hz0 hz1 hz2 rfl (by decide) (.slice A out.length c) out.length css.flatten rfl HOWN.out _ _ 1 1 [.int .i64 a0, sv a1, .int .i64 a2, sv a3, .int .i64 a4, sv a5, .int .i64 a6, sv a7, .slice A1 n1 c1] rfl (sl_cells w1 80 [.int .i64 a0, sv a1, .int .i64 a2, sv a3, .int .i64 a4, sv a5, .int .i64 a6, sv a7, .slice A1 n1 c1] 9 rfl) (by intro u hu; simp only [List.mem_cons, List.not_mem_nil, or_false] at hu; rcases hu with rfl | rfl | rfl | rfl | rfl | rfl | rfl | rfl | rfl <;> rfl) (by unfold maxLen; omega) (by omega) (by simp; omega) ?_; intro v2 w2 ho2 hg2; obtain ⟨A2, c2, rfl, _, _⟩ := own_form ho2; have HO2 := hideIt ho2; have HG2 := hideIt hg2; clear ho2 hg2))
      · go_roundg g
        case measure => have := HG.out; omega
        case rel =>
          refine ⟨T', out ++ [x], A2, c2, by simp, HST.out, (hp1.new _).grown HOWN.out HG2.out (by decide), ?_, (keep_new HK1.out HW.out _).since (below_grown (Below.refl w.heap.size _) HOWN.out (Nat.le_refl _) (by simp; omega) HG2.out) HW.out, ?_, ?_⟩
          · have := DefsR.snoc HOWN.out HALL.out HR1.out HG2.out HO2.out
            simpa using this
          · have := HTI.out hp1.1; have := HRL.out; simp; omega
          · have := HTI.out hp1.1; have := HGL.out; have := HG.out; omega
      · refine ⟨rfl, .inr ⟨rfl, ?_⟩, HK1.out⟩
        obtain ⟨y, hy, hd⟩ := h1
        refine ⟨y, hy, ?_⟩
        rw [← HST.out]
        exact dead_defsG _ _ hd

end Go.Proofs.YtcogkdnlpjfgdaaGreatDoor
