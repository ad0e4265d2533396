/-
  Parse, walked.
-/
import Derived.Test.YtcogkdnlpjfgdaaGreatDoorCodF
namespace Go.Proofs.YtcogkdnlpjfgdaaGreatDoor
open Go.RowKit
set_option linter.unusedVariables false
set_option linter.unusedSimpArgs false

/-- How a code, an offset and an error are handed back. -/
def CodeF (C : Nat) (r : Cd × Int × Int) (e : Ending) (w' : World) : Prop :=
  (r.2.2 = 0 ∧ ∃ A c, e = .returned (.tuple #[cdV r.1.name r.1.field r.1.data (.slice A r.1.par.length c) r.1.dom, .int .i64 r.2.1, .int .i64 r.2.2]) ∧ PR w' C (.slice A r.1.par.length c) r.1.par) ∨
  (r.2.2 ≠ 0 ∧ e = .returned (.tuple #[cdV [] 0 0 (.slice none 0 0) 0, .int .i64 r.2.1, .int .i64 r.2.2]))

theorem DefsR.def_ {w : World} {C B : Nat} {v : Value} {xs : List Df} (h : DefsR w C B v xs) {j : Nat} (hj : j < xs.length) :
    ∃ (g c : Nat) (m1 : Int) (m2 : Bs) (Av : Option Addr) (nv cv : Nat), v = .slice (some ⟨g, 0, none⟩) xs.length c ∧ g < w.heap.size ∧
      (∀ k u, [Value.int .i64 ((xs[j]).nm.ps : Int), sv (xs[j]).nm.tx, .int .i64 ((xs[j]).f.ps : Int), sv (xs[j]).f.tx, .int .i64 ((xs[j]).d.ps : Int), sv (xs[j]).d.tx, .int .i64 m1, sv m2, .slice Av nv cv][k]? = some u → w.cell? ⟨g, j * 9 + k, none⟩ = some u) ∧
      [.int .i64 m1, sv m2] = dmC (xs[j]).dm ∧ nv = (xs[j]).rows.length ∧ RowsR w B B (.slice Av nv cv) (xs[j]).rows := by
  obtain ⟨css, ho, ha⟩ := h
  obtain ⟨cs, hc, hd⟩ := All2.at_ ha (List.getElem?_eq_getElem hj)
  have hlen : ∀ (xs : List Df) (css : List (List Value)), All2 (DefR w B) xs css → ∀ (j : Nat) (cs : List Value), css[j]? = some cs → ∀ k u, cs[k]? = some u → css.flatten[j * 9 + k]? = some u := by
    intro xs
    induction xs with
    | nil =>
      intro css h j cs hj
      cases css with
      | nil => simp at hj
      | cons c css => exact h.elim
    | cons x xs ih =>
      intro css h j cs hj k u hk
      cases css with
      | nil => exact h.elim
      | cons c css =>
        have hc9 := h.1.len
        cases j with
        | zero =>
          injection hj with hj
          subst hj
          rw [List.flatten_cons, Nat.zero_mul, Nat.zero_add, List.getElem?_append_left (List.getElem?_eq_some_iff.1 hk).1]
          exact hk
        | succ j =>
          have hj' : css[j]? = some cs := hj
          rw [List.flatten_cons, List.getElem?_append_right (by omega), show (j + 1) * 9 + k - c.length = j * 9 + k by omega]
          exact ih css h.2 j cs hj' k u hk
  obtain ⟨rv, rfl, hr⟩ := hd
  obtain ⟨rcss, hro, hra⟩ := hr
  obtain ⟨Av, cv, rfl, _⟩ := own_form hro
  have hdm : ∃ m1 m2, dmC (xs[j]).dm = [.int .i64 m1, sv m2] := by
    cases (xs[j]).dm with
    | none => exact ⟨0, [], rfl⟩
    | some m => exact ⟨_, _, rfl⟩
  obtain ⟨m1, m2, hdm⟩ := hdm
  rcases ho.2 with ⟨rfl, h0⟩ | ⟨g, cap, cur, rfl, _, hg, _, _, _, ht⟩
  · omega
  · refine ⟨g, cap, m1, m2, Av, _, cv, rfl, (Array.getElem?_eq_some_iff.1 hg).1, fun k u hu => ?_, hdm.symm, rfl, rcss, hro, hra⟩
    have hx := World.ownsRow.cells ho (g := g) rfl (j * 9 + k) u (hlen xs css ha j _ hc k u (by unfold dfC; rw [hdm]; exact hu))
    rwa [addr_add, Nat.zero_add] at hx

theorem single_enters : Enters Tryz.prog 44 := enters_of Tryz.func44 (by kernel_rfl) rfl
theorem list_enters : Enters Tryz.prog 49 := enters_of Tryz.func49 (by kernel_rfl) rfl

theorem def_hN {t : Bs} {S : PS} (h : (defP (toks t) S).2.bad < 0) (hl : t.length ≤ 2000) : (∀ x ∈ (defP (toks t) S).1.rows, (∀ y ∈ x.a, NumT y) ∧ (∀ y ∈ x.b, NumT y) ∧ x.a.length ≤ 100000 ∧ x.b.length ≤ 100000) ∧ (defP (toks t) S).1.rows.length ≤ 100000 := by
  have hg := def_good h
  have ht := (toks_of t).2.2
  refine ⟨fun x hx => ?_, by have := hg.lrows; omega⟩
  have hr := hg.rows x hx
  exact ⟨fun y hy => numT_k (hr.a y hy), fun y hy => numT_k (hr.b y hy), by have := hr.la; omega, by have := hr.lb; omega⟩
theorem PR.low {w : World} {B C : Nat} {v : Value} {par : List (List Int)} (h : PR w C v par) (hBC : B ≤ C) : PR w B v par := by
  obtain ⟨vs, h1, h2⟩ := h
  exact ⟨vs, own_low h1 hBC, All2.imp (fun l u ⟨A, c, h3, h4⟩ => ⟨A, c, h3, own_low h4 hBC⟩) h2⟩

set_option maxHeartbeats 1000000 in
set_option maxRecDepth 100000 in
theorem parse_any (t : Bs) (w : World) : Calls Tryz.prog 18 #[sv t] w fun e w' => CodeF w.heap.size (parseC t) e w' ∧ Below w.heap.size w w' := by
  have ZC := Blk.new w 24 [.string ⟨#[]⟩, .int .i64 0, .int .i64 0, .slice none 0 0, .int .i64 0]
  have HB0 := hideIt (below_new w (.cells #[.string ⟨#[]⟩, .int .i64 0, .int .i64 0, .slice none 0 0, .int .i64 0] 24))
  have HRD := hideIt (read_any t 44 single_enters (defP (toks t) ⟨0, -1⟩).2 [(defP (toks t) ⟨0, -1⟩).1] (w.alloc (.cells #[.string ⟨#[]⟩, .int .i64 0, .int .i64 0, .slice none 0 0, .int .i64 0] 24)) (fun A h => dead_defP h) (fun ht pb W hB hp hW => single_any t ht pb _ hB ⟨0, -1⟩ W hp hW))
  have HZ := hideIt ZC
  have HDN := hideIt (fun (h : (defP (toks t) ⟨0, -1⟩).2.bad < 0) (hl : t.length ≤ 2000) => def_hN h hl)
  have HCA := hideIt (fun (m1 : Int) (m2 : Bs) (Av : Option Addr) (nv cv : Nat) (W : World) (hdm : [Value.int .i64 m1, sv m2] = dmC (defP (toks t) ⟨0, -1⟩).1.dm) (hnv : nv = (defP (toks t) ⟨0, -1⟩).1.rows.length) (hr : RowsR W (w.heap.size + 1) (w.heap.size + 1) (.slice Av nv cv) (defP (toks t) ⟨0, -1⟩).1.rows) (hN : (∀ x ∈ (defP (toks t) ⟨0, -1⟩).1.rows, (∀ y ∈ x.a, NumT y) ∧ (∀ y ∈ x.b, NumT y) ∧ x.a.length ≤ 100000 ∧ x.b.length ≤ 100000) ∧ (defP (toks t) ⟨0, -1⟩).1.rows.length ≤ 100000) (hbd : (defP (toks t) ⟨0, -1⟩).2.bad < 0) =>
    code_any (defP (toks t) ⟨0, -1⟩).1.nm (defP (toks t) ⟨0, -1⟩).1.f (defP (toks t) ⟨0, -1⟩).1.d (numT_k (def_good hbd).f) (numT_k (def_good hbd).d) m1 m2 Av nv cv (defP (toks t) ⟨0, -1⟩).1.rows hnv (defP (toks t) ⟨0, -1⟩).1.dm hdm (fun m hm => numT_k ((def_good hbd).m m hm)) (w.heap.size + 1) W hr hN.1 hN.2)
  have hne := fun x => i_neq 25 .i64 x 0
  obtain ⟨r, hr⟩ : ∃ r, r = parseC t := ⟨_, rfl⟩
  rw [← hr]
  have HR := hideIt (hr.trans (parse_is t))
  obtain ⟨xs, hxs⟩ : ∃ xs, xs = defP (toks t) ⟨0, -1⟩ := ⟨_, rfl⟩
  rw [← hxs] at HR HDN HCA HRD
  obtain ⟨xd, sd⟩ := xs
  have hsz : (w.alloc (.cells #[.string ⟨#[]⟩, .int .i64 0, .int .i64 0, .slice none 0 0, .int .i64 0] 24)).heap.size = w.heap.size + 1 := by simp
  rw [hsz] at HRD
  dsimp only at HR HDN HCA HRD
  clear ZC hr hxs hsz
  go_enter Tryz.func18, Tryz.ntmps18
  go_wp2_with (first
    | (go_at_call 45; refine (HCA.out _ _ _ _ _ _ HDM.out HNV.out HRW.out HLN.out HBD.out).mono ?_; rintro e w2 ⟨⟨h0, A3, c3, rfl, hp⟩ | ⟨h0, rfl⟩, hb⟩ <;> have hz2 := HZ1.out.kept hb HZ1.out.lt <;> have r0 := hz2.cell 0 <;> have r1 := hz2.cell 1 <;> have r2 := hz2.cell 2 <;> have r3 := hz2.cell 3 <;> have r4 := hz2.cell 4 <;> have z0 := hz2.free 0 <;> have z1 := hz2.free 1 <;> have z2 := hz2.free 2 <;> have z3 := hz2.free 3 <;> have z4 := hz2.free 4 <;> have HZ2 := hideIt hz2 <;> have HB2 := hideIt hb <;> have H0 := hideIt h0 <;> clear hz2 hb h0 <;> try (have HP_ := hideIt hp; clear hp))
    | (go_at_call 43; go_loud (refine HRD.out.mono ?_); rintro e w1 ⟨h, hb⟩; have HB1 := hideIt hb; have hz1 := HZ.out.kept hb (Nat.lt_succ_self _); have r0 := hz1.cell 0; have r1 := hz1.cell 1; have r2 := hz1.cell 2; have r3 := hz1.cell 3; have r4 := hz1.cell 4; have z0 := hz1.free 0; have z1 := hz1.free 1; have z2 := hz1.free 2; have z3 := hz1.free 3; have z4 := hz1.free 4; have HZ1 := hideIt hz1; clear hb hz1; rcases h with ⟨hq, rfl⟩ | ⟨hl, hq, rfl⟩ | ⟨hl, hq, A, c, rfl, hd⟩ <;> have HQ := hideIt hq <;> (try have HL := hideIt hl) <;> clear hq <;> (try clear hl) <;> try (obtain ⟨g, c0, m1, m2, Av, nv, cv, hA, hg, hcell, hdm, hnv, hrw⟩ := hd.def_ (j := 0) (by simp); injection hA with hA _ hc; subst hA hc; have d0 : w1.cell? ⟨g, 0, none⟩ = some (.int .i64 (xd.nm.ps : Int)) := hcell 0 _ rfl; have d1 : w1.cell? ⟨g, 1, none⟩ = some (.string (ss xd.nm.tx)) := hcell 1 _ rfl; have d2 : w1.cell? ⟨g, 2, none⟩ = some (.int .i64 (xd.f.ps : Int)) := hcell 2 _ rfl; have d3 : w1.cell? ⟨g, 3, none⟩ = some (.string (ss xd.f.tx)) := hcell 3 _ rfl; have d4 : w1.cell? ⟨g, 4, none⟩ = some (.int .i64 (xd.d.ps : Int)) := hcell 4 _ rfl; have d5 : w1.cell? ⟨g, 5, none⟩ = some (.string (ss xd.d.tx)) := hcell 5 _ rfl; have d6 : w1.cell? ⟨g, 6, none⟩ = some (.int .i64 m1) := hcell 6 _ rfl; have d7 : w1.cell? ⟨g, 7, none⟩ = some (.string (ss m2)) := hcell 7 _ rfl; have d8 : w1.cell? ⟨g, 8, none⟩ = some (.slice Av nv cv) := hcell 8 _ rfl; have HDM := hideIt hdm; have HNV := hideIt hnv; have HRW := hideIt hrw; have hbad := (kindP_ok HQ.out).1; have HLN := hideIt (HDN.out hbad HL.out); have HBD := hideIt hbad; clear hd hcell hdm hnv hrw hbad)))
  · have HP : Hid (r = (cd0, 0, 2)) := HR.out.trans (if_pos HQ.out)
    have hz := zero_put (B := w.heap.size) HZ1.out (Nat.le_refl _) (.string ⟨#[]⟩) (.int .i64 0) (.int .i64 0) (.slice none 0 0) (.int .i64 0)
    rw [HP.out]
    exact bodyPost_ret (res_code rfl _ _ w.heap.size _ _ _ rfl hz.1 Tryz.underlying24 rfl icd) rfl ⟨.inr ⟨two_ne, rfl⟩, (HB0.out.trans (HB1.out.mono (Nat.le_succ _))).trans hz.2⟩
  · have HP : Hid (r = (cd0, (kindP (toks t) 4 sd).bad, 3)) := HR.out.trans ((if_neg (by have := HL.out; omega)).trans (if_pos HQ.out))
    have hz := zero_put (B := w.heap.size) HZ1.out (Nat.le_refl _) (.string ⟨#[]⟩) (.int .i64 0) (.int .i64 0) (.slice none 0 0) (.int .i64 0)
    rw [HP.out]
    exact bodyPost_ret (res_code rfl _ _ w.heap.size _ _ _ rfl hz.1 Tryz.underlying24 rfl icd) rfl ⟨.inr ⟨(by decide : (3 : Int) ≠ 0), rfl⟩, (HB0.out.trans (HB1.out.mono (Nat.le_succ _))).trans hz.2⟩
  · have HP : Hid (r = ((codeD xd).1, ((codeD xd).2.1 : Int), (codeD xd).2.2)) := HR.out.trans ((if_neg (by have := HL.out; omega)).trans (if_neg (by have := HQ.out; omega)))
    have H1 : Hid ((codeD xd).2.2 = 0) := H0
    have HPP : Hid (PR w2 w1.heap.size (.slice A3 (codeD xd).1.par.length c3) (codeD xd).1.par) := HP_
    have hz := zero_put (B := w.heap.size) HZ2.out (Nat.le_refl _) (.string (ss (codeD xd).1.name)) (.int .i64 (codeD xd).1.field) (.int .i64 (codeD xd).1.data) (.slice A3 (codeD xd).1.par.length c3) (.int .i64 (codeD xd).1.dom)
    have ho := codeD_ok H1.out
    rw [HP.out, H1.out, ho]
    have hb1 := HB1.out.size
    refine bodyPost_ret (res_code rfl _ _ w.heap.size _ _ _ rfl hz.1 Tryz.underlying24 rfl icd) rfl ⟨.inl ⟨rfl, A3, c3, rfl, ?_⟩, ((HB0.out.trans (HB1.out.mono (Nat.le_succ _))).trans (HB2.out.mono (by simp at hb1; omega))).trans hz.2⟩
    have b0 := HZ2.out
    have b1 := b0.store 0 (.string (ss (codeD xd).1.name))
    have b2 := b1.store 1 (.int .i64 (codeD xd).1.field)
    have b3 := b2.store 2 (.int .i64 (codeD xd).1.data)
    have b4 := b3.store 3 (.slice A3 (codeD xd).1.par.length c3)
    have hp := HPP.out.low (B := w.heap.size) (by simp at hb1; omega)
    exact (((((hp.set b0 (by decide) (by decide) 0 _).set b1 (by decide) (by decide) 1 _).set b2 (by decide) (by decide) 2 _).set b3 (by decide) (by decide) 3 _).set b4 (by decide) (by decide) 4 _)
  · have HP : Hid (r = ((codeD xd).1, ((codeD xd).2.1 : Int), (codeD xd).2.2)) := HR.out.trans ((if_neg (by have := HL.out; omega)).trans (if_neg (by have := HQ.out; omega)))
    have H1 : Hid ((codeD xd).2.2 ≠ 0) := H0
    have hz := zero_put (B := w.heap.size) HZ2.out (Nat.le_refl _) (.string ⟨#[]⟩) (.int .i64 0) (.int .i64 0) (.slice none 0 0) (.int .i64 0)
    have hb1 := HB1.out.size
    rw [HP.out]
    exact bodyPost_ret (res_code rfl _ _ w.heap.size _ _ _ rfl hz.1 Tryz.underlying24 rfl icd) rfl ⟨.inr ⟨H1.out, rfl⟩, ((HB0.out.trans (HB1.out.mono (Nat.le_succ _))).trans (HB2.out.mono (by simp at hb1; omega))).trans hz.2⟩

end Go.Proofs.YtcogkdnlpjfgdaaGreatDoor
