/-
  ParseAll, walked.
-/
import Derived.Test.YtcogkdnlpjfgdaaGreatDoorCodH
namespace Go.Proofs.YtcogkdnlpjfgdaaGreatDoor
open Go.RowKit
set_option linter.unusedVariables false
set_option linter.unusedSimpArgs false

theorem sl_cells2 (w : World) (o : Obj) (ty : TypeId) (cs : List Value) (k : Nat) (h : cs.length = k) : Sl ((w.alloc o).alloc (.cells cs.toArray ty)) (w.heap.size + 1 + 1) (some ⟨w.heap.size + 1, 0, none⟩) k 1 cs := by
  have := sl_cells (w.alloc o) ty cs k h
  rw [show (w.alloc o).heap.size = w.heap.size + 1 by simp] at this
  exact this
/-- How codes, an offset and an error are handed back. -/
def AllE (C : Nat) (r : List Cd × Int × Int) (e : Ending) (w' : World) : Prop :=
  ∃ A c, e = .returned (.tuple #[.slice A r.1.length c, .int .i64 r.2.1, .int .i64 r.2.2]) ∧ CdsR w' C (.slice A r.1.length c) r.1
theorem AllE.none {C : Nat} {a b : Int} {w' : World} : AllE C ([], a, b) (.returned (.tuple #[.slice .none 0 0, .int .i64 a, .int .i64 b])) w' := ⟨.none, 0, rfl, CdsR.nil _ _⟩
theorem DefsR.kept {w w' : World} {C B : Nat} {v : Value} {xs : List Df} (h : DefsR w C B v xs) (hb : Below w.heap.size w w') : DefsR w' C B v xs :=
  h.imp (fun v l h => own_kept h hb) (fun v n ys h => own_kept h hb) (fun n ys h => own_kept h hb)
theorem RowsR.kept {w w' : World} {C B : Nat} {v : Value} {xs : List Ln} (h : RowsR w C B v xs) (hb : Below w.heap.size w w') : RowsR w' C B v xs :=
  h.imp (fun v l h => own_kept h hb) (fun ys n h => own_kept h hb)

/-- The closure: has a code the name of a definition? -/
theorem named_any (nm : Bs) (db : Nat) (x : Cd) (v : Value) (w : World) (hc : w.cell? ⟨db, 1, none⟩ = some (sv nm)) (hdb : db < w.heap.size) :
    Calls Tryz.prog 51 #[cdV x.name x.field x.data v x.dom, .pointer (some ⟨db, 0, none⟩)] w fun e w' => e = .returned (.bool (decide (x.name = nm))) ∧ Below w.heap.size w w' := by
  have heq := s_eql 9 x.name nm
  have ZC := Blk.new w 24 [.string (ss x.name), .int .i64 x.field, .int .i64 x.data, v, .int .i64 x.dom]
  have r0 := ZC.cell 0
  have hq : (w.alloc (.cells #[.string (ss x.name), .int .i64 x.field, .int .i64 x.data, v, .int .i64 x.dom] 24)).cell? ⟨db, 1, none⟩ = some (.string (ss nm)) := by
    rw [World.cell?_alloc_past _ _ _ hdb]; exact hc
  clear ZC hdb
  generalize decide (x.name = nm) = b at *
  go_enter Tryz.func51, Tryz.ntmps51
  go_wp2_with fail
  go_ret
  exact ⟨rfl, below_new w _⟩


set_option maxHeartbeats 2000000 in
set_option maxRecDepth 100000 in
theorem parseAll_any (t : Bs) (w : World) : Calls Tryz.prog 20 #[sv t] w fun e w' => AllE w.heap.size (parseAllC t) e w' ∧ Below w.heap.size w w' := by
  obtain ⟨i0, hi, hz0, hz1, hz2⟩ := info_three (show (Tryz.prog.info? 24).map (fun i => (i.zero, i.size, i.bytes)) = some (some (.agg #[.string ⟨#[]⟩, .int .i64 0, .int .i64 0, .slice none 0 0, .int .i64 0]), 5, 64) by kernel_rfl)
  have HRD := hideIt (read_any t 49 list_enters (defsG (toks t) ((toks t).length + 1) ⟨0, -1⟩ []).2 (defsG (toks t) ((toks t).length + 1) ⟨0, -1⟩ []).1 w (fun A h => dead_defsG _ _ h) (fun ht pb W hB hp hW => list_any t ht pb _ hB ⟨0, -1⟩ W hp hW rfl))
  have hne := fun x => i_neq 25 .i64 x 0
  obtain ⟨r, hr⟩ : ∃ r, r = parseAllC t := ⟨_, rfl⟩
  rw [← hr]
  have HR := hideIt (hr.trans (parseAll_is t))
  have HOK := hideIt (fun h => defs_ok t ((toks t).length + 1) ⟨0, -1⟩ [] (fun x hx => by simp at hx) h)
  have HLEN : Hid ((defsG (toks t) ((toks t).length + 1) ⟨0, -1⟩ []).1.length ≤ t.length + 2) := by
    have h1 := defsG_len (toks t) ((toks t).length + 1) ⟨0, -1⟩ []
    have h2 := (toks_of t).2.2
    simp at h1
    exact (by omega : (defsG (toks t) ((toks t).length + 1) ⟨0, -1⟩ []).1.length ≤ t.length + 2)
  obtain ⟨R, hR⟩ : ∃ R, R = defsG (toks t) ((toks t).length + 1) ⟨0, -1⟩ [] := ⟨_, rfl⟩
  rw [← hR] at HR HOK HRD HLEN
  obtain ⟨xs, sd⟩ := R
  dsimp only at HR HOK HRD HLEN
  have HW0 : Hid (w.heap.size ≤ w.heap.size) := Nat.le_refl _
  clear hr hR
  go_enter Tryz.func20, Tryz.ntmps20
  go_wp2_with (go_at_call 43; refine HRD.out.mono ?_; rintro e w1 ⟨h, hb⟩; have HB1 := hideIt hb; clear hb; rcases h with ⟨hq, rfl⟩ | ⟨hl, hq, rfl⟩ | ⟨hl, hq, A0, cc0, rfl, hd⟩ <;> have HQ := hideIt hq <;> (try have HL := hideIt hl) <;> clear hq <;> (try clear hl) <;> try (have HD := hideIt hd; clear hd))
  · refine bodyPost_ret (results_tmp3 rfl _ _ _) rfl ?_
    have HP := HR.out.trans (if_pos HQ.out)
    rw [HP]
    exact ⟨AllE.none, HB1.out⟩
  · refine bodyPost_ret (results_tmp3 rfl _ _ _) rfl ?_
    have HP := HR.out.trans ((if_neg (by have := HL.out; omega)).trans (if_pos HQ.out))
    rw [HP]
    exact ⟨AllE.none, HB1.out⟩
  · have HP : Hid (r = ((allD xs []).1, ((allD xs []).2.1 : Int), (allD xs []).2.2)) := HR.out.trans ((if_neg (by have := HL.out; omega)).trans (if_neg (by have := HQ.out; omega)))
    have HG : Hid (∀ x ∈ xs, ∃ S, x = (defP (toks t) S).1 ∧ (defP (toks t) S).2.bad < 0) := HOK.out (kindP_ok HQ.out).1
    obtain ⟨n, hn⟩ : ∃ n, n = xs.length := ⟨_, rfl⟩
    rw [← hn] at HD ⊢
    have HN := hideIt hn
    have hn2 : n ≤ 100000 := by have := HLEN.out; have := HL.out; omega
    have HW1 := hideIt HB1.out.size
    clear hn HR HOK HRD
    go_wp2_with fail
    go_loopg [8, 26] n (fun gk s8 s26 wr => ∃ (i : Nat) (out : List Cd) (A : Option Addr) (c : Nat), i + gk = n ∧ s8 = .slice A out.length c ∧ s26 = .int .i64 (i : Int) ∧ Aside (out.length = i ∧ i ≤ 8 ∧ allD xs [] = allD (xs.drop i) out ∧ Below w1.heap.size w1 wr ∧ CdsR wr w1.heap.size (.slice A out.length c) out))
    case atStart => exact ⟨0, [], none, 0, by omega, rfl, rfl, rfl, by omega, rfl, Below.refl _ _, CdsR.nil _ _⟩
    case round =>
      obtain ⟨i, out, A, c, hig, rfl, rfl, HI⟩ := hrel
      by_cases hlt : i < n
      · have hil : i < xs.length := by rw [← HN.out]; exact hlt
        have hdd := (HD.out.kept HI.out.2.2.2.1)
        rw [HN.out] at hdd
        obtain ⟨g, c9, m1, m2, Av, nv, cv, hA, hg, hcell, hdm, hnv, hrw⟩ := hdd.def_ hil
        have hA : A0 = some ⟨g, 0, none⟩ := by injection hA
        subst hA
        have d0 : wr.cell? ⟨g, i * 9, none⟩ = some (.int .i64 ((xs[i]).nm.ps : Int)) := hcell 0 _ rfl
        have d1 : wr.cell? ⟨g, i * 9 + 1, none⟩ = some (.string (ss (xs[i]).nm.tx)) := hcell 1 _ rfl
        have d2 : wr.cell? ⟨g, i * 9 + 2, none⟩ = some (.int .i64 ((xs[i]).f.ps : Int)) := hcell 2 _ rfl
        have d3 : wr.cell? ⟨g, i * 9 + 3, none⟩ = some (.string (ss (xs[i]).f.tx)) := hcell 3 _ rfl
        have d4 : wr.cell? ⟨g, i * 9 + 4, none⟩ = some (.int .i64 ((xs[i]).d.ps : Int)) := hcell 4 _ rfl
        have d5 : wr.cell? ⟨g, i * 9 + 5, none⟩ = some (.string (ss (xs[i]).d.tx)) := hcell 5 _ rfl
        have d6 : wr.cell? ⟨g, i * 9 + 6, none⟩ = some (.int .i64 m1) := hcell 6 _ rfl
        have d7 : wr.cell? ⟨g, i * 9 + 7, none⟩ = some (.string (ss m2)) := hcell 7 _ rfl
        have d8 : wr.cell? ⟨g, i * 9 + 8, none⟩ = some (.slice Av nv cv) := hcell 8 _ rfl
        obtain ⟨S, hS, hSb⟩ := HG.out _ (List.getElem_mem hil)
        have hgd := def_good hSb
        have hNN := def_hN hSb (by have := HL.out; omega)
        have hgf : NumT (xs[i]).f := by rw [hS]; exact numT_k hgd.f
        have hgdd : NumT (xs[i]).d := by rw [hS]; exact numT_k hgd.d
        have hgm : ∀ m, (xs[i]).dm = some m → NumT m := fun m hm => numT_k (hgd.m m (by rw [← hS]; exact hm))
        rw [← hS] at hNN
        have HDR := hideIt (List.drop_eq_getElem_cons hil)
        have hinc := inc_c 3 i (by omega)
        have hji : (i : Int) < (n : Int) := by omega
        have hRW := fun o => hrw.alloc (w := wr) o
        generalize xs[i] = x at *
        have HCA := hideIt (fun (W : World) (hr : RowsR W w.heap.size w.heap.size (.slice Av nv cv) x.rows) => code_any x.nm x.f x.d hgf hgdd m1 m2 Av nv cv x.rows hnv x.dm hdm hgm w.heap.size W hr hNN.1 hNN.2)
        obtain ⟨wb, hwb⟩ : ∃ W, W = wr.alloc (.cells #[.int .i64 (x.nm.ps : Int), .string (ss x.nm.tx), .int .i64 (x.f.ps : Int), .string (ss x.f.tx), .int .i64 (x.d.ps : Int), .string (ss x.d.tx), .int .i64 m1, .string (ss m2), .slice Av nv cv] 80) := ⟨_, rfl⟩
        have HXb : Hid (Below w1.heap.size w1 wb) := by rw [hwb]; exact HI.out.2.2.2.1.alloc HI.out.2.2.2.1.size _
        have HCb : Hid (CdsR wb w1.heap.size (.slice A out.length c) out) := by rw [hwb]; exact HI.out.2.2.2.2.alloc _
        have HDb : Hid (Blk wb wr.heap.size 80 [.int .i64 (x.nm.ps : Int), .string (ss x.nm.tx), .int .i64 (x.f.ps : Int), .string (ss x.f.tx), .int .i64 (x.d.ps : Int), .string (ss x.d.tx), .int .i64 m1, .string (ss m2), .slice Av nv cv]) := by rw [hwb]; exact Blk.new wr 80 [.int .i64 (x.nm.ps : Int), .string (ss x.nm.tx), .int .i64 (x.f.ps : Int), .string (ss x.f.tx), .int .i64 (x.d.ps : Int), .string (ss x.d.tx), .int .i64 m1, .string (ss m2), .slice Av nv cv]
        have HRb : Hid (RowsR wb w.heap.size w.heap.size (.slice Av nv cv) x.rows) := by rw [hwb]; exact hRW _
        have HWb := hideIt hwb
        have hol : out.length = i := HI.out.1
        have hi8 := HI.out.2.1
        clear hcell hdm hnv hrw hRW hgd hNN hS hSb hgf hgdd hgm hwb hdd hg
        by_cases h8 : (i : Int) ≥ 8
        · have HQQ : Hid (r = ([], (x.nm.ps : Int), 2)) := by
            have h : allD xs [] = ([], x.nm.ps, 2) := by
              rw [HI.out.2.2.1, HDR.out, allD, if_pos (by omega)]
            have := HP.out
            rw [h] at this
            exact this
          clear hol hi8
          go_wp2_with fail
          go_region
          go_wp2_with fail
          refine bodyPost_ret (results_tmp3 rfl _ _ _) rfl ?_
          rw [HQQ.out]
          refine ⟨AllE.none, ?_⟩
          have := HB1.out.trans (HXb.out.mono HW1.out)
          rw [HWb.out] at this
          exact this.drew
        · have hK : AsksC wb.heap.size wb (.func (.func 51) #[] #[.pointer (some ⟨wr.heap.size, 0, none⟩)]) (fun y => decide (y.name = x.nm.tx)) :=
            ⟨_, _, rfl, enters_of Tryz.func51 (by kernel_rfl) rfl, fun y A' c' W hW => named_any x.nm.tx wr.heap.size y _ W ((HDb.out.kept hW HDb.out.lt).cell 1) (HDb.out.kept hW HDb.out.lt).lt⟩
          have HCO := hideIt (containsC_any out (by omega) A c wb.heap.size _ _ wb HCb.out.cm (Nat.le_refl _) hK)
          clear hK
          have hmf : ∀ (fn : Fn) (first cap : Array Value) (w : World), (Instr.makeFunc fn first cap).run Tryz.prog w = .ok (.func fn first cap) w := fun _ _ _ _ => rfl
          have HOB : Hid (allD xs [] = if (out.any fun c => decide (c.name = x.nm.tx)) = true then ([], x.nm.ps, 4) else if (codeD x).2.2 ≠ 0 then ([], (codeD x).2.1, (codeD x).2.2) else allD (xs.drop (i + 1)) (out ++ [(codeD x).1])) := by
            have h := HI.out.2.2.1
            rw [HDR.out, allD] at h
            exact h.trans (if_neg (by omega))
          by_cases hq : (out.any fun c => decide (c.name = x.nm.tx)) = true
          · have HQQ : Hid (r = ([], (x.nm.ps : Int), 4)) := by
              have h := HOB.out.trans (if_pos hq)
              have := HP.out
              rw [h] at this
              exact this
            rw [hq] at HCO
            clear hol hi8 hq
            go_wp2_with (go_at_call 50; rw [← HWb.out]; refine HCO.out.mono ?_; rintro e w2 ⟨rfl, hb⟩; have hd2 := HDb.out.kept hb HDb.out.lt; have e0 := hd2.cell 0; have HX2 := hideIt (HXb.out.trans (hb.mono HXb.out.size)); clear hd2 hb)
            go_region
            go_wp2_with fail
            refine bodyPost_ret (results_tmp3 rfl _ _ _) rfl ?_
            rw [HQQ.out]
            exact ⟨AllE.none, (HB1.out.trans (HX2.out.mono HW1.out)).drew⟩
          · have HQ1 := hideIt hq
            rw [Bool.not_eq_true] at hq
            rw [hq] at HCO
            have HOL := hideIt hol
            have hlo : out.length < 8 := by omega
            clear hq hol hi8
            obtain ⟨y, hy⟩ : ∃ y, y = codeD x := ⟨_, rfl⟩
            rw [← hy] at HOB
            have HCA' : Hid (∀ (W : World), RowsR W w.heap.size w.heap.size (.slice Av nv cv) x.rows → Calls Tryz.prog 45 #[.agg #[.int .i64 (x.nm.ps : Int), .string (ss x.nm.tx), .int .i64 (x.f.ps : Int), .string (ss x.f.tx), .int .i64 (x.d.ps : Int), .string (ss x.d.tx), .int .i64 m1, .string (ss m2), .slice Av nv cv]] W fun e w' => CodeE W.heap.size y e w' ∧ Below W.heap.size W w') := by
              rw [hy]; exact HCA.out
            have hny := i_neq 25 .i64 y.2.2 0
            have hn0 : binOp .neq 25 (.int .i64 0) (.int .i64 0) = pure (.bool false) := i_neq 25 .i64 0 0
            clear hy HCA hne
            go_wp2_with (first
              | ((with_reducible refine at_append ?_); refine wpList_app2 rfl (.tmp 52) (.tmp 54) 34 rfl w1.heap.size 24 i0 (.agg #[.string ⟨#[]⟩, .int .i64 0, .int .i64 0, .slice none 0 0, .int .i64 0]) 5 64 Tryz.underlying34 hi hz0 hz1 hz2 rfl (by decide) (.slice A out.length c) out.length css.flatten rfl HOWN.out _ _ 1 1 [.string (ss y.1.name), .int .i64 y.1.field, .int .i64 y.1.data, .slice A3 y.1.par.length c3, .int .i64 y.1.dom] rfl (sl_cells2 w3 (.cells #[.string (ss y.1.name), .int .i64 y.1.field, .int .i64 y.1.data, .slice A3 y.1.par.length c3, .int .i64 y.1.dom] 24) 24 [.string (ss y.1.name), .int .i64 y.1.field, .int .i64 y.1.data, .slice A3 y.1.par.length c3, .int .i64 y.1.dom] 5 rfl) (by intro u hu; simp only [List.mem_cons, List.not_mem_nil, or_false] at hu; rcases hu with rfl | rfl | rfl | rfl | rfl <;> rfl) (by unfold maxLen; omega) (by omega) (by simp; omega) ?_; intro v4 w4 ho4 hg4; obtain ⟨A4, c4, rfl, _, _⟩ := own_form ho4; have HO4 := hideIt ho4; have HG4 := hideIt hg4; clear ho4 hg4)
              | (go_at_call 45; refine (HCA'.out _ HR2.out).mono ?_; rintro e w3 ⟨⟨h0, A3, c3, rfl, hp⟩ | ⟨h0, rfl⟩, hb⟩ <;> have HX3 := hideIt (HX2.out.trans (hb.mono HX2.out.size)) <;> have HC3 := hideIt (HC2.out.kept hb) <;> have H0 := hideIt h0 <;> (first | (rw [decide_eq_true h0] at hny) | (clear hny)) <;> clear hb h0 <;> have hw3 := HX3.out.size <;> try (have HPR := hideIt (((hp.low HX2.out.size).alloc (.cells #[.string (ss y.1.name), .int .i64 y.1.field, .int .i64 y.1.data, .slice A3 y.1.par.length c3, .int .i64 y.1.dom] 24)).alloc (.cells #[.string (ss y.1.name), .int .i64 y.1.field, .int .i64 y.1.data, .slice A3 y.1.par.length c3, .int .i64 y.1.dom] 24)); obtain ⟨css, hown, hall⟩ := (HC3.out.alloc (.cells #[.string (ss y.1.name), .int .i64 y.1.field, .int .i64 y.1.data, .slice A3 y.1.par.length c3, .int .i64 y.1.dom] 24)).alloc (.cells #[.string (ss y.1.name), .int .i64 y.1.field, .int .i64 y.1.data, .slice A3 y.1.par.length c3, .int .i64 y.1.dom] 24); have HOWN := hideIt hown; have HALL := hideIt hall; clear hown hall hp))
              | (go_at_call 50; rw [← HWb.out]; refine HCO.out.mono ?_; rintro e w2 ⟨rfl, hb⟩; have hd2 := HDb.out.kept hb HDb.out.lt; have e0 := hd2.cell 0; have e1 := hd2.cell 1; have e2 := hd2.cell 2; have e3 := hd2.cell 3; have e4 := hd2.cell 4; have e5 := hd2.cell 5; have e6 := hd2.cell 6; have e7 := hd2.cell 7; have e8 := hd2.cell 8; have HX2 := hideIt (HXb.out.trans (hb.mono HXb.out.size)); have HC2 := hideIt (HCb.out.kept hb); have HR2 := hideIt (HRb.out.kept hb); clear hd2 hb))
            · go_roundg (gk - 1)
              case measure => omega
              case rel =>
                refine ⟨i + 1, out ++ [y.1], A4, c4, by omega, by simp, by go_num, by simp; exact HOL.out, ?_, ?_, ?_, ?_⟩
                · have := HOL.out; omega
                · rw [HOB.out, if_neg HQ1.out, if_neg (fun q => q H0.out)]
                · have h1 := below_grown (Below.refl w1.heap.size _) HOWN.out (Nat.le_refl _) (by simp; omega) HG4.out
                  exact ((HX3.out.alloc hw3 _).alloc (by simp; omega) _).trans h1
                · have := CdsR.snoc HOWN.out HALL.out HPR.out HG4.out HO4.out
                  simpa using this
            · refine bodyPost_ret (results_tmp3 rfl _ _ _) rfl ?_
              have h : allD xs [] = ([], y.2.1, y.2.2) := by rw [HOB.out, if_neg HQ1.out, if_pos H0.out]
              rw [HP.out, h]
              exact ⟨AllE.none, (HB1.out.trans (HX3.out.mono HW1.out)).trans ((Below.refl _ _).alloc (Nat.le_trans HW1.out hw3) _)⟩
      · have hji : ¬ (i : Int) < (n : Int) := by omega
        go_wp2_with fail
        refine bodyPost_ret (results_tmp3 rfl _ _ _) rfl ?_
        have h : allD xs [] = (out, 0, 0) := by
          rw [HI.out.2.2.1, List.drop_of_length_le (by rw [← HN.out]; omega)]
          rfl
        rw [HP.out, h]
        exact ⟨⟨A, c, rfl, HI.out.2.2.2.2.low HW1.out⟩, HB1.out.trans (HI.out.2.2.2.1.mono HW1.out)⟩

end Go.Proofs.YtcogkdnlpjfgdaaGreatDoor
