/-
  What LangSpaces wants: the builder with what it leaves as it was, tokens in memory, gaps and tokens as they are written one after the other; the listed tables; a slice of bytes opened.
-/
import Derived.Test.YtcogkdnlpjfgdaaGreatDoorRows
import Derived.Test.YtcogkdnlpjfgdaaGreatDoorLwB
import Derived.Test.YtcogkdnlpjfgdaaGreatDoorArgL
import Derived.ProofKit
import Derived.LaidMore
import Derived.OpenShut
import Derived.Stop.Joined
import Derived.Lay
import Derived.Lib.LaidTab
import Derived.Shelf.Strings.BuilderK
namespace Go.Proofs.YtcogkdnlpjfgdaaGreatDoor
set_option linter.unusedVariables false
set_option linter.unusedSimpArgs false
section
open Go.RowKit

abbrev IB (b : Nat) (l : Bs) (w : World) : Prop := Lib.IsBuilderF 42 5 b b (Lib.byteCells l) w
abbrev OK8 (b : Nat) (w w' : World) : Prop := Lib.OthersKept 5 (some b) w w'
theorem wsk_any (b : Nat) (l s : Bs) (w : World) (h : IB b l w) (hlen : l.length + s.length ≤ 140737488355328) (hBw : b ≤ w.heap.size) :
    Calls Tryz.prog 24 #[.pointer (some ⟨b, 0, none⟩), sv s] w fun e w' => e = .returned (.tuple #[.int .i64 (s.length : Int), .nilIface]) ∧ IB b (l ++ s) w' ∧ Below b w w' ∧ OK8 b w w' := by
  refine (Any.Builder_WriteString_k layWS layX b b (Lib.byteCells l) (ss s) w h (by rw [Lib.byteCells_length, ss_size]; exact hlen) hBw).mono ?_
  rintro e w' ⟨rfl, h1, h2, h3⟩
  rw [str_cells, cells_append] at h1
  exact ⟨by rw [ss_size], .inr h1, h2, h3⟩
theorem bsk_any (b : Nat) (l : Bs) (w : World) (h : IB b l w) (hBw : b ≤ w.heap.size) :
    Calls Tryz.prog 26 #[.pointer (some ⟨b, 0, none⟩)] w fun e w' => e = .returned (sv l) ∧ Below b w w' := by
  refine (Any.Builder_String_any_k layBS layX b b l w h hBw).mono ?_
  rintro e w' ⟨rfl, h1, h2, h3⟩
  exact ⟨rfl, h2⟩
theorem bln_any (b : Nat) (l : Bs) (w : World) (h : IB b l w) :
    Calls Tryz.prog 25 #[.pointer (some ⟨b, 0, none⟩)] w fun e w' => e = .returned (.int .i64 (l.length : Int)) ∧ w = w' := by
  obtain ⟨A, n, c, hc, hn⟩ : ∃ A n c, w.cell? ⟨b, 1, none⟩ = some (.slice A n c) ∧ n = l.length := by
    have k : ∀ p, Lib.BuilderAtF 42 5 b b p (Lib.byteCells l) w → ∃ A n c, w.cell? ⟨b, 1, none⟩ = some (.slice A n c) ∧ n = l.length := by
      rintro p ⟨_, v, hb, ho, _⟩
      rcases ho.2 with ⟨rfl, h0⟩ | ⟨g, cap, cur, fr, rfl, _⟩
      · exact ⟨none, 0, 0, by simp [World.cell?, hb], by rw [Lib.byteCells_length] at h0; exact h0.symm⟩
      · exact ⟨some ⟨g, 0, none⟩, (Lib.byteCells l).length, cap, by simp [World.cell?, hb], Lib.byteCells_length _⟩
    exact h.elim (k _) (k _)
  subst hn
  go_enter Tryz.func25, Tryz.ntmps25
  go_wp2_with fail
  go_ret
  exact ⟨rfl, rfl⟩
/-- Tokens in memory, to read. -/
theorem tok_cells {w : World} {B : Nat} {v : Value} {l : List Tk} (h : RtS w B v l) (h0 : 0 < l.length) : ∃ g c cur fz, v = .slice (some ⟨g, 0, none⟩) l.length c ∧ B ≤ g ∧ w.heap[g]? = some (.cells cur 46 fz) ∧
    ∀ j (hj : j < l.length), ∀ k u, (rtC l[j])[k]? = some u → w.cell? ⟨g, j * 4 + k, none⟩ = some u := by
  have ht := fun j (hj : j < l.length) => h.tok hj
  rcases h.2 with ⟨_, h1⟩ | ⟨g, cap, cur, rfl, hB, hg, _⟩
  · omega
  · refine ⟨g, cap, cur, _, rfl, hB, hg, fun j hj k u hu => ?_⟩
    obtain ⟨g', c', hv, _, hc⟩ := ht j hj
    injection hv with e1 e2 e3
    injection e1 with e1
    injection e1 with e1
    subst e1
    exact hc k u hu
theorem ok8_heap {b : Nat} {w w' : World} (h : OK8 b w w') {g : Nat} {cur : Array Value} {t : TypeId} {fz : Nat × Nat} (hg : w.heap[g]? = some (.cells cur t fz)) (hb : g ≠ b) (ht : t ≠ 5) : w'.heap[g]? = w.heap[g]? := by
  rw [hg]
  exact h g _ hg (by simpa using hb) (fun c fz' e => by injection e with _ e _; exact ht e)
theorem ok8_blk {b : Nat} {w w' : World} (h : OK8 b w w') {g : Nat} {cs : List Value} {t : TypeId} (hg : Blk w g t cs) (hb : g ≠ b) (ht : t ≠ 5) : Blk w' g t cs := (ok8_heap h hg hb ht).trans hg

def gapL : List Bs := [[32], [9], [10], [32, 32, 10], [32, 35, 32, 99, 111, 100, 101, 32, 125, 10]]
theorem gapL_gap (m : Nat) (h : m < 5) : Gap (gapL.getD m []) ∧ gapL.getD m [] ≠ [] ∧ (gapL.getD m []).length ≤ 10 := by
  match m, h with
  | 0, _ => exact ⟨gap_one rfl, by decide, by decide⟩
  | 1, _ => exact ⟨gap_one rfl, by decide, by decide⟩
  | 2, _ => exact ⟨gap_one rfl, by decide, by decide⟩
  | 3, _ => exact ⟨gap_one rfl, by decide, by decide⟩
  | 4, _ => exact ⟨gap_comment, by decide, by decide⟩
theorem goodP_ist : ∀ (l : List Pc) (k : Nat), goodP k l → ∀ x ∈ l.map Prod.snd, IsT x
  | [], _, _, x, hx => by simp at hx
  | y :: l, k, h, x, hx => by
    rw [List.map_cons, List.mem_cons] at hx
    rcases hx with rfl | hx
    · exact h.2.1
    · exact goodP_ist l _ h.2.2.2 x hx
theorem codeT_ist {c : Cd} (hc : Good c) : ∀ x ∈ codeT c, IsT x := by
  have h := good_code hc gap_nil (.inl rfl) [] trivial (k := 3)
  rw [List.append_nil] at h
  rw [← codePc_snd [] c]
  exact goodP_ist _ _ h
theorem ist_kd {t : Tk} (h : IsT t) : t.kd ≤ 3 := by
  cases h
  · exact (by decide : (1 : Nat) ≤ 3)
  · exact (by decide : (2 : Nat) ≤ 3)
  · exact (by decide : (3 : Nat) ≤ 3)
def GapW (w : World) : Prop := 0 < w.heap.size ∧ ∀ j, j < 5 → w.cell? ⟨0, j, none⟩ = some (sv (gapL.getD j []))
def TabG (w : World) : Prop := TabW w ∧ GapW w
/-- What has been written when i tokens have been seen; the last one's kind is k. -/
def Sp (ts : List Tk) (i : Nat) (O : Bs) (k : Nat) : Prop :=
  ∃ l : List Pc, goodP 3 l ∧ ((i < ts.length ∧ l.map Prod.snd = ts.take i ∧ O = glue l ∧ k = (l.getLast?.map fun x => x.2.kd).getD 3) ∨ (i = ts.length ∧ ∃ tail, Gap tail ∧ l.map Prod.snd ++ [eT] = ts ∧ O = glue l ++ tail))
theorem Sp.start (c : Cd) : Sp (codeT c ++ [eT]) 0 [] 3 := ⟨[], trivial, .inl ⟨by simp, rfl, rfl, rfl⟩⟩
theorem last_le {l : List Pc} (h : goodP 3 l) : (l.getLast?.map fun x => x.2.kd).getD 3 ≤ 3 := by
  cases hl : l.getLast? with
  | none => simp
  | some x =>
    have := ist_kd (goodP_ist l 3 h x.2 (List.mem_map.2 ⟨x, List.mem_of_getLast? hl, rfl⟩))
    simpa using this
theorem Sp.step {c : Cd} (hc : Good c) {i : Nat} {O g : Bs} {k : Nat} {t : Tk} (h : Sp (codeT c ++ [eT]) i O k) (ht : (codeT c ++ [eT])[i]? = some t) (hg : Gap g) (hk : g = [] → ¬ (k < 3 ∧ t.kd < 3)) :
    Sp (codeT c ++ [eT]) (i + 1) (O ++ g ++ t.tx) t.kd := by
  have hi : i < (codeT c ++ [eT]).length := (List.getElem?_eq_some_iff.1 ht).1
  obtain ⟨l, hl, ⟨_, h1, h2, h3⟩ | ⟨h1, _⟩⟩ := h
  · by_cases e : i < (codeT c).length
    · rw [List.getElem?_append_left e] at ht
      have htm : IsT t := codeT_ist hc t (List.mem_of_getElem? ht)
      have hk3 := last_le hl
      have hgo : goodP 3 (l ++ [(g, t)]) := by
        rw [goodP_app]
        refine ⟨hl, hg, htm, ?_, trivial⟩
        rw [← h3]
        rw [← h3] at hk3
        by_cases hgn : g = []
        · have := hk hgn
          have := ist_kd htm
          dsimp only
          omega
        · exact .inr (.inr hgn)
      refine ⟨l ++ [(g, t)], hgo, .inl ⟨by simp; omega, ?_, ?_, ?_⟩⟩
      · rw [List.map_append, h1]
        have : (codeT c ++ [eT])[i]? = some t := by rw [List.getElem?_append_left e]; exact ht
        rw [List.take_add_one, this]
        rfl
      · rw [h2]
        unfold glue
        rw [List.flatMap_append]
        simp
      · simp
    · have e2 : i = (codeT c).length := by simp at hi; omega
      subst e2
      rw [List.getElem?_append_right (Nat.le_refl _), Nat.sub_self] at ht
      injection ht with ht
      subst ht
      refine ⟨l, hl, .inr ⟨by simp, g, hg, ?_, ?_⟩⟩
      · rw [h1]; simp
      · rw [h2]
        show glue l ++ g ++ [] = _
        rw [List.append_nil]
  · omega
theorem Sp.done {c : Cd} (hc : Good c) {O : Bs} {k : Nat} (h : Sp (codeT c ++ [eT]) (codeT c ++ [eT]).length O k) (hl : O.length ≤ 2000) : parseC O = (c, 0, 0) := by
  obtain ⟨l, hgo, ⟨h0, _⟩ | ⟨_, tail, ht, hs, ho⟩⟩ := h
  · omega
  · rw [ho] at hl ⊢
    exact parse_gaps hc ht hgo (List.append_cancel_right hs) hl
end
section
open Go.ChangeShapes Go.WideShapes Go.ChangeAt Go.RowKit

section
variable {H : Type} {enc : TypeId × Value → H} {w : World} {A : Option Addr} {len cap : Nat} {d : DataW H} {p : List MemPlace}
theorem open_bytes (h : DataW.Trod enc Tryz.prog w 0 (fun _ => true) true 39 (.slice A len cap) d p) :
    len ≤ cap ∧ cap ≤ maxLen ∧ ((d = .nil ∧ len = 0) ∨ ∃ es rs, d = .slice es rs ∧ es.length = len) ∧ ∃ l : List UInt8, l.length = len ∧ Sl w w.heap.size A 1 len (l.map bv) := by
  obtain ⟨fuel, hf⟩ := h
  obtain ⟨h1, h2, hd, css, h3, h4, h5⟩ := open_elems (size := 1) Tryz.underlying39 (by kernel_rfl) (by omega) (fun cs => ∃ b : UInt8, cs = [bv b]) (fun n cs y _ hy => by
    obtain ⟨m, rfl, _, hw⟩ := DataW.trod_int Tryz.underlying5 hy
    exact ⟨UInt8.ofNat m.toNat, by rw [bv_of (wf_u8 hw)]⟩) hf
  obtain ⟨l, q1, q2⟩ := bytes_of css h4
  exact ⟨h1, h2, hd, l, q1.trans h3, q2 ▸ h5⟩
end
theorem gPow : Tryz.prog.globalNamed "internal/strconv.uint64pow10" = some 2 := by kernel_rfl
theorem tPow : (Tryz.prog.globals[2]?).map (·.type) = some 156 := by kernel_rfl
theorem dPow {H : Type} : (Rows.laid_internal_strconv_uint64pow10 : DataW H) = Lib.tabData .u64 Lib.pow10Tab := by kernel_rfl
theorem tab_of {H : Type} {enc : TypeId × Value → H} {W : World} {cs : Array Value} {fuel : Nat} {q : List MemPlace} {held : Bool} {spare : Nat → Bool} {b : Nat}
    (hv : W.var? Tryz.prog "internal/strconv.uint64pow10" = some cs) (hd : DataW.trod enc Tryz.prog W b spare held fuel 156 cs.toList = some (Rows.laid_internal_strconv_uint64pow10, q)) : TabW W := by
  rw [dPow] at hd
  unfold TabW Lib.TabIs
  rw [hv, ← Lib.cells_of_tab (e := 143) (n := 20) (by kernel_rfl) Tryz.underlying143 (by kernel_rfl) (by kernel_rfl) hd]
theorem of_laid8t {W : World} (h : laidMetH Tryz.prog Rows.langSpacesRow.laid W) : TabW W := by
  rw [MakeChecks.laidMetH_plain _ _ _ (by kernel_rfl)] at h
  obtain ⟨ps, ⟨_, _, _, _, _, _, _, _, _, _, ⟨_, _, _, _, _, _, _, _, _, _, ⟨g2, t2, cs2, f2, p2, q2, hg2, ht2, hv2, hd2, _, _⟩, _⟩, _⟩, _⟩ := h
  obtain rfl := Option.some.inj (gPow.symm.trans hg2)
  obtain rfl := Option.some.inj (tPow.symm.trans ht2)
  exact tab_of hv2 hd2
theorem gGaps : Tryz.prog.globalNamed "solvent/solventlaw07.gaps" = some 0 := by kernel_rfl
theorem tGaps : (Tryz.prog.globals[0]?).map (·.type) = some 51 := by kernel_rfl
set_option maxRecDepth 100000 in
theorem gaps_of {H : Type} {enc : TypeId × Value → H} {W : World} {cs : Array Value} {fuel : Nat} {q : List MemPlace} {held : Bool} {spare : Nat → Bool} {b : Nat}
    (hv : W.var? Tryz.prog "solvent/solventlaw07.gaps" = some cs) (hd : DataW.trod enc Tryz.prog W b spare held fuel 51 cs.toList = some (Rows.laid_solvent_solventlaw07_gaps, q)) : GapW W := by
  obtain ⟨xs, m, _, hx, hlen, hn, hel⟩ := DataW.trod_array (show Tryz.prog.underlying 51 = some (.array 5 9) by kernel_rfl) hd
  have c1 : Tryz.prog.cellsOf 9 = 1 := by kernel_rfl
  have c5 : Tryz.prog.cellsOf 51 = 5 := by kernel_rfl
  rw [c1] at hel
  have hcl : cs.toList.length = 5 := by rw [hlen]; exact c5
  simp only [Prod.mk.injEq] at hx
  have h9 : DataW.agg (xs.map (·.1)) = Rows.laid_solvent_solventlaw07_gaps := hx.1.symm
  have h10 : (Rows.laid_solvent_solventlaw07_gaps : DataW H) = .agg (gapL.map fun l => .lit (.string l)) := rfl
  rw [h10] at h9
  injection h9 with h9
  have hcell : ∀ j, j < 5 → W.cell? ⟨0, j, none⟩ = some (sv (gapL.getD j [])) := by
    intro j hj
    rw [World.var?_cell gGaps hv j]
    have h7 := hel j hj
    rw [Nat.mul_one, List.getElem?_eq_getElem (by omega)] at h7
    obtain ⟨s, hz, hx1, _⟩ := DataW.trod_string Tryz.underlying9 (show DataW.trod _ Tryz.prog W b _ held m 9 _ = some xs[j] from h7)
    rw [List.drop_eq_getElem_cons (by omega), List.take_succ_cons, List.take_zero] at hz
    injection hz with hz _
    have h8 : (xs.map (·.1))[j]? = some xs[j].1 := by rw [List.getElem?_map, List.getElem?_eq_getElem (by omega)]; rfl
    have hk : gapL[j]? = some (gapL.getD j []) := by
      rw [List.getD_eq_getElem?_getD, List.getElem?_eq_getElem (by show j < 5; exact hj)]; rfl
    rw [h9, List.getElem?_map, hk, hx1] at h8
    simp only [Option.map_some, Option.some.injEq, DataW.lit.injEq, Lit.string.injEq] at h8
    have h11 : cs[j]? = some cs.toList[j] := by rw [← Array.getElem?_toList, List.getElem?_eq_getElem (by omega)]
    rw [h11, hz, h8]
    show some (Value.string s) = some (sv s.data.toList)
    rw [list_sv]
  exact ⟨World.block_lt_of_cell? W _ (hcell 0 (by decide)), hcell⟩
theorem of_laid8 {W : World} (h : laidMetH Tryz.prog Rows.langSpacesRow.laid W) : TabG W := by
  refine ⟨of_laid8t h, ?_⟩
  rw [MakeChecks.laidMetH_plain _ _ _ (by kernel_rfl)] at h
  obtain ⟨ps, ⟨_, _, _, _, _, _, _, _, _, _, ⟨_, _, _, _, _, _, _, _, _, _, ⟨_, _, _, _, _, _, _, _, _, _, ⟨_, _, _, _, _, _, _, _, _, _, ⟨_, _, _, _, _, _, _, _, _, _, ⟨_, _, _, _, _, _, _, _, _, _, ⟨g2, t2, cs2, f2, p2, q2, hg2, ht2, hv2, hd2, _, _⟩, _⟩, _⟩, _⟩, _⟩, _⟩, _⟩, _⟩ := h
  obtain rfl := Option.some.inj (gGaps.symm.trans hg2)
  obtain rfl := Option.some.inj (tGaps.symm.trans ht2)
  exact gaps_of hv2 hd2
theorem door_shaped8 (os : Os) : (World.laidAll Tryz.prog os Rows.langSpacesRow.laid).Shaped Tryz.prog := World.shaped_of_ZipB (by kernel_rfl) (by kernel_rfl)
theorem door_met8 (os : Os) (args : Array Value) : laidMetH Tryz.prog Rows.langSpacesRow.laid ((World.laidAll Tryz.prog os Rows.langSpacesRow.laid).forCall (fun _ _ => 0) ⟨#[], args, []⟩).memory := by
  rw [MakeChecks.laidMetH_plain _ _ _ (by kernel_rfl)]
  exact laidMet_laidAll _ (by kernel_rfl) (by kernel_rfl)
end

end Go.Proofs.YtcogkdnlpjfgdaaGreatDoor
