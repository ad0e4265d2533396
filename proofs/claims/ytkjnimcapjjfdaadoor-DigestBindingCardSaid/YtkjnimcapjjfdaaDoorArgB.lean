/-
  Arguments that came in: a struct of two integers, two digests and two slices of digests.
-/
import Derived.Test.YtkjnimcapjjfdaaDoorArgs
import Derived.Test.YtkjnimcapjjfdaaDoorRoot
namespace Go.Proofs.YtkjnimcapjjfdaaDoor
open Go.ChangeShapes Go.WideShapes Go.ChangeAt Go.RowKit
set_option linter.unusedVariables false

def binC (n j : Int) (a b : List UInt8) (s t : Value) : List Value := [.int .i64 n, .int .i64 j] ++ (a.map bv ++ (b.map bv ++ [s, t]))
abbrev binV (n j : Int) (a b : List UInt8) (s t : Value) : Value := .agg (binC n j a b s t).toArray
section
variable {n j : Int} {a b : List UInt8} {s t : Value} {W : World} {g : Nat} {ty : TypeId}
theorem bin_n (h : Blk W g ty (binC n j a b s t)) : W.cell? ⟨g, 0, none⟩ = some (.int .i64 n) := by rw [h.cell]; rfl
theorem bin_j (h : Blk W g ty (binC n j a b s t)) : W.cell? ⟨g, 1, none⟩ = some (.int .i64 j) := by rw [h.cell]; rfl
theorem bin_a (h : Blk W g ty (binC n j a b s t)) : W.rangeAt g 2 (a.map bv) := fun k v hv => by
  rw [h.cell]
  unfold binC
  rw [List.getElem?_append_right (by show 2 ≤ 2 + k; omega), show 2 + k - [Value.int .i64 n, .int .i64 j].length = k by show 2 + k - 2 = k; omega, List.getElem?_append_left (List.getElem?_eq_some_iff.1 hv).1]
  exact hv
theorem bin_b (ha : a.length = 16) (h : Blk W g ty (binC n j a b s t)) : W.rangeAt g 18 (b.map bv) := fun k v hv => by
  rw [h.cell]
  unfold binC
  rw [List.getElem?_append_right (by show 2 ≤ 18 + k; omega), show 18 + k - [Value.int .i64 n, .int .i64 j].length = 16 + k by show 18 + k - 2 = 16 + k; omega, List.getElem?_append_right (by rw [List.length_map, ha]; omega), List.length_map, ha, Nat.add_sub_cancel_left, List.getElem?_append_left (List.getElem?_eq_some_iff.1 hv).1]
  exact hv
theorem bin_at (ha : a.length = 16) (hb : b.length = 16) (h : Blk W g ty (binC n j a b s t)) (k : Nat) (hk : 34 ≤ k) : W.cell? ⟨g, k, none⟩ = [s, t][k - 34]? := by
  rw [h.cell]
  unfold binC
  rw [List.getElem?_append_right (by show 2 ≤ k; omega), List.getElem?_append_right (by rw [List.length_map, ha]; show 16 ≤ k - 2; omega), List.getElem?_append_right (by rw [List.length_map, List.length_map, ha, hb]; show 16 ≤ k - 2 - 16; omega), List.length_map, List.length_map, ha, hb]
  congr 1
theorem bin_s (ha : a.length = 16) (hb : b.length = 16) (h : Blk W g ty (binC n j a b s t)) : W.cell? ⟨g, 34, none⟩ = some s := bin_at ha hb h 34 (by decide)
theorem bin_t (ha : a.length = 16) (hb : b.length = 16) (h : Blk W g ty (binC n j a b s t)) : W.cell? ⟨g, 35, none⟩ = some t := bin_at ha hb h 35 (by decide)
end
theorem parts36 (cs : List Value) : cs = (cs.drop 0).take 1 ++ ((cs.drop 1).take 1 ++ ((cs.drop 2).take 16 ++ ((cs.drop 18).take 16 ++ ((cs.drop 34).take 1 ++ cs.drop 35)))) := by
  have h1 := List.take_append_drop 1 (cs.drop 0)
  have h2 := List.take_append_drop 1 (cs.drop 1)
  have h3 := List.take_append_drop 16 (cs.drop 2)
  have h4 := List.take_append_drop 16 (cs.drop 18)
  have h5 := List.take_append_drop 1 (cs.drop 34)
  rw [List.drop_drop] at h1 h2 h3 h4 h5
  rw [show cs.drop 35 = cs.drop (34 + 1) from rfl, h5, show cs.drop 34 = cs.drop (18 + 16) from rfl, h4, show cs.drop 18 = cs.drop (2 + 16) from rfl, h3, show cs.drop 2 = cs.drop (1 + 1) from rfl, h2, show cs.drop 1 = cs.drop (0 + 1) from rfl, h1, List.drop_zero]
theorem slice_isB {H : Type} {enc : TypeId × Value → H} {w : World} {fuel : Nat} {cs : List Value} {x : DataW H × List MemPlace} (h : DataW.trod enc Tryd.prog w 0 (fun _ => true) true fuel 34 cs = some x) : ∃ A n c, cs = [.slice A n c] := by
  rcases DataW.trod_slice Tryd.underlying34 h with ⟨h0, _⟩ | ⟨a, len', cap', elems, rest, n, _, h0, _⟩
  · exact ⟨_, _, _, h0⟩
  · exact ⟨_, _, _, h0⟩
theorem open_bin {H : Type} {enc : TypeId × Value → H} {w : World} {v : Value} {d : DataW H} {p : List MemPlace} (hv : Value.okWide Tryd.prog w .any 0 48 v)
    (h : DataW.Trod enc Tryd.prog w 0 (fun _ => true) true 48 v d p) : ∃ (n j : Int) (ea eb : List UInt8) (A : Option Addr) (c : Nat) (l : List (List UInt8)) (A' : Option Addr) (c' : Nat) (l' : List (List UInt8)), v = binV n j ea eb (.slice A l.length c) (.slice A' l'.length c') ∧
      ea.length = 16 ∧ eb.length = 16 ∧ (-9223372036854775808 ≤ n ∧ n ≤ 9223372036854775807) ∧ (-9223372036854775808 ≤ j ∧ j ≤ 9223372036854775807) ∧ Ds w w.heap.size A l.length l ∧ l.length ≤ c ∧ c ≤ maxLen ∧ Ds w w.heap.size A' l'.length l' ∧ l'.length ≤ c' ∧ c' ≤ maxLen := by
  have hc : Tryd.prog.cellsOf 48 = 36 := by kernel_rfl
  have hc16 : Tryd.prog.cellsOf 30 = 16 := by kernel_rfl
  have hc1 : Tryd.prog.cellsOf 3 = 1 := by kernel_rfl
  have hcs : Tryd.prog.cellsOf 34 = 1 := by kernel_rfl
  obtain ⟨cs, rfl, hs⟩ := okWide_struct Tryd.underlying48 hv
  obtain ⟨fuel, hf⟩ := h
  obtain ⟨xs, m, _, _, hl, hlen, hx⟩ := DataW.trod_struct Tryd.underlying48 hf
  have e : ∀ k, k < 6 → ∃ y, xs[k]? = some y := fun k hk => ⟨_, List.getElem?_eq_getElem (by rw [hlen]; exact hk)⟩
  obtain ⟨y0, e0⟩ := e 0 (by decide)
  obtain ⟨y1, e1⟩ := e 1 (by decide)
  obtain ⟨y2, e2⟩ := e 2 (by decide)
  obtain ⟨y3, e3⟩ := e 3 (by decide)
  obtain ⟨y4, e4⟩ := e 4 (by decide)
  obtain ⟨y5, e5⟩ := e 5 (by decide)
  have h0 := (hx 0 _ rfl).trans e0
  have h1 := (hx 1 _ rfl).trans e1
  have h2 := (hx 2 _ rfl).trans e2
  have h3 := (hx 3 _ rfl).trans e3
  have h4 := (hx 4 _ rfl).trans e4
  have h5 := (hx 5 _ rfl).trans e5
  have hcl : cs.toList.length = 36 := by rw [Array.length_toList, hs, hc]
  change DataW.trod enc Tryd.prog w 0 (fun _ => true) true m 3 ((cs.toList.drop 0).take (Tryd.prog.cellsOf 3)) = some y0 at h0
  change DataW.trod enc Tryd.prog w 0 (fun _ => true) true m 3 ((cs.toList.drop 1).take (Tryd.prog.cellsOf 3)) = some y1 at h1
  change DataW.trod enc Tryd.prog w 0 (fun _ => true) true m 30 ((cs.toList.drop 2).take (Tryd.prog.cellsOf 30)) = some y2 at h2
  change DataW.trod enc Tryd.prog w 0 (fun _ => true) true m 30 ((cs.toList.drop 18).take (Tryd.prog.cellsOf 30)) = some y3 at h3
  change DataW.trod enc Tryd.prog w 0 (fun _ => true) true m 34 ((cs.toList.drop 34).take (Tryd.prog.cellsOf 34)) = some y4 at h4
  change DataW.trod enc Tryd.prog w 0 (fun _ => true) true m 34 ((cs.toList.drop 35).take (Tryd.prog.cellsOf 34)) = some y5 at h5
  rw [hc16] at h2 h3
  rw [hc1] at h0 h1
  rw [hcs] at h4 h5
  obtain ⟨ea, ho⟩ := dig_cells (by rw [List.length_take, List.length_drop]; omega) h2
  obtain ⟨eb, hr⟩ := dig_cells (by rw [List.length_take, List.length_drop]; omega) h3
  obtain ⟨n, hn, _, hnw⟩ := DataW.trod_int Tryd.underlying3 h0
  obtain ⟨j, hj, _, hjw⟩ := DataW.trod_int Tryd.underlying3 h1
  obtain ⟨A, len, c, hsl⟩ := slice_isB h4
  rw [hsl] at h4
  obtain ⟨q1, q2, _, l, q3, q4, q5⟩ := open_digs (A := A) (len := len) (cap := c) ⟨m, h4⟩
  subst q3
  obtain ⟨A', len', c', hsl'⟩ := slice_isB h5
  rw [hsl'] at h5
  obtain ⟨q1', q2', _, l', q3', q4', q5'⟩ := open_digs (A := A') (len := len') (cap := c') ⟨m, h5⟩
  subst q3'
  have hol : ea.length = 16 := by have := congrArg List.length ho; rw [List.length_take, List.length_drop, List.length_map] at this; omega
  have hrl : eb.length = 16 := by have := congrArg List.length hr; rw [List.length_take, List.length_drop, List.length_map] at this; omega
  refine ⟨n, j, ea, eb, A, c, l, A', c', l', ?_, hol, hrl, wf_i64 hnw, wf_i64 hjw, ⟨rfl, q5, q4⟩, q1, q2, ⟨rfl, q5', q4'⟩, q1', q2'⟩
  show Value.agg cs = .agg (binC n j ea eb (.slice A l.length c) (.slice A' l'.length c')).toArray
  have h35 : cs.toList.drop 35 = [.slice A' l'.length c'] := by rw [← hsl', List.take_of_length_le (by rw [List.length_drop]; omega)]
  have hp := parts36 cs.toList
  rw [ho, hr, hn, hj, hsl, h35] at hp
  congr 1
  rw [← Array.toList_inj, hp]
  simp [binC]
end Go.Proofs.YtkjnimcapjjfdaaDoor
