/-
  Arguments that came in: a struct of two digests, two integers and a slice of digests.
-/
import Derived.Test.YtefalanfkihcdaaDoorArgD
import Derived.Test.YtefalanfkihcdaaDoorRoot
namespace Go.Proofs.YtefalanfkihcdaaDoor
open Go.ChangeShapes Go.WideShapes Go.ChangeAt Go.RowKit
set_option linter.unusedVariables false

def vinC (o r : List UInt8) (n j : Int) (s : Value) : List Value := o.map bv ++ (r.map bv ++ [.int .i64 n, .int .i64 j, s])
abbrev vinV (o r : List UInt8) (n j : Int) (s : Value) : Value := .agg (vinC o r n j s).toArray
section
variable {o r : List UInt8} {n j : Int} {s : Value} {W : World} {g : Nat} {t : TypeId}
theorem vin_o (h : Blk W g t (vinC o r n j s)) : W.rangeAt g 0 (o.map bv) := fun k v hv => by
  rw [Nat.zero_add, h.cell]
  unfold vinC
  rw [List.getElem?_append_left (List.getElem?_eq_some_iff.1 hv).1]
  exact hv
theorem vin_r (ho : o.length = 16) (h : Blk W g t (vinC o r n j s)) : W.rangeAt g 16 (r.map bv) := fun k v hv => by
  rw [h.cell]
  unfold vinC
  rw [List.getElem?_append_right (by rw [List.length_map, ho]; omega), List.length_map, ho, Nat.add_sub_cancel_left, List.getElem?_append_left (List.getElem?_eq_some_iff.1 hv).1]
  exact hv
theorem vin_at (ho : o.length = 16) (hr : r.length = 16) (h : Blk W g t (vinC o r n j s)) (k : Nat) (hk : 32 ≤ k) : W.cell? ⟨g, k, none⟩ = [.int .i64 n, .int .i64 j, s][k - 32]? := by
  rw [h.cell]
  unfold vinC
  rw [List.getElem?_append_right (by rw [List.length_map, ho]; omega), List.getElem?_append_right (by rw [List.length_map, List.length_map, ho, hr]; omega), List.length_map, List.length_map, ho, hr]
  congr 1
theorem vin_n (ho : o.length = 16) (hr : r.length = 16) (h : Blk W g t (vinC o r n j s)) : W.cell? ⟨g, 32, none⟩ = some (.int .i64 n) := vin_at ho hr h 32 (by decide)
theorem vin_j (ho : o.length = 16) (hr : r.length = 16) (h : Blk W g t (vinC o r n j s)) : W.cell? ⟨g, 33, none⟩ = some (.int .i64 j) := vin_at ho hr h 33 (by decide)
theorem vin_s (ho : o.length = 16) (hr : r.length = 16) (h : Blk W g t (vinC o r n j s)) : W.cell? ⟨g, 34, none⟩ = some s := vin_at ho hr h 34 (by decide)
end
theorem parts35 (cs : List Value) : cs = (cs.drop 0).take 16 ++ ((cs.drop 16).take 16 ++ ((cs.drop 32).take 1 ++ ((cs.drop 33).take 1 ++ cs.drop 34))) := by
  have h1 := List.take_append_drop 16 (cs.drop 0)
  have h2 := List.take_append_drop 16 (cs.drop 16)
  have h3 := List.take_append_drop 1 (cs.drop 32)
  have h4 := List.take_append_drop 1 (cs.drop 33)
  rw [List.drop_drop] at h1 h2 h3 h4
  rw [show cs.drop 34 = cs.drop (33 + 1) from rfl, h4, show cs.drop 33 = cs.drop (32 + 1) from rfl, h3, show cs.drop 32 = cs.drop (16 + 16) from rfl, h2, show cs.drop 16 = cs.drop (0 + 16) from rfl, h1, List.drop_zero]
theorem slice_is {H : Type} {enc : TypeId × Value → H} {w : World} {fuel : Nat} {cs : List Value} {x : DataW H × List MemPlace} (h : DataW.trod enc Tryd.prog w 0 (fun _ => true) true fuel 34 cs = some x) : ∃ A n c, cs = [.slice A n c] := by
  rcases DataW.trod_slice Tryd.underlying34 h with ⟨h0, _⟩ | ⟨a, len', cap', elems, rest, n, _, h0, _⟩
  · exact ⟨_, _, _, h0⟩
  · exact ⟨_, _, _, h0⟩
theorem open_vin {H : Type} {enc : TypeId × Value → H} {w : World} {v : Value} {d : DataW H} {p : List MemPlace} (hv : Value.okWide Tryd.prog w .any 0 42 v)
    (h : DataW.Trod enc Tryd.prog w 0 (fun _ => true) true 42 v d p) : ∃ (eo er : List UInt8) (n j : Int) (A : Option Addr) (c : Nat) (l : List (List UInt8)), v = vinV eo er n j (.slice A l.length c) ∧
      eo.length = 16 ∧ er.length = 16 ∧ (-9223372036854775808 ≤ n ∧ n ≤ 9223372036854775807) ∧ (-9223372036854775808 ≤ j ∧ j ≤ 9223372036854775807) ∧ Ds w w.heap.size A l.length l ∧ l.length ≤ c ∧ c ≤ maxLen := by
  have hc : Tryd.prog.cellsOf 42 = 35 := by kernel_rfl
  have hc16 : Tryd.prog.cellsOf 30 = 16 := by kernel_rfl
  have hc1 : Tryd.prog.cellsOf 3 = 1 := by kernel_rfl
  have hcs : Tryd.prog.cellsOf 34 = 1 := by kernel_rfl
  obtain ⟨cs, rfl, hs⟩ := okWide_struct Tryd.underlying42 hv
  obtain ⟨fuel, hf⟩ := h
  obtain ⟨xs, m, _, _, hl, hlen, hx⟩ := DataW.trod_struct Tryd.underlying42 hf
  have e : ∀ k, k < 5 → ∃ y, xs[k]? = some y := fun k hk => ⟨_, List.getElem?_eq_getElem (by rw [hlen]; exact hk)⟩
  obtain ⟨y0, e0⟩ := e 0 (by decide)
  obtain ⟨y1, e1⟩ := e 1 (by decide)
  obtain ⟨y2, e2⟩ := e 2 (by decide)
  obtain ⟨y3, e3⟩ := e 3 (by decide)
  obtain ⟨y4, e4⟩ := e 4 (by decide)
  have h0 := (hx 0 _ rfl).trans e0
  have h1 := (hx 1 _ rfl).trans e1
  have h2 := (hx 2 _ rfl).trans e2
  have h3 := (hx 3 _ rfl).trans e3
  have h4 := (hx 4 _ rfl).trans e4
  have hcl : cs.toList.length = 35 := by rw [Array.length_toList, hs, hc]
  change DataW.trod enc Tryd.prog w 0 (fun _ => true) true m 30 ((cs.toList.drop 0).take (Tryd.prog.cellsOf 30)) = some y0 at h0
  change DataW.trod enc Tryd.prog w 0 (fun _ => true) true m 30 ((cs.toList.drop 16).take (Tryd.prog.cellsOf 30)) = some y1 at h1
  change DataW.trod enc Tryd.prog w 0 (fun _ => true) true m 3 ((cs.toList.drop 32).take (Tryd.prog.cellsOf 3)) = some y2 at h2
  change DataW.trod enc Tryd.prog w 0 (fun _ => true) true m 3 ((cs.toList.drop 33).take (Tryd.prog.cellsOf 3)) = some y3 at h3
  change DataW.trod enc Tryd.prog w 0 (fun _ => true) true m 34 ((cs.toList.drop 34).take (Tryd.prog.cellsOf 34)) = some y4 at h4
  rw [hc16] at h0 h1
  rw [hc1] at h2 h3
  rw [hcs] at h4
  obtain ⟨eo, ho⟩ := dig_cells (by rw [List.length_take, List.length_drop]; omega) h0
  obtain ⟨er, hr⟩ := dig_cells (by rw [List.length_take, List.length_drop]; omega) h1
  obtain ⟨n, hn, _, hnw⟩ := DataW.trod_int Tryd.underlying3 h2
  obtain ⟨j, hj, _, hjw⟩ := DataW.trod_int Tryd.underlying3 h3
  obtain ⟨A, len, c, hsl⟩ := slice_is h4
  rw [hsl] at h4
  obtain ⟨q1, q2, _, l, q3, q4, q5⟩ := open_digs (A := A) (len := len) (cap := c) ⟨m, h4⟩
  subst q3
  have hol : eo.length = 16 := by have := congrArg List.length ho; rw [List.length_take, List.length_drop, List.length_map] at this; omega
  have hrl : er.length = 16 := by have := congrArg List.length hr; rw [List.length_take, List.length_drop, List.length_map] at this; omega
  refine ⟨eo, er, n, j, A, c, l, ?_, hol, hrl, wf_i64 hnw, wf_i64 hjw, ⟨rfl, q5, q4⟩, q1, q2⟩
  show Value.agg cs = .agg (vinC eo er n j (.slice A l.length c)).toArray
  have h34 : cs.toList.drop 34 = [.slice A l.length c] := by rw [← hsl, List.take_of_length_le (by rw [List.length_drop]; omega)]
  have hp := parts35 cs.toList
  rw [ho, hr, hn, hj, h34] at hp
  congr 1
  rw [← Array.toList_inj, hp]
  simp [vinC]
end Go.Proofs.YtefalanfkihcdaaDoor
