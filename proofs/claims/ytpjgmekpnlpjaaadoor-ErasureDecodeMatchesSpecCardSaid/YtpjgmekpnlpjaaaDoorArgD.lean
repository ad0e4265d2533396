/-
  The argument of DecodeMatchesSpec, opened.
-/
import Derived.Test.YtpjgmekpnlpjaaaDoorArgK
namespace Go.Proofs.YtpjgmekpnlpjaaaDoor
open Go.ChangeShapes Go.WideShapes Go.ChangeAt Go.RowKit
set_option linter.unusedVariables false

structure Din where
  code : Cd
  data : List (List UInt8)
  hs : List Bool
  unit : Int
abbrev Din.cs (a : Din) (A D E : Option Addr) (c d e : Nat) : List Value := [sv a.code.name, .int .i64 a.code.field, .int .i64 a.code.data, .slice A a.code.par.length c, .int .i64 a.code.dom, .slice D a.data.length d, .slice E a.hs.length e, .int .i64 a.unit]
abbrev Din.v (a : Din) (A D E : Option Addr) (c d e : Nat) : Value := .agg (a.cs A D E c d e).toArray
structure DinIn (w : World) (a : Din) (A D E : Option Addr) : Prop where
  cin : CIn w a.code A
  dat : Sl w w.heap.size D 1 a.data.length (a.data.map sv)
  hav : Sl w w.heap.size E 1 a.hs.length (a.hs.map bl)
  b1 : a.data.length ≤ 9223372036854775807
  b2 : a.hs.length ≤ 9223372036854775807
  b3 : -9223372036854775808 ≤ a.unit ∧ a.unit ≤ 9223372036854775807
theorem parts8d (l : List Value) (h : l.length = 8) : l = (l.drop 0).take 5 ++ ((l.drop 5).take 1 ++ ((l.drop 6).take 1 ++ (l.drop 7).take 1)) := by
  match l, h with
  | [a, b, c, d, e, f, g, i], _ => rfl
section
variable {H : Type} {enc : TypeId × Value → H} {w : World}
set_option maxRecDepth 100000 in
theorem din_cells {fuel : Nat} {cs : List Value} {x : DataW H × List MemPlace} (hcl : cs.length = 8) (hf : DataW.trod enc Tryd.prog w 0 (fun _ => true) true fuel 51 cs = some x) :
    ∃ (a : Din) (A D E : Option Addr) (c d e : Nat), cs = a.cs A D E c d e ∧ DinIn w a A D E := by
  have hc1 : Tryd.prog.cellsOf 24 = 5 := by kernel_rfl
  have hs1 : Tryd.prog.cellsOf 25 = 1 := by kernel_rfl
  have hb1 : Tryd.prog.cellsOf 41 = 1 := by kernel_rfl
  have hu1 : Tryd.prog.cellsOf 3 = 1 := by kernel_rfl
  obtain ⟨xs, m, _, _, hl, hlen, hx⟩ := DataW.trod_struct Tryd.underlying51 hf
  have e : ∀ k, k < 4 → ∃ y, xs[k]? = some y := fun k hk => ⟨_, List.getElem?_eq_getElem (by rw [hlen]; exact hk)⟩
  obtain ⟨y0, e0⟩ := e 0 (by decide)
  obtain ⟨y1, e1⟩ := e 1 (by decide)
  obtain ⟨y2, e2⟩ := e 2 (by decide)
  obtain ⟨y3, e3⟩ := e 3 (by decide)
  have h0 := (hx 0 _ rfl).trans e0
  have h1 := (hx 1 _ rfl).trans e1
  have h2 := (hx 2 _ rfl).trans e2
  have h3 := (hx 3 _ rfl).trans e3
  change DataW.trod enc Tryd.prog w 0 (fun _ => true) true m 24 ((cs.drop 0).take (Tryd.prog.cellsOf 24)) = some y0 at h0
  change DataW.trod enc Tryd.prog w 0 (fun _ => true) true m 25 ((cs.drop 5).take (Tryd.prog.cellsOf 25)) = some y1 at h1
  change DataW.trod enc Tryd.prog w 0 (fun _ => true) true m 41 ((cs.drop 6).take (Tryd.prog.cellsOf 41)) = some y2 at h2
  change DataW.trod enc Tryd.prog w 0 (fun _ => true) true m 3 ((cs.drop 7).take (Tryd.prog.cellsOf 3)) = some y3 at h3
  rw [hc1] at h0
  rw [hs1] at h1
  rw [hb1] at h2
  rw [hu1] at h3
  obtain ⟨x0, A, ca, q0, xin, _⟩ := code_cells (by rw [List.length_take, List.length_drop, hcl]; rfl) h0
  obtain ⟨D, ld, cd, q1⟩ := slice_is7 Tryd.underlying25 h1
  obtain ⟨E, le, ce, q2⟩ := slice_is7 Tryd.underlying41 h2
  obtain ⟨s, q3, _, hw3⟩ := DataW.trod_int Tryd.underlying3 h3
  rw [q1] at h1
  rw [q2] at h2
  obtain ⟨us, r1, s1, b1⟩ := open_strs8 h1
  obtain ⟨hs, r2, s2, b2⟩ := open_bools8 h2
  subst r1 r2
  have hp := parts8d cs hcl
  rw [q0, q1, q2, q3] at hp
  refine ⟨⟨x0, us, hs, s⟩, A, D, E, ca, cd, ce, ?_, xin, s1, s2, b1, b2, wf_i64 hw3⟩
  rw [hp]
  rfl
set_option maxRecDepth 100000 in
theorem open_din {v : Value} {d : DataW H} {p : List MemPlace} (hv : Value.okWide Tryd.prog w .any 0 51 v)
    (h : DataW.Trod enc Tryd.prog w 0 (fun _ => true) true 51 v d p) : ∃ (a : Din) (A D E : Option Addr) (c d e : Nat), v = a.v A D E c d e ∧ DinIn w a A D E := by
  have hc : Tryd.prog.cellsOf 51 = 8 := by kernel_rfl
  obtain ⟨cs, rfl, hs⟩ := okWide_struct Tryd.underlying51 hv
  obtain ⟨fuel, hf⟩ := h
  have hcl : cs.toList.length = 8 := by rw [Array.length_toList, hs, hc]
  obtain ⟨a, A, D, E, c, d, e, he, hin⟩ := din_cells hcl (show DataW.trod enc Tryd.prog w 0 (fun _ => true) true fuel 51 cs.toList = some _ from hf)
  refine ⟨a, A, D, E, c, d, e, ?_, hin⟩
  show Value.agg cs = .agg _
  congr 1
  rw [← Array.toList_inj, he]
end
end Go.Proofs.YtpjgmekpnlpjaaaDoor
