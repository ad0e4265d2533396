/-
  Plans as arguments.
-/
import Derived.Test.YtklngodlijiccaaDoorRepC
namespace Go.Proofs.YtklngodlijiccaaDoor
open Go.ChangeShapes Go.WideShapes Go.ChangeAt Go.RowKit
set_option linter.unusedVariables false
section
variable {H : Type} {enc : TypeId × Value → H} {w : World}
theorem parts2t (l : List Value) (h : l.length = 2) : l = (l.drop 0).take 1 ++ (l.drop 1).take 1 := by
  match l, h with
  | [a, b], _ => rfl
theorem term_cells {fuel : Nat} {cs : List Value} {x : DataW H × List MemPlace} (hcl : cs.length = 2) (hf : DataW.trod enc Tryd.prog w 0 (fun _ => true) true fuel 54 cs = some x) : ∃ t : Int × Int, cs = zc t := by
  have hi1 : Tryd.prog.cellsOf 3 = 1 := by kernel_rfl
  obtain ⟨xs, m, _, _, hl, hlen, hx⟩ := DataW.trod_struct Tryd.underlying54 hf
  have e : ∀ k, k < 2 → ∃ y, xs[k]? = some y := fun k hk => ⟨_, List.getElem?_eq_getElem (by rw [hlen]; exact hk)⟩
  obtain ⟨y0, e0⟩ := e 0 (by decide)
  obtain ⟨y1, e1⟩ := e 1 (by decide)
  have h0 := (hx 0 _ rfl).trans e0
  have h1 := (hx 1 _ rfl).trans e1
  change DataW.trod enc Tryd.prog w 0 (fun _ => true) true m 3 ((cs.drop 0).take (Tryd.prog.cellsOf 3)) = some y0 at h0
  change DataW.trod enc Tryd.prog w 0 (fun _ => true) true m 3 ((cs.drop 1).take (Tryd.prog.cellsOf 3)) = some y1 at h1
  rw [hi1] at h0 h1
  obtain ⟨n0, q0, _, _⟩ := DataW.trod_int Tryd.underlying3 h0
  obtain ⟨n1, q1, _, _⟩ := DataW.trod_int Tryd.underlying3 h1
  have hp := parts2t cs hcl
  rw [q0, q1] at hp
  exact ⟨(n0, n1), hp⟩
theorem terms_of : ∀ css : List (List Value), (∀ cs ∈ css, (∃ t : Int × Int, cs = zc t) ∧ cs.length = 2) → ∃ us : List (Int × Int), us.length = css.length ∧ css.flatten = zcs us
  | [], _ => ⟨[], rfl, rfl⟩
  | cs :: r, h => by
    obtain ⟨⟨b, rfl⟩, _⟩ := h cs (by simp)
    obtain ⟨l, h1, h2⟩ := terms_of r fun x hx => h x (by simp [hx])
    exact ⟨b :: l, by simp [h1], by rw [List.flatten_cons, h2]; rfl⟩
theorem open_terms {A : Option Addr} {len cap : Nat} {fuel : Nat} {x : DataW H × List MemPlace} (hf : DataW.trod enc Tryd.prog w 0 (fun _ => true) true fuel 28 [.slice A len cap] = some x) :
    ∃ us : List (Int × Int), us.length = len ∧ Sl w w.heap.size A 2 len (zcs us) ∧ us.length ≤ 9223372036854775807 := by
  obtain ⟨h1, h2, hd, css, h3, h4, h5⟩ := open_elems (size := 2) Tryd.underlying28 (by kernel_rfl) (by omega) (fun cs => ∃ t : Int × Int, cs = zc t) (fun n cs y hc hy => term_cells hc hy) hf
  obtain ⟨l, q1, q2⟩ := terms_of css h4
  have big : maxLen ≤ 9223372036854775807 := by decide
  exact ⟨l, q1.trans h3, q2 ▸ h5, by omega⟩
set_option maxRecDepth 100000 in
theorem open_plan {v : Value} {d : DataW H} {p : List MemPlace} (hv : Value.okWide Tryd.prog w .any 0 30 v)
    (h : DataW.Trod enc Tryd.prog w 0 (fun _ => true) true 30 v d p) : ∃ (u : Int) (l : List (Int × Int)) (A : Option Addr) (c : Nat), v = .agg #[.int .i64 u, .slice A l.length c] ∧ Sl w w.heap.size A 2 l.length (zcs l) ∧ l.length ≤ 9223372036854775807 := by
  have hc : Tryd.prog.cellsOf 30 = 2 := by kernel_rfl
  have hi1 : Tryd.prog.cellsOf 3 = 1 := by kernel_rfl
  have hi2 : Tryd.prog.cellsOf 28 = 1 := by kernel_rfl
  obtain ⟨cs, rfl, hs⟩ := okWide_struct Tryd.underlying30 hv
  obtain ⟨fuel, hf0⟩ := h
  have hcl : cs.toList.length = 2 := by rw [Array.length_toList, hs, hc]
  have hf : DataW.trod enc Tryd.prog w 0 (fun _ => true) true fuel 30 cs.toList = some _ := hf0
  obtain ⟨xs, m, _, _, hl, hlen, hx⟩ := DataW.trod_struct Tryd.underlying30 hf
  have e : ∀ k, k < 2 → ∃ y, xs[k]? = some y := fun k hk => ⟨_, List.getElem?_eq_getElem (by rw [hlen]; exact hk)⟩
  obtain ⟨y0, e0⟩ := e 0 (by decide)
  obtain ⟨y1, e1⟩ := e 1 (by decide)
  have h0 := (hx 0 _ rfl).trans e0
  have h1 := (hx 1 _ rfl).trans e1
  change DataW.trod enc Tryd.prog w 0 (fun _ => true) true m 3 ((cs.toList.drop 0).take (Tryd.prog.cellsOf 3)) = some y0 at h0
  change DataW.trod enc Tryd.prog w 0 (fun _ => true) true m 28 ((cs.toList.drop 1).take (Tryd.prog.cellsOf 28)) = some y1 at h1
  rw [hi1] at h0
  rw [hi2] at h1
  obtain ⟨n0, q0, _, _⟩ := DataW.trod_int Tryd.underlying3 h0
  have q1 : ∃ A n c, (cs.toList.drop 1).take 1 = [.slice A n c] := by
    rcases DataW.trod_slice Tryd.underlying28 h1 with ⟨h0, _⟩ | ⟨a, len', cap', elems, rest, n, _, h0, _⟩
    · exact ⟨_, _, _, h0⟩
    · exact ⟨_, _, _, h0⟩
  obtain ⟨A, ln, c, q1⟩ := q1
  rw [q1] at h1
  obtain ⟨l, rfl, hsl, hb⟩ := open_terms h1
  have hp := parts2t _ hcl
  rw [q0, q1] at hp
  refine ⟨n0, l, A, c, ?_, hsl, hb⟩
  congr 1
  rw [← Array.toList_inj, hp]
  rfl
end
end Go.Proofs.YtklngodlijiccaaDoor
