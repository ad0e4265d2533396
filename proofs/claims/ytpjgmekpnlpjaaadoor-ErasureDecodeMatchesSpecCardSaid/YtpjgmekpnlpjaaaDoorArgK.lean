/-
  Arguments opened: codes, lists of strings and of booleans.
-/
import Derived.Test.YtpjgmekpnlpjaaaDoorArgE
import Derived.Test.YtpjgmekpnlpjaaaDoorEraG
namespace Go.Proofs.YtpjgmekpnlpjaaaDoor
open Go.ChangeShapes Go.WideShapes Go.ChangeAt Go.RowKit
set_option linter.unusedVariables false

theorem parts5c (l : List Value) (h : l.length = 5) : l = (l.drop 0).take 1 ++ ((l.drop 1).take 1 ++ ((l.drop 2).take 1 ++ ((l.drop 3).take 1 ++ (l.drop 4).take 1))) := by
  match l, h with
  | [a, b, c, d, e], _ => rfl
section
variable {H : Type} {enc : TypeId × Value → H} {w : World}
theorem slice_is7 {T e : TypeId} (hT : Tryd.prog.underlying T = some (.slice e)) {fuel : Nat} {cs : List Value} {x : DataW H × List MemPlace} (h : DataW.trod enc Tryd.prog w 0 (fun _ => true) true fuel T cs = some x) : ∃ A n c, cs = [.slice A n c] := by
  rcases DataW.trod_slice hT h with ⟨h0, _⟩ | ⟨a, len', cap', elems, rest, n, _, h0, _⟩
  · exact ⟨_, _, _, h0⟩
  · exact ⟨_, _, _, h0⟩
theorem open_nums7 {A : Option Addr} {len cap : Nat} {fuel : Nat} {x : DataW H × List MemPlace} (hf : DataW.trod enc Tryd.prog w 0 (fun _ => true) true fuel 29 [.slice A len cap] = some x) :
    len ≤ cap ∧ cap ≤ maxLen ∧ ∃ l : List Int, l.length = len ∧ Sl w w.heap.size A 1 len (l.map iv) := by
  obtain ⟨h1, h2, hd, css, h3, h4, h5⟩ := open_elems (size := 1) Tryd.underlying29 (by kernel_rfl) (by omega) (fun cs => ∃ n : Int, cs = [iv n] ∧ -9223372036854775808 ≤ n ∧ n ≤ 9223372036854775807) (fun n cs y _ hy => by
    obtain ⟨m, rfl, _, hw⟩ := DataW.trod_int Tryd.underlying3 hy
    exact ⟨m, rfl, wf_i64 hw⟩) hf
  obtain ⟨l, q1, q2, q3⟩ := nums_of css h4
  exact ⟨h1, h2, l, q1.trans h3, q2 ▸ h5⟩
def RowC (w : World) (cs : List Value) : Prop := ∃ (l : List Int) (A : Option Addr) (c : Nat), cs = [.slice A l.length c] ∧ Sl w w.heap.size A 1 l.length (l.map iv) ∧ l.length ≤ 9223372036854775807
theorem par_of : ∀ css : List (List Value), (∀ cs ∈ css, RowC w cs ∧ cs.length = 1) →
    ∃ par : List (List Int), par.length = css.length ∧ All2 (fun (l : List Int) u => ∃ A c, u = .slice A l.length c ∧ Sl w w.heap.size A 1 l.length (l.map iv)) par css.flatten ∧ ∀ l ∈ par, l.length ≤ 9223372036854775807
  | [], _ => ⟨[], rfl, trivial, fun l hl => by simp at hl⟩
  | cs :: css, h => by
    obtain ⟨par, h1, h2, h3⟩ := par_of css (fun c hc => h c (List.mem_cons_of_mem _ hc))
    obtain ⟨⟨l, A, c, rfl, hs, hl⟩, _⟩ := h cs (List.mem_cons_self ..)
    refine ⟨l :: par, by simp [h1], ⟨⟨A, c, rfl, hs⟩, h2⟩, fun x hx => ?_⟩
    rcases List.mem_cons.1 hx with rfl | hx
    · exact hl
    · exact h3 x hx
theorem open_par {A : Option Addr} {len cap : Nat} {fuel : Nat} {x : DataW H × List MemPlace} (hf : DataW.trod enc Tryd.prog w 0 (fun _ => true) true fuel 22 [.slice A len cap] = some x) :
    ∃ par : List (List Int), par.length = len ∧ PM w w.heap.size A par ∧ par.length ≤ 9223372036854775807 ∧ ∀ l ∈ par, l.length ≤ 9223372036854775807 := by
  have big : maxLen ≤ 9223372036854775807 := by decide
  obtain ⟨h1, h2, hd, css, h3, h4, h5⟩ := open_elems (size := 1) Tryd.underlying22 (by kernel_rfl) (by omega) (RowC w) (fun n cs y _ hy => by
    obtain ⟨Ai, ln, ci, rfl⟩ := slice_is7 Tryd.underlying29 hy
    obtain ⟨q1, q2, l, q3, q4⟩ := open_nums7 hy
    subst q3
    exact ⟨l, Ai, ci, rfl, q4, by omega⟩) hf
  obtain ⟨par, q1, q2, q3⟩ := par_of css h4
  have h6 : par.length = len := q1.trans h3
  refine ⟨par, h6, ⟨css.flatten, by rw [h6]; exact h5, q2⟩, by omega, q3⟩
def CodeIn (w : World) (cs : List Value) : Prop := ∃ (x : Cd) (A : Option Addr) (c : Nat), cs = cdC x.name x.field x.data (.slice A x.par.length c) x.dom ∧ CIn w x A ∧ x.name.length ≤ 9223372036854775807
set_option maxRecDepth 100000 in
theorem code_cells {fuel : Nat} {cs : List Value} {x : DataW H × List MemPlace} (hcl : cs.length = 5) (hf : DataW.trod enc Tryd.prog w 0 (fun _ => true) true fuel 24 cs = some x) : CodeIn w cs := by
  have hi1 : Tryd.prog.cellsOf 3 = 1 := by kernel_rfl
  have hs1 : Tryd.prog.cellsOf 22 = 1 := by kernel_rfl
  have hu1 : Tryd.prog.cellsOf 9 = 1 := by kernel_rfl
  obtain ⟨xs, m, _, _, hl, hlen, hx⟩ := DataW.trod_struct Tryd.underlying24 hf
  have e : ∀ k, k < 5 → ∃ y, xs[k]? = some y := fun k hk => ⟨_, List.getElem?_eq_getElem (by rw [hlen]; exact hk)⟩
  obtain ⟨y0, e0⟩ := e 0 (by decide)
  obtain ⟨y1, e1⟩ := e 1 (by decide)
  obtain ⟨y2, e2⟩ := e 2 (by decide)
  obtain ⟨y3, e3⟩ := e 3 (by decide)
  obtain ⟨y4, e4⟩ := e 4 (by decide)
  have h0 := (hx 0 _ rfl).trans e0
  have h1 := (hx 1 _ rfl).trans e1
  have h2 := (hx 2 _ rfl).trans e2
  have h3 := (hx 3 _ rfl).trans e3
  have h4 := (hx 4 _ rfl).trans e4
  change DataW.trod enc Tryd.prog w 0 (fun _ => true) true m 9 ((cs.drop 0).take (Tryd.prog.cellsOf 9)) = some y0 at h0
  change DataW.trod enc Tryd.prog w 0 (fun _ => true) true m 3 ((cs.drop 1).take (Tryd.prog.cellsOf 3)) = some y1 at h1
  change DataW.trod enc Tryd.prog w 0 (fun _ => true) true m 3 ((cs.drop 2).take (Tryd.prog.cellsOf 3)) = some y2 at h2
  change DataW.trod enc Tryd.prog w 0 (fun _ => true) true m 22 ((cs.drop 3).take (Tryd.prog.cellsOf 22)) = some y3 at h3
  change DataW.trod enc Tryd.prog w 0 (fun _ => true) true m 3 ((cs.drop 4).take (Tryd.prog.cellsOf 3)) = some y4 at h4
  rw [hi1] at h1 h2 h4
  rw [hs1] at h3
  rw [hu1] at h0
  obtain ⟨s, q0, _, hw0⟩ := DataW.trod_string Tryd.underlying9 h0
  obtain ⟨n1, q1, _, _⟩ := DataW.trod_int Tryd.underlying3 h1
  obtain ⟨n2, q2, _, _⟩ := DataW.trod_int Tryd.underlying3 h2
  obtain ⟨A, la, ca, q3⟩ := slice_is7 Tryd.underlying22 h3
  obtain ⟨n4, q4, _, _⟩ := DataW.trod_int Tryd.underlying3 h4
  rw [q3] at h3
  obtain ⟨par, r3, x3, b1, b2⟩ := open_par h3
  subst r3
  have hp := parts5c cs hcl
  rw [q0, q1, q2, q3, q4] at hp
  refine ⟨⟨s.data.toList, n1, n2, par, n4⟩, A, ca, ?_, ⟨x3, b1, b2⟩, ?_⟩
  · rw [hp]
    show _ = [sv s.data.toList, _, _, _, _]
    rw [show sv s.data.toList = .string (str s.data.toList) from rfl, list_str]
    rfl
  · show s.data.toList.length ≤ _
    have : s.size ≤ maxLen := hw0
    have big : maxLen ≤ 9223372036854775807 := by decide
    simp only [Array.length_toList]
    exact Nat.le_trans this big
set_option maxRecDepth 100000 in
theorem open_code {v : Value} {d : DataW H} {p : List MemPlace} (hv : Value.okWide Tryd.prog w .any 0 24 v)
    (h : DataW.Trod enc Tryd.prog w 0 (fun _ => true) true 24 v d p) : ∃ (x : Cd) (A : Option Addr) (c : Nat), v = cdV x.name x.field x.data (.slice A x.par.length c) x.dom ∧ CIn w x A ∧ x.name.length ≤ 9223372036854775807 := by
  have hc : Tryd.prog.cellsOf 24 = 5 := by kernel_rfl
  obtain ⟨cs, rfl, hs⟩ := okWide_struct Tryd.underlying24 hv
  obtain ⟨fuel, hf⟩ := h
  have hcl : cs.toList.length = 5 := by rw [Array.length_toList, hs, hc]
  obtain ⟨x, A, c, he, hin, hn⟩ := code_cells hcl (show DataW.trod enc Tryd.prog w 0 (fun _ => true) true fuel 24 cs.toList = some _ from hf)
  refine ⟨x, A, c, ?_, hin, hn⟩
  show Value.agg cs = .agg _
  congr 1
  rw [← Array.toList_inj, he]

theorem strs_of : ∀ css : List (List Value), (∀ cs ∈ css, (∃ s : ByteArray, cs = [.string s]) ∧ cs.length = 1) → ∃ us : List (List UInt8), us.length = css.length ∧ css.flatten = us.map sv
  | [], _ => ⟨[], rfl, rfl⟩
  | cs :: r, h => by
    obtain ⟨⟨b, rfl⟩, _⟩ := h cs (by simp)
    obtain ⟨l, h1, h2⟩ := strs_of r fun x hx => h x (by simp [hx])
    exact ⟨b.data.toList :: l, by simp [h1], by simp [h2, sv, list_str]⟩
theorem open_strs8 {A : Option Addr} {len cap : Nat} {fuel : Nat} {x : DataW H × List MemPlace} (hf : DataW.trod enc Tryd.prog w 0 (fun _ => true) true fuel 25 [.slice A len cap] = some x) :
    ∃ us : List (List UInt8), us.length = len ∧ Sl w w.heap.size A 1 len (us.map sv) ∧ us.length ≤ 9223372036854775807 := by
  obtain ⟨h1, h2, hd, css, h3, h4, h5⟩ := open_elems (size := 1) Tryd.underlying25 (by kernel_rfl) (by omega) (fun cs => ∃ s : ByteArray, cs = [.string s]) (fun n cs y _ hy => by
    obtain ⟨s, rfl, _, hw⟩ := DataW.trod_string Tryd.underlying9 hy
    exact ⟨s, rfl⟩) hf
  obtain ⟨l, q1, q2⟩ := strs_of css h4
  have big : maxLen ≤ 9223372036854775807 := by decide
  exact ⟨l, q1.trans h3, q2 ▸ h5, by omega⟩
theorem bools_of : ∀ css : List (List Value), (∀ cs ∈ css, (∃ b : Bool, cs = [.bool b]) ∧ cs.length = 1) → ∃ us : List Bool, us.length = css.length ∧ css.flatten = us.map bl
  | [], _ => ⟨[], rfl, rfl⟩
  | cs :: r, h => by
    obtain ⟨⟨b, rfl⟩, _⟩ := h cs (by simp)
    obtain ⟨l, h1, h2⟩ := bools_of r fun x hx => h x (by simp [hx])
    exact ⟨b :: l, by simp [h1], by simp [h2]⟩
theorem open_bools8 {A : Option Addr} {len cap : Nat} {fuel : Nat} {x : DataW H × List MemPlace} (hf : DataW.trod enc Tryd.prog w 0 (fun _ => true) true fuel 41 [.slice A len cap] = some x) :
    ∃ us : List Bool, us.length = len ∧ Sl w w.heap.size A 1 len (us.map bl) ∧ us.length ≤ 9223372036854775807 := by
  obtain ⟨h1, h2, hd, css, h3, h4, h5⟩ := open_elems (size := 1) Tryd.underlying41 (by kernel_rfl) (by omega) (fun cs => ∃ b : Bool, cs = [.bool b]) (fun n cs y _ hy => by
    obtain ⟨b, rfl, _⟩ := DataW.trod_bool Tryd.underlying4 hy
    exact ⟨b, rfl⟩) hf
  obtain ⟨l, q1, q2⟩ := bools_of css h4
  have big : maxLen ≤ 9223372036854775807 := by decide
  exact ⟨l, q1.trans h3, q2 ▸ h5, by omega⟩
theorem open_strsD {A : Option Addr} {len cap : Nat} {d : DataW H} {p : List MemPlace} (h : DataW.Trod enc Tryd.prog w 0 (fun _ => true) true 25 (.slice A len cap) d p) :
    ∃ us : List (List UInt8), us.length = len ∧ Sl w w.heap.size A 1 len (us.map sv) ∧ us.length ≤ 9223372036854775807 := by
  obtain ⟨fuel, hf⟩ := h
  exact open_strs8 (show DataW.trod enc Tryd.prog w 0 (fun _ => true) true fuel 25 [.slice A len cap] = some _ from hf)
theorem open_boolsD {A : Option Addr} {len cap : Nat} {d : DataW H} {p : List MemPlace} (h : DataW.Trod enc Tryd.prog w 0 (fun _ => true) true 41 (.slice A len cap) d p) :
    ∃ us : List Bool, us.length = len ∧ Sl w w.heap.size A 1 len (us.map bl) ∧ us.length ≤ 9223372036854775807 := by
  obtain ⟨fuel, hf⟩ := h
  exact open_bools8 (show DataW.trod enc Tryd.prog w 0 (fun _ => true) true fuel 41 [.slice A len cap] = some _ from hf)
end

end Go.Proofs.YtpjgmekpnlpjaaaDoor
