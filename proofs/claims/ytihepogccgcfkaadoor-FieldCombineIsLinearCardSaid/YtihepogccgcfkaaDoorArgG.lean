/-
  Arguments that came in: the two structs of layer 5.
-/
import Derived.Test.YtihepogccgcfkaaDoorArgF
import Derived.Test.YtihepogccgcfkaaDoorFldY
namespace Go.Proofs.YtihepogccgcfkaaDoor
open Go.ChangeShapes Go.WideShapes Go.ChangeAt Go.RowKit
set_option linter.unusedVariables false

theorem strs_of : ∀ css : List (List Value), (∀ cs ∈ css, (∃ s : ByteArray, cs = [.string s]) ∧ cs.length = 1) → ∃ us : List (List UInt8), us.length = css.length ∧ css.flatten = us.map sv
  | [], _ => ⟨[], rfl, rfl⟩
  | cs :: r, h => by
    obtain ⟨⟨b, rfl⟩, _⟩ := h cs (by simp)
    obtain ⟨l, h1, h2⟩ := strs_of r fun x hx => h x (by simp [hx])
    exact ⟨b.data.toList :: l, by simp [h1], by simp [h2, sv, list_str]⟩
/-- A small integer as a cell. -/
abbrev uv (n : Nat) : Value := .int .u16 (n : Int)
theorem u16s_of : ∀ css : List (List Value), (∀ cs ∈ css, (∃ n : Nat, cs = [uv n] ∧ n < 65536) ∧ cs.length = 1) → ∃ l : List Nat, l.length = css.length ∧ css.flatten = l.map uv ∧ ∀ n ∈ l, n < 65536
  | [], _ => ⟨[], rfl, rfl, by simp⟩
  | cs :: r, h => by
    obtain ⟨⟨b, rfl, hb⟩, _⟩ := h cs (by simp)
    obtain ⟨l, h1, h2, h3⟩ := u16s_of r fun x hx => h x (by simp [hx])
    exact ⟨b :: l, by simp [h1], by simp [h2], by intro n hn; rcases List.mem_cons.1 hn with rfl | hn; exact hb; exact h3 n hn⟩
section
variable {H : Type} {enc : TypeId × Value → H} {w : World} {A : Option Addr} {len cap : Nat}
theorem slice_is {T e : TypeId} (hT : Tryd.prog.underlying T = some (.slice e)) {fuel : Nat} {cs : List Value} {x : DataW H × List MemPlace} (h : DataW.trod enc Tryd.prog w 0 (fun _ => true) true fuel T cs = some x) : ∃ A n c, cs = [.slice A n c] := by
  rcases DataW.trod_slice hT h with ⟨h0, _⟩ | ⟨a, len', cap', elems, rest, n, _, h0, _⟩
  · exact ⟨_, _, _, h0⟩
  · exact ⟨_, _, _, h0⟩
theorem open_strs {fuel : Nat} {x : DataW H × List MemPlace} (hf : DataW.trod enc Tryd.prog w 0 (fun _ => true) true fuel 30 [.slice A len cap] = some x) :
    ∃ us : List (List UInt8), us.length = len ∧ Sl w w.heap.size A 1 len (us.map sv) := by
  obtain ⟨h1, h2, hd, css, h3, h4, h5⟩ := open_elems (size := 1) Tryd.underlying30 (by kernel_rfl) (by omega) (fun cs => ∃ s : ByteArray, cs = [.string s]) (fun n cs y _ hy => by
    obtain ⟨s, rfl, _, hw⟩ := DataW.trod_string Tryd.underlying9 hy
    exact ⟨s, rfl⟩) hf
  obtain ⟨l, q1, q2⟩ := strs_of css h4
  exact ⟨l, q1.trans h3, q2 ▸ h5⟩
theorem open_nums {fuel : Nat} {x : DataW H × List MemPlace} (hf : DataW.trod enc Tryd.prog w 0 (fun _ => true) true fuel 29 [.slice A len cap] = some x) :
    ∃ l : List Int, l.length = len ∧ Sl w w.heap.size A 1 len (l.map iv) := by
  obtain ⟨h1, h2, hd, css, h3, h4, h5⟩ := open_elems (size := 1) Tryd.underlying29 (by kernel_rfl) (by omega) (fun cs => ∃ n : Int, cs = [iv n] ∧ -9223372036854775808 ≤ n ∧ n ≤ 9223372036854775807) (fun n cs y _ hy => by
    obtain ⟨m, rfl, _, hw⟩ := DataW.trod_int Tryd.underlying3 hy
    exact ⟨m, rfl, wf_i64 hw⟩) hf
  obtain ⟨l, q1, q2, q3⟩ := nums_of css h4
  exact ⟨l, q1.trans h3, q2 ▸ h5⟩
theorem open_u16s {fuel : Nat} {x : DataW H × List MemPlace} (hf : DataW.trod enc Tryd.prog w 0 (fun _ => true) true fuel 42 [.slice A len cap] = some x) :
    ∃ l : List Nat, l.length = len ∧ Sl w w.heap.size A 1 len (l.map uv) ∧ ∀ n ∈ l, n < 65536 := by
  obtain ⟨h1, h2, hd, css, h3, h4, h5⟩ := open_elems (size := 1) Tryd.underlying42 (by kernel_rfl) (by omega) (fun cs => ∃ n : Nat, cs = [uv n] ∧ n < 65536) (fun n cs y _ hy => by
    obtain ⟨m, rfl, _, hw⟩ := DataW.trod_int Tryd.underlying38 hy
    obtain ⟨x, rfl, hx⟩ := nat_u16 (wf_u16 hw)
    exact ⟨x, rfl, hx⟩) hf
  obtain ⟨l, q1, q2, q3⟩ := u16s_of css h4
  exact ⟨l, q1.trans h3, q2 ▸ h5, q3⟩
end
theorem parts5 (l : List Value) (h : l.length = 5) : l = (l.drop 0).take 1 ++ ((l.drop 1).take 1 ++ ((l.drop 2).take 1 ++ ((l.drop 3).take 1 ++ (l.drop 4).take 1))) := by
  match l, h with
  | [a, b, c, d, e], _ => rfl
theorem parts6 (l : List Value) (h : l.length = 6) : l = (l.drop 0).take 1 ++ ((l.drop 1).take 1 ++ ((l.drop 2).take 1 ++ ((l.drop 3).take 1 ++ ((l.drop 4).take 1 ++ (l.drop 5).take 1)))) := by
  match l, h with
  | [a, b, c, d, e, f], _ => rfl

/-- The first struct's cells. -/
abbrev uinV (m c : Int) (s t : Value) (o : List UInt8) : Value := .agg #[.int .i64 m, .int .i64 c, s, t, .string (str o)]
theorem open_uin {H : Type} {enc : TypeId × Value → H} {w : World} {v : Value} {d : DataW H} {p : List MemPlace} (hv : Value.okWide Tryd.prog w .any 0 32 v)
    (h : DataW.Trod enc Tryd.prog w 0 (fun _ => true) true 32 v d p) : ∃ (m c : Int) (A : Option Addr) (ca : Nat) (cs : List Int) (D : Option Addr) (cd : Nat) (us : List (List UInt8)) (o : List UInt8), v = uinV m c (.slice A cs.length ca) (.slice D us.length cd) o ∧
      Sl w w.heap.size A 1 cs.length (cs.map iv) ∧ Sl w w.heap.size D 1 us.length (us.map sv) := by
  have hc : Tryd.prog.cellsOf 32 = 5 := by kernel_rfl
  have hi1 : Tryd.prog.cellsOf 3 = 1 := by kernel_rfl
  have hs1 : Tryd.prog.cellsOf 29 = 1 := by kernel_rfl
  have ht1 : Tryd.prog.cellsOf 30 = 1 := by kernel_rfl
  have hu1 : Tryd.prog.cellsOf 9 = 1 := by kernel_rfl
  obtain ⟨cs, rfl, hs⟩ := okWide_struct Tryd.underlying32 hv
  obtain ⟨fuel, hf⟩ := h
  obtain ⟨xs, m, _, _, hl, hlen, hx⟩ := DataW.trod_struct Tryd.underlying32 hf
  have e : ∀ k, k < 5 → ∃ y, xs[k]? = some y := fun k hk => ⟨_, List.getElem?_eq_getElem (by rw [hlen]; exact hk)⟩
  obtain ⟨y0, e0⟩ := e 0 (by decide)
  obtain ⟨y1, e1⟩ := e 1 (by decide)
  obtain ⟨y2, e2⟩ := e 2 (by decide)
  obtain ⟨y3, e3⟩ := e 3 (by decide)
  obtain ⟨y4, e4⟩ := e 4 (by decide)
  have h0 := (hx 0 _ rfl).trans e0
  have h1 := (hx 1 _ rfl).trans e1
  have h2 := (hx 2 _ rfl).trans e2
  have h3 := (hx 3 _ rfl).trans e3
  have h4 := (hx 4 _ rfl).trans e4
  have hcl : cs.toList.length = 5 := by rw [Array.length_toList, hs, hc]
  change DataW.trod enc Tryd.prog w 0 (fun _ => true) true m 3 ((cs.toList.drop 0).take (Tryd.prog.cellsOf 3)) = some y0 at h0
  change DataW.trod enc Tryd.prog w 0 (fun _ => true) true m 3 ((cs.toList.drop 1).take (Tryd.prog.cellsOf 3)) = some y1 at h1
  change DataW.trod enc Tryd.prog w 0 (fun _ => true) true m 29 ((cs.toList.drop 2).take (Tryd.prog.cellsOf 29)) = some y2 at h2
  change DataW.trod enc Tryd.prog w 0 (fun _ => true) true m 30 ((cs.toList.drop 3).take (Tryd.prog.cellsOf 30)) = some y3 at h3
  change DataW.trod enc Tryd.prog w 0 (fun _ => true) true m 9 ((cs.toList.drop 4).take (Tryd.prog.cellsOf 9)) = some y4 at h4
  rw [hi1] at h0 h1
  rw [hs1] at h2
  rw [ht1] at h3
  rw [hu1] at h4
  obtain ⟨n0, q0, _, _⟩ := DataW.trod_int Tryd.underlying3 h0
  obtain ⟨n1, q1, _, _⟩ := DataW.trod_int Tryd.underlying3 h1
  obtain ⟨A, la, ca, q2⟩ := slice_is Tryd.underlying29 h2
  obtain ⟨D, ld, cd, q3⟩ := slice_is Tryd.underlying30 h3
  obtain ⟨s, q4, _, _⟩ := DataW.trod_string Tryd.underlying9 h4
  rw [q2] at h2
  rw [q3] at h3
  obtain ⟨l2, r2, x2⟩ := open_nums h2
  obtain ⟨l3, r3, x3⟩ := open_strs h3
  subst r2 r3
  refine ⟨n0, n1, A, ca, l2, D, cd, l3, s.data.toList, ?_, x2, x3⟩
  have hp := parts5 cs.toList hcl
  rw [q0, q1, q2, q3, q4] at hp
  show Value.agg cs = .agg _
  rw [list_str]
  congr 1
  rw [← Array.toList_inj, hp]
  rfl

/-- The second struct's cells. -/
abbrev linV (b : Bool) (c : Nat) (s t u : Value) (n : Int) : Value := .agg #[.bool b, uv c, s, t, u, .int .i64 n]
theorem open_lin {H : Type} {enc : TypeId × Value → H} {w : World} {v : Value} {d : DataW H} {p : List MemPlace} (hv : Value.okWide Tryd.prog w .any 0 44 v)
    (h : DataW.Trod enc Tryd.prog w 0 (fun _ => true) true 44 v d p) : ∃ (b : Bool) (c : Nat) (A : Option Addr) (ca : Nat) (cs : List Nat) (D : Option Addr) (cd : Nat) (us : List (List UInt8)) (E : Option Addr) (ce : Nat) (vs : List (List UInt8)) (n : Int), v = linV b c (.slice A cs.length ca) (.slice D us.length cd) (.slice E vs.length ce) n ∧
      c < 65536 ∧ Sl w w.heap.size A 1 cs.length (cs.map uv) ∧ (∀ n ∈ cs, n < 65536) ∧ Sl w w.heap.size D 1 us.length (us.map sv) ∧ Sl w w.heap.size E 1 vs.length (vs.map sv) ∧ (-9223372036854775808 ≤ n ∧ n ≤ 9223372036854775807) := by
  have hc : Tryd.prog.cellsOf 44 = 6 := by kernel_rfl
  have hb1 : Tryd.prog.cellsOf 4 = 1 := by kernel_rfl
  have hw1 : Tryd.prog.cellsOf 38 = 1 := by kernel_rfl
  have hi1 : Tryd.prog.cellsOf 3 = 1 := by kernel_rfl
  have hs1 : Tryd.prog.cellsOf 42 = 1 := by kernel_rfl
  have ht1 : Tryd.prog.cellsOf 30 = 1 := by kernel_rfl
  obtain ⟨cs, rfl, hs⟩ := okWide_struct Tryd.underlying44 hv
  obtain ⟨fuel, hf⟩ := h
  obtain ⟨xs, m, _, _, hl, hlen, hx⟩ := DataW.trod_struct Tryd.underlying44 hf
  have e : ∀ k, k < 6 → ∃ y, xs[k]? = some y := fun k hk => ⟨_, List.getElem?_eq_getElem (by rw [hlen]; exact hk)⟩
  obtain ⟨y0, e0⟩ := e 0 (by decide)
  obtain ⟨y1, e1⟩ := e 1 (by decide)
  obtain ⟨y2, e2⟩ := e 2 (by decide)
  obtain ⟨y3, e3⟩ := e 3 (by decide)
  obtain ⟨y4, e4⟩ := e 4 (by decide)
  obtain ⟨y5, e5⟩ := e 5 (by decide)
  have h0 := (hx 0 _ rfl).trans e0
  have h1 := (hx 1 _ rfl).trans e1
  have h2 := (hx 2 _ rfl).trans e2
  have h3 := (hx 3 _ rfl).trans e3
  have h4 := (hx 4 _ rfl).trans e4
  have h5 := (hx 5 _ rfl).trans e5
  have hcl : cs.toList.length = 6 := by rw [Array.length_toList, hs, hc]
  change DataW.trod enc Tryd.prog w 0 (fun _ => true) true m 4 ((cs.toList.drop 0).take (Tryd.prog.cellsOf 4)) = some y0 at h0
  change DataW.trod enc Tryd.prog w 0 (fun _ => true) true m 38 ((cs.toList.drop 1).take (Tryd.prog.cellsOf 38)) = some y1 at h1
  change DataW.trod enc Tryd.prog w 0 (fun _ => true) true m 42 ((cs.toList.drop 2).take (Tryd.prog.cellsOf 42)) = some y2 at h2
  change DataW.trod enc Tryd.prog w 0 (fun _ => true) true m 30 ((cs.toList.drop 3).take (Tryd.prog.cellsOf 30)) = some y3 at h3
  change DataW.trod enc Tryd.prog w 0 (fun _ => true) true m 30 ((cs.toList.drop 4).take (Tryd.prog.cellsOf 30)) = some y4 at h4
  change DataW.trod enc Tryd.prog w 0 (fun _ => true) true m 3 ((cs.toList.drop 5).take (Tryd.prog.cellsOf 3)) = some y5 at h5
  rw [hb1] at h0
  rw [hw1] at h1
  rw [hs1] at h2
  rw [ht1] at h3 h4
  rw [hi1] at h5
  obtain ⟨b0, q0, _⟩ := DataW.trod_bool Tryd.underlying4 h0
  obtain ⟨z1, q1, _, z1w⟩ := DataW.trod_int Tryd.underlying38 h1
  obtain ⟨n1, rfl, hn1⟩ := nat_u16 (wf_u16 z1w)
  obtain ⟨A, la, ca, q2⟩ := slice_is Tryd.underlying42 h2
  obtain ⟨D, ld, cd, q3⟩ := slice_is Tryd.underlying30 h3
  obtain ⟨E, le, ce, q4⟩ := slice_is Tryd.underlying30 h4
  obtain ⟨n5, q5, _, n5w⟩ := DataW.trod_int Tryd.underlying3 h5
  rw [q2] at h2
  rw [q3] at h3
  rw [q4] at h4
  obtain ⟨l2, r2, x2, w2⟩ := open_u16s h2
  obtain ⟨l3, r3, x3⟩ := open_strs h3
  obtain ⟨l4, r4, x4⟩ := open_strs h4
  subst r2 r3 r4
  refine ⟨b0, n1, A, ca, l2, D, cd, l3, E, ce, l4, n5, ?_, hn1, x2, w2, x3, x4, wf_i64 n5w⟩
  have hp := parts6 cs.toList hcl
  rw [q0, q1, q2, q3, q4, q5] at hp
  show Value.agg cs = .agg _
  congr 1
  rw [← Array.toList_inj, hp]
  rfl

end Go.Proofs.YtihepogccgcfkaaDoor
