/-
  Arguments that came in: words of 32 bits, lists of byte slices, an array of four bytes.
-/
import Derived.Test.YtdnbnbnfbfdflaaDoorArgE
import Derived.Test.YtdnbnbnfbfdflaaDoorWord
namespace Go.Proofs.YtdnbnbnfbfdflaaDoor
open Go.ChangeShapes Go.WideShapes Go.ChangeAt Go.RowKit
set_option linter.unusedVariables false

theorem wf_u32 {n : Int} (h : (Lit.int .u32 n).wf = true) : 0 ≤ n ∧ n ≤ 4294967295 := by simpa [Lit.wf, IntKind.min, IntKind.max, IntKind.signed, IntKind.bits] using h
theorem wv_of {n : Int} (h : 0 ≤ n ∧ n ≤ 4294967295) : ∃ x : UInt32, Value.int .u32 n = wv x := by
  refine ⟨UInt32.ofNat n.toNat, ?_⟩
  unfold wv
  congr 1
  rw [UInt32.toNat_ofNat']
  omega

/-- A slice that came in, element by element, with what each reads as. -/
theorem open_elems2 {H : Type} {enc : TypeId × Value → H} {P : Program} {w : World} {base : Nat} {spare : Nat → Bool} {held : Bool} {T e : TypeId} {size : Nat} (hT : P.underlying T = some (.slice e)) (hc : P.cellsOf e = size) (hs : 0 < size)
    (Good : List Value → DataW H → Prop) (hG : ∀ n cs y, cs.length = size → DataW.trod enc P w base spare held n e cs = some y → Good cs y.1)
    {fuel : Nat} {A : Option Addr} {len cap : Nat} {x : DataW H × List MemPlace} (h : DataW.trod enc P w base spare held fuel T [.slice A len cap] = some x) :
    len ≤ cap ∧ cap ≤ maxLen ∧ ∃ prs : List (List Value × DataW H), prs.length = len ∧ (∀ q ∈ prs, Good q.1 q.2 ∧ q.1.length = size) ∧ ((x.1 = .nil ∧ len = 0) ∨ ∃ rs, x.1 = .slice (prs.map (·.2)) rs) ∧ Sl w w.heap.size A size len (prs.map (·.1)).flatten := by
  rcases DataW.trod_slice hT h with ⟨h0, hx0⟩ | ⟨a, len', cap', elems, rest, n, _, h0, hx0, hb, hl, hm, hlen, hel, _, _⟩
  · simp only [List.cons.injEq, Value.slice.injEq, and_true] at h0
    obtain ⟨rfl, rfl, rfl⟩ := h0
    exact ⟨Nat.le_refl _, by decide, [], rfl, by simp, .inl ⟨by rw [hx0], rfl⟩, Sl.nil _ _ _ _⟩
  · simp only [List.cons.injEq, Value.slice.injEq, and_true] at h0
    obtain ⟨rfl, rfl, rfl⟩ := h0
    refine ⟨hl, hm, ?_⟩
    have key : ∀ m, m ≤ len → ∃ prs : List (List Value × DataW H), prs.length = m ∧ prs.map (·.2) = (elems.take m).map (·.1) ∧ (∀ q ∈ prs, Good q.1 q.2 ∧ q.1.length = size) ∧ (prs.map (·.1)).flatten.length = m * size ∧ ∀ j u, (prs.map (·.1)).flatten[j]? = some u → w.cell? (a.add j) = some u := by
      intro m
      induction m with
      | zero => intro _; exact ⟨[], rfl, rfl, by simp, by simp, by simp⟩
      | succ m ih =>
        intro hm'
        obtain ⟨css, q1, q0, q2, q3, q4⟩ := ih (by omega)
        have h1 := hel m (by omega)
        have hml : m < elems.length := by omega
        rw [List.getElem?_eq_getElem hml, Option.bind_eq_some_iff] at h1
        obtain ⟨cs, hcs, hy⟩ := h1
        obtain ⟨_, p2, p3⟩ := World.cells?_some hcs
        rw [hc] at p2 p3
        refine ⟨css ++ [(cs, elems[m].1)], by rw [List.length_append, q1]; rfl, ?_, ?_, ?_⟩
        · rw [List.map_append, q0, List.take_add_one, List.getElem?_eq_getElem hml, List.map_append]
          rfl
        · intro cs' hcs'
          rcases List.mem_append.1 hcs' with hh | hh
          · exact q2 cs' hh
          · rw [List.mem_singleton] at hh
            subst hh
            exact ⟨hG _ _ _ p2 hy, p2⟩
        · rw [List.map_append, List.flatten_append, List.length_append, q3, List.map_singleton, List.flatten_singleton, p2, Nat.succ_mul]
          refine ⟨rfl, ?_⟩
          intro j u hu
          by_cases hj : j < m * size
          · rw [List.getElem?_append_left (by omega)] at hu
            exact q4 j u hu
          · rw [List.getElem?_append_right (by omega), q3] at hu
            have hlt : j - m * size < size := by
              have := (List.getElem?_eq_some_iff.1 hu).1
              have e1 : (cs, elems[m].1).1.length = size := p2
              omega
            have := p3 (j - m * size) hlt
            rw [add_twice, show m * size + (j - m * size) = j by omega] at this
            rw [this, hu]
    obtain ⟨css, q1, q0, q2, q3, q4⟩ := key len (Nat.le_refl _)
    refine ⟨css, q1, q2, .inr ⟨_, by rw [hx0, q0, List.take_of_length_le (by omega)]⟩, q3, fun hp => ?_⟩
    have hz := q4 0 _ (List.getElem?_eq_getElem hp)
    have hsp := World.cell?_spot hz
    have hbl := World.block_lt_of_cell? w _ hz
    rw [add_block] at hbl
    obtain ⟨b, off, spot⟩ := a
    have : spot = none := by simpa [Addr.add] using hsp
    subst this
    exact ⟨b, off, rfl, hbl, fun j u hu => by have := q4 j u hu; rwa [addr_add] at this⟩

/-- A list of byte slices in memory. -/
def RowsAt (w : World) (B : Nat) (A : Option Addr) (ls : List (List UInt8)) : Prop :=
  ∃ vs : List Value, Sl w B A 1 ls.length vs ∧ ∀ (i : Nat) (l : List UInt8), ls[i]? = some l → ∃ (Ai : Option Addr) (ci : Nat), vs[i]? = some (.slice Ai l.length ci) ∧ Sl w B Ai 1 l.length (l.map bv)
theorem RowsAt.below {w w' : World} {B : Nat} {A : Option Addr} {ls : List (List UInt8)} (h : RowsAt w B A ls) (hb : Below B w w') : RowsAt w' B A ls := by
  obtain ⟨vs, h1, h2⟩ := h
  exact ⟨vs, h1.below hb, fun i l hi => by obtain ⟨Ai, ci, q1, q2⟩ := h2 i l hi; exact ⟨Ai, ci, q1, q2.below hb⟩⟩
theorem RowsAt.row {w : World} {B : Nat} {A : Option Addr} {ls : List (List UInt8)} (h : RowsAt w B A ls) {k : Nat} (hk : k < ls.length) :
    ∃ b off Ai ci, A = some ⟨b, off, none⟩ ∧ b < B ∧ w.cell? ⟨b, off + k, none⟩ = some (.slice Ai ls[k].length ci) ∧ Sl w B Ai 1 ls[k].length (ls[k].map bv) := by
  obtain ⟨vs, h1, h2⟩ := h
  obtain ⟨Ai, ci, q1, q2⟩ := h2 k ls[k] (List.getElem?_eq_getElem hk)
  obtain ⟨b, off, u, rfl, hb, hu, hcell⟩ := h1.at_ hk
  rw [q1] at hu
  injection hu with hu
  subst hu
  exact ⟨b, off, Ai, ci, rfl, hb, hcell, q2⟩

def sumLen (ls : List (List UInt8)) : Nat := (ls.map (·.length)).sum
theorem one_le {H : Type} (d : DataW H) : 1 ≤ Rows.uptoBulk d := by
  cases d with
  | lit l => cases l <;> simp [Rows.uptoBulk]
  | nil => simp [Rows.uptoBulk]
  | ptr d => simp [Rows.uptoBulk]
  | slice elems spare => simp [Rows.uptoBulk]
  | agg parts => simp [Rows.uptoBulk]
  | iface t d => simp [Rows.uptoBulk]
  | map entries => simp [Rows.uptoBulk]
  | held h => simp [Rows.uptoBulk]
theorem bulk_le {H : Type} (l : List (DataW H)) : l.length ≤ Rows.uptoBulkAll l := by
  induction l with
  | nil => simp [Rows.uptoBulkAll]
  | cons x r ih => have := one_le x; simp only [Rows.uptoBulkAll, List.length_cons]; omega
theorem bulk_slice {H : Type} (es rs : List (DataW H)) : Rows.uptoBulkAll es + 1 ≤ Rows.uptoBulk (.slice es rs) := by
  simp only [Rows.uptoBulk]; omega

section
variable {H : Type} {enc : TypeId × Value → H} {w : World} {A : Option Addr} {len cap : Nat} {d : DataW H} {p : List MemPlace}
theorem rows_of {ls0 : List (List Value × DataW H)} (h : ∀ q ∈ ls0, (∃ (Ai : Option Addr) (ci : Nat), ∃ l : List UInt8, q.1 = [.slice Ai l.length ci] ∧ Sl w w.heap.size Ai 1 l.length (l.map bv) ∧ l.length + 1 ≤ Rows.uptoBulk q.2) ∧ q.1.length = 1) :
    ∃ ls : List (List UInt8), ls.length = ls0.length ∧ sumLen ls ≤ Rows.uptoBulkAll (ls0.map (·.2)) ∧
      ∀ (i : Nat) (l : List UInt8), ls[i]? = some l → ∃ (Ai : Option Addr) (ci : Nat), (ls0.map (·.1)).flatten[i]? = some (.slice Ai l.length ci) ∧ Sl w w.heap.size Ai 1 l.length (l.map bv) := by
  induction ls0 with
  | nil => exact ⟨[], rfl, by simp [sumLen], by simp⟩
  | cons q r ih =>
    obtain ⟨ls, h1, h2, h3⟩ := ih fun x hx => h x (by simp [hx])
    obtain ⟨⟨Ai, ci, l, e1, e2, e3⟩, _⟩ := h q (by simp)
    refine ⟨l :: ls, by simp [h1], ?_, ?_⟩
    · simp only [sumLen, List.map_cons, List.sum_cons, Rows.uptoBulkAll] at h2 ⊢
      omega
    · intro i l' hi
      cases i with
      | zero =>
        simp only [List.getElem?_cons_zero, Option.some.injEq] at hi
        subst hi
        exact ⟨Ai, ci, by simp [e1], e2⟩
      | succ i =>
        rw [List.getElem?_cons_succ] at hi
        obtain ⟨Aj, cj, f1, f2⟩ := h3 i l' hi
        exact ⟨Aj, cj, by rw [List.map_cons, List.flatten_cons, e1, List.singleton_append, List.getElem?_cons_succ]; exact f1, f2⟩
theorem open_rows (h : DataW.Trod enc Tryd.prog w 0 (fun _ => true) true 30 (.slice A len cap) d p) :
    len ≤ cap ∧ cap ≤ maxLen ∧ ∃ ls : List (List UInt8), ls.length = len ∧ RowsAt w w.heap.size A ls ∧ (sumLen ls + 1 ≤ Rows.uptoBulk d) ∧ len + 1 ≤ Rows.uptoBulk d := by
  obtain ⟨fuel, hf⟩ := h
  obtain ⟨h1, h2, prs, h3, h4, hd, h5⟩ := open_elems2 (size := 1) Tryd.underlying30 (by kernel_rfl) (by omega)
    (fun cs y => ∃ (Ai : Option Addr) (ci : Nat), ∃ l : List UInt8, cs = [.slice Ai l.length ci] ∧ Sl w w.heap.size Ai 1 l.length (l.map bv) ∧ l.length + 1 ≤ Rows.uptoBulk y) (fun n cs y hcl hy => by
      obtain ⟨c, rfl⟩ : ∃ c, cs = [c] := List.length_eq_one_iff.1 hcl
      rcases DataW.trod_slice Tryd.underlying22 hy with ⟨h0, hx0⟩ | ⟨a, len', cap', elems, rest, n', _, h0, hx0, hb, hl, hm, hlen, hel, _, _⟩
      · simp only [List.cons.injEq, and_true] at h0
        subst h0
        exact ⟨none, 0, [], rfl, Sl.nil _ _ _ _, one_le _⟩
      · simp only [List.cons.injEq, and_true] at h0
        subst h0
        obtain ⟨_, _, hdd, l, q1, q2⟩ := open_bytes (enc := enc) (p := y.2) (d := y.1) ⟨_, hy⟩
        subst q1
        refine ⟨_, _, l, rfl, q2, ?_⟩
        rcases hdd with ⟨e1, e2⟩ | ⟨es, rs, e1, e2⟩
        · rw [e2]; exact one_le _
        · rw [e1]
          have := bulk_slice es rs
          have := bulk_le es
          omega) hf
  obtain ⟨ls, q1, q2, q3⟩ := rows_of h4
  refine ⟨h1, h2, ls, q1.trans h3, ⟨_, by rw [q1, h3]; exact h5, q3⟩, ?_⟩
  rcases hd with ⟨e1, e2⟩ | ⟨rs, e1⟩
  · subst e2
    obtain rfl : ls = [] := List.length_eq_zero_iff.1 (q1.trans h3)
    have := one_le d
    exact ⟨by simpa [sumLen] using this, by omega⟩
  · have e1 : d = _ := e1
    rw [e1]
    have := bulk_slice (prs.map (·.2)) rs
    have h9 := bulk_le (prs.map (·.2))
    rw [List.length_map, h3] at h9
    exact ⟨by omega, by omega⟩
theorem open_arr {v : Value} (hv : Value.okWide Tryd.prog w .any 0 34 v) (h : DataW.Trod enc Tryd.prog w 0 (fun _ => true) true 34 v d p) :
    ∃ l : List UInt8, v = .agg (l.map bv).toArray ∧ l.length = 4 := by
  have hu : Tryd.prog.underlying 34 = some (.array 4 5) := by kernel_rfl
  have hc : Tryd.prog.cellsOf 34 = 4 := by kernel_rfl
  unfold Value.okWide at hv
  rw [hu] at hv
  obtain ⟨cs, rfl, hs, _⟩ := hv
  obtain ⟨fuel, hf⟩ := h
  have hl : cs.toList.length = 4 := by rw [Array.length_toList, hs, hc]
  have hf : DataW.trod enc Tryd.prog w 0 (fun _ => true) true fuel 34 cs.toList = some (d, p) := hf
  have hc1 : Tryd.prog.cellsOf 5 = 1 := by kernel_rfl
  obtain ⟨xs, m, _, _, _, hxl, hx⟩ := DataW.trod_array (n := 4) (e := 5) (by kernel_rfl) hf
  rw [hc1] at hx
  have each : ∀ v ∈ cs.toList, ∃ b : UInt8, v = bv b := by
    intro v hv
    obtain ⟨i, hi, rfl⟩ := List.mem_iff_getElem.1 hv
    have h7 := hx i (by omega)
    rw [Nat.mul_one, List.getElem?_eq_getElem (by omega)] at h7
    obtain ⟨z, hz, _, hw⟩ := DataW.trod_int Tryd.underlying5 h7
    rw [List.drop_eq_getElem_cons hi, List.take_succ_cons, List.take_zero] at hz
    injection hz with hz _
    exact ⟨UInt8.ofNat z.toNat, by rw [hz, bv_of (wf_u8 hw)]⟩
  obtain ⟨l, hl2⟩ := list_bv cs.toList each
  refine ⟨l, ?_, by rw [hl2, List.length_map] at hl; exact hl⟩
  rw [← hl2]
end

end Go.Proofs.YtdnbnbnfbfdflaaDoor
