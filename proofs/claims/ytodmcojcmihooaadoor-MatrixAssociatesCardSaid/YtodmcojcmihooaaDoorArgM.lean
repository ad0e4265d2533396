/-
  Arguments that came in: a matrix, a list of integers.
-/
import Derived.Test.YtodmcojcmihooaaDoorArgE
import Derived.Test.YtodmcojcmihooaaDoorMatI
namespace Go.Proofs.YtodmcojcmihooaaDoor
open Go.ChangeShapes Go.WideShapes Go.ChangeAt Go.RowKit
set_option linter.unusedVariables false

theorem wpList_ldG {ops : Array Oper} {rest : List Oper} {o : Oper} {a : Act} {w : World} {Q : Exit → Act → World → Prop} (hw : Region.wanted o (yielded ops a.tmps) = true) (x : Operand) (ho : o.op = .load 24 x) (p : Nat) (F R C : Int) (s : Value) (hx : a.eval x = .pointer (some ⟨p, 0, none⟩))
    (hp : Blk w p 24 (mtC F R C s)) (h : wpList Tryd.prog ops Q rest (a.put o.dst (mtV F R C s)) w) : wpList Tryd.prog ops Q (o :: rest) a w :=
  wpList_get_g hw _ x ho p (mtC F R C s) _ _ hx hp Tryd.underlying24 rfl isz4 h
section
variable {H : Type} {enc : TypeId × Value → H} {w : World}
theorem slice_is6 {T e : TypeId} (hT : Tryd.prog.underlying T = some (.slice e)) {fuel : Nat} {cs : List Value} {x : DataW H × List MemPlace} (h : DataW.trod enc Tryd.prog w 0 (fun _ => true) true fuel T cs = some x) : ∃ A n c, cs = [.slice A n c] := by
  rcases DataW.trod_slice hT h with ⟨h0, _⟩ | ⟨a, len', cap', elems, rest, n, _, h0, _⟩
  · exact ⟨_, _, _, h0⟩
  · exact ⟨_, _, _, h0⟩
theorem open_nums6 {A : Option Addr} {len cap : Nat} {fuel : Nat} {x : DataW H × List MemPlace} (hf : DataW.trod enc Tryd.prog w 0 (fun _ => true) true fuel 22 [.slice A len cap] = some x) :
    len ≤ cap ∧ cap ≤ maxLen ∧ ∃ l : List Int, l.length = len ∧ Sl w w.heap.size A 1 len (l.map iv) := by
  obtain ⟨h1, h2, hd, css, h3, h4, h5⟩ := open_elems (size := 1) Tryd.underlying22 (by kernel_rfl) (by omega) (fun cs => ∃ n : Int, cs = [iv n] ∧ -9223372036854775808 ≤ n ∧ n ≤ 9223372036854775807) (fun n cs y _ hy => by
    obtain ⟨m, rfl, _, hw⟩ := DataW.trod_int Tryd.underlying3 hy
    exact ⟨m, rfl, wf_i64 hw⟩) hf
  obtain ⟨l, q1, q2, q3⟩ := nums_of css h4
  exact ⟨h1, h2, l, q1.trans h3, q2 ▸ h5⟩
theorem parts4 (l : List Value) (h : l.length = 4) : l = (l.drop 0).take 1 ++ ((l.drop 1).take 1 ++ ((l.drop 2).take 1 ++ (l.drop 3).take 1)) := by
  match l, h with
  | [a, b, c, d], _ => rfl
theorem open_mt {v : Value} {d : DataW H} {p : List MemPlace} (hv : Value.okWide Tryd.prog w .any 0 24 v)
    (h : DataW.Trod enc Tryd.prog w 0 (fun _ => true) true 24 v d p) : ∃ (a : Mt) (A : Option Addr) (c : Nat), v = mtV a.F a.R a.C (.slice A a.l.length c) ∧ MIn w a A c := by
  have hc : Tryd.prog.cellsOf 24 = 4 := by kernel_rfl
  have hi1 : Tryd.prog.cellsOf 3 = 1 := by kernel_rfl
  have hs1 : Tryd.prog.cellsOf 22 = 1 := by kernel_rfl
  obtain ⟨cs, rfl, hs⟩ := okWide_struct Tryd.underlying24 hv
  obtain ⟨fuel, hf⟩ := h
  obtain ⟨xs, m, _, _, hl, hlen, hx⟩ := DataW.trod_struct Tryd.underlying24 hf
  have e : ∀ k, k < 4 → ∃ y, xs[k]? = some y := fun k hk => ⟨_, List.getElem?_eq_getElem (by rw [hlen]; exact hk)⟩
  obtain ⟨y0, e0⟩ := e 0 (by decide)
  obtain ⟨y1, e1⟩ := e 1 (by decide)
  obtain ⟨y2, e2⟩ := e 2 (by decide)
  obtain ⟨y3, e3⟩ := e 3 (by decide)
  have h0 := (hx 0 _ rfl).trans e0
  have h1 := (hx 1 _ rfl).trans e1
  have h2 := (hx 2 _ rfl).trans e2
  have h3 := (hx 3 _ rfl).trans e3
  have hcl : cs.toList.length = 4 := by rw [Array.length_toList, hs, hc]
  change DataW.trod enc Tryd.prog w 0 (fun _ => true) true m 3 ((cs.toList.drop 0).take (Tryd.prog.cellsOf 3)) = some y0 at h0
  change DataW.trod enc Tryd.prog w 0 (fun _ => true) true m 3 ((cs.toList.drop 1).take (Tryd.prog.cellsOf 3)) = some y1 at h1
  change DataW.trod enc Tryd.prog w 0 (fun _ => true) true m 3 ((cs.toList.drop 2).take (Tryd.prog.cellsOf 3)) = some y2 at h2
  change DataW.trod enc Tryd.prog w 0 (fun _ => true) true m 22 ((cs.toList.drop 3).take (Tryd.prog.cellsOf 22)) = some y3 at h3
  rw [hi1] at h0 h1 h2
  rw [hs1] at h3
  obtain ⟨n0, q0, _, _⟩ := DataW.trod_int Tryd.underlying3 h0
  obtain ⟨n1, q1, _, _⟩ := DataW.trod_int Tryd.underlying3 h1
  obtain ⟨n2, q2, _, _⟩ := DataW.trod_int Tryd.underlying3 h2
  obtain ⟨A, la, ca, q3⟩ := slice_is6 Tryd.underlying22 h3
  rw [q3] at h3
  obtain ⟨r1, r2, l3, r3, x3⟩ := open_nums6 h3
  subst r3
  refine ⟨⟨n0, n1, n2, l3⟩, A, ca, ?_, x3, r1, r2⟩
  have hp := parts4 cs.toList hcl
  rw [q0, q1, q2, q3] at hp
  show Value.agg cs = .agg _
  congr 1
  rw [← Array.toList_inj, hp]
  rfl
theorem open_il {A : Option Addr} {len cap : Nat} {d : DataW H} {p : List MemPlace} (h : DataW.Trod enc Tryd.prog w 0 (fun _ => true) true 22 (.slice A len cap) d p) :
    ∃ l : List Int, l.length = len ∧ Sl w w.heap.size A 1 len (l.map iv) ∧ len ≤ cap ∧ cap ≤ maxLen := by
  obtain ⟨fuel, hf⟩ := h
  obtain ⟨h1, h2, l, h3, h4⟩ := open_nums6 (show DataW.trod enc Tryd.prog w 0 (fun _ => true) true fuel 22 [.slice A len cap] = some _ from hf)
  exact ⟨l, h3, h4, h1, h2⟩
end

end Go.Proofs.YtodmcojcmihooaaDoor
