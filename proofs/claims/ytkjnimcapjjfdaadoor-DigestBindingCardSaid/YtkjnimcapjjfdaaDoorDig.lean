/-
  Digests: arrays of sixteen bytes: how they lie in memory, how they are loaded and compared.
-/
import Derived.Test.YtkjnimcapjjfdaaDoorRows
import Derived.Test.YtkjnimcapjjfdaaDoorLib
import Derived.ChangeKeysEq
import Derived.Deep.MidRow
import Derived.Deep.QuietTactic
import Derived.BigQuiet
namespace Go.Proofs.YtkjnimcapjjfdaaDoor
open Go.RowKit
set_option linter.unusedVariables false

/-- A digest as a value. -/
abbrev dv (d : List UInt8) : Value := .agg (d.map bv).toArray

theorem equal_digest (a b : List UInt8) (ha : a.length = 16) (hb : b.length = 16) (w : World) :
    (Op.equalIn 10000 30 (dv a) (dv b)).run Tryd.prog w = .ok (decide (a = b)) w := by
  obtain ⟨i, hi, h⟩ : ∃ i, Tryd.prog.info? 5 = some i ∧ True := by
    have h5 : (Tryd.prog.info? 5).isSome = true := by kernel_rfl
    obtain ⟨i, hi⟩ := Option.isSome_iff_exists.1 h5
    exact ⟨i, hi, trivial⟩
  have hc : Tryd.prog.cellsOf 5 = 1 := by kernel_rfl
  rw [show (10000 : Nat) = 9998 + 1 + 1 from rfl, run_equalIn_array w (9998 + 1) _ _ (t := 30) (e := 5) (n := 16) (by kernel_rfl) hi, hc,
    eqItems_bytes Tryd.underlying5 (fun w => by kernel_rfl) 9998 a b w (List.range 16) (fun i hi => by rw [List.mem_range] at hi; omega)]
  congr 1
  rw [Bool.eq_iff_iff, List.all_eq_true, decide_eq_true_iff]
  constructor
  · intro h
    apply List.ext_getElem?
    intro i
    by_cases hi : i < 16
    · simpa using h i (List.mem_range.2 hi)
    · rw [List.getElem?_eq_none (by omega), List.getElem?_eq_none (by omega)]
  · rintro rfl i _
    simp

/-- Sixteen cells that lie at an address. -/
def Has16 (w : World) (a : Addr) (d : List UInt8) : Prop := d.length = 16 ∧ ∀ j u, (d.map bv)[j]? = some u → w.cell? (a.add j) = some u
theorem run_load16 {w : World} {b o : Nat} {d : List UInt8} (h : Has16 w ⟨b, o, none⟩ d) : (Instr.loadAt 30 (.pointer (some ⟨b, o, none⟩))).run Tryd.prog w = .ok (dv d) w :=
  run_loadAt_mid w b o 30 (d.map bv) (.array 16 5) (fun j v hv => by have := h.2 j v hv; rwa [addr_add] at this) (by kernel_rfl) rfl (by rw [List.length_map, h.1]; kernel_rfl)

/-- A load in a region that draws its order, where the operations only read. -/
theorem quiet_load {P : Program} {C : World → Prop} {o : Oper} {a : Act} {ops : Array Oper} {K : Act → Prop} (hgd : o.guard = none) (ty : TypeId) (x : Operand) (ho : o.op = .load ty x) (v : Value)
    (h : ∀ w, C w → (Instr.loadAt ty (a.eval x)).run P w = .ok v w) (hK : K (a.put o.dst v)) :
    if Region.wanted o (yielded ops a.tmps) = true then o.quiet P a C K else K (a.put o.dst undef) := by
  rw [if_pos (by simp [Region.wanted, hgd])]
  refine ⟨v, fun w hw => ?_, hK⟩
  unfold Oper.quietAt execOp
  simp only [ho, Sem.run_bind, h w hw, Result.andThen_ok, Sem.run_pure]
  exact ⟨rfl, rfl⟩

theorem flatten_at : ∀ (ds : List (List UInt8)) (k j : Nat), (∀ d ∈ ds, d.length = 16) → j < 16 → (ds.flatten)[k * 16 + j]? = (ds[k]?).bind (·[j]?)
  | [], k, j, _, _ => by simp
  | d :: r, 0, j, h, hj => by
    rw [List.flatten_cons, List.getElem?_append_left (by rw [h d (by simp)]; omega)]
    simp
  | d :: r, k + 1, j, h, hj => by
    have hd := h d (by simp)
    rw [List.flatten_cons, List.getElem?_append_right (by omega), hd, show (k + 1) * 16 + j - 16 = k * 16 + j by omega,
      flatten_at r k j (fun x hx => h x (by simp [hx])) hj]
    simp
theorem flatten_len : ∀ ds : List (List UInt8), (∀ d ∈ ds, d.length = 16) → ds.flatten.length = ds.length * 16
  | [], _ => by simp
  | d :: r, h => by
    rw [List.flatten_cons, List.length_append, h d (by simp), flatten_len r fun x hx => h x (by simp [hx]), List.length_cons]
    omega
theorem Sl.dig {w : World} {B : Nat} {A : Option Addr} {ds : List (List UInt8)} (h : Sl w B A 16 ds.length (ds.flatten.map bv)) (hd : ∀ d ∈ ds, d.length = 16) {k : Nat} (hk : k < ds.length) :
    ∃ b off, A = some ⟨b, off, none⟩ ∧ b < B ∧ Has16 w ⟨b, off + k * 16, none⟩ ds[k] := by
  have hl := h.1
  obtain ⟨b, off, e, hb, hc⟩ := h.2 (by omega)
  have hdk : ds[k].length = 16 := hd _ (List.getElem_mem hk)
  refine ⟨b, off, e, hb, hdk, fun j u hu => ?_⟩
  have hj : j < 16 := by
    have := (List.getElem?_eq_some_iff.1 hu).1
    simpa [hdk] using this
  rw [addr_add, Nat.add_assoc]
  refine hc (k * 16 + j) u ?_
  rw [List.getElem?_map, flatten_at ds k j hd hj, List.getElem?_eq_getElem hk]
  rwa [List.getElem?_map] at hu

theorem isize16 (d : List UInt8) (h : d.length = 16) : (Tryd.prog.info? 30).map (·.size) = some (d.map bv).length := by
  rw [List.length_map, h]; kernel_rfl
theorem isize16' (d : List UInt8) (h : d.length = 16) : (Tryd.prog.info? 30).map (·.size) = some (d.map bv).toArray.size := by
  rw [List.size_toArray, List.length_map, h]; kernel_rfl
theorem one16 (d : List UInt8) : (d.map bv).toArray.all (·.oneCell') = true := all_oneCell_toArray (bv_one d)
theorem range16 {w : World} {b o : Nat} {d : List UInt8} (h : Has16 w ⟨b, o, none⟩ d) : w.rangeAt b o (d.map bv) := fun j v hv => by have := h.2 j v hv; rwa [addr_add] at this
theorem there_blk {w : World} {g o n : Nat} {t : TypeId} {cs : List Value} (h : Blk w g t cs) (hn : o + n ≤ cs.length) : w.there g o n := fun j hj => by
  refine ⟨?_, h.free _⟩
  rw [h.cell, List.getElem?_eq_getElem (by omega)]
  rfl
theorem arr16_all (b : Nat) (W : World) :
    (Instr.sliceAt 30 (.pointer (some ⟨b, 0, none⟩)) none none none).run Tryd.prog W = .ok (.slice (some ⟨b, 0, none⟩) 16 16) W := by
  have hl : Tryd.prog.arrayLen 30 = 16 := by kernel_rfl
  have hs : (sizeOf (Tryd.prog.elem 30)).run Tryd.prog W = .ok 1 W := by kernel_rfl
  rw [run_sliceAt_array_all W 30 ⟨b, 0, none⟩ (by kernel_rfl), hs, hl]
  simp only [Result.andThen, slicedAt, if_neg (show ¬ 16 = 0 by omega), addr_add, Nat.zero_mul, Nat.add_zero, Nat.sub_zero]

/-- A digest that was stored into a block of its own. -/
theorem newdig (wr : World) (cs : List Value) (t : TypeId) (hcs : cs.length = 16) (d : List UInt8) (hd : d.length = 16) :
    Below wr.heap.size wr ((wr.alloc (.cells cs.toArray t)).setCells wr.heap.size 0 (d.map bv)) ∧ Has16 ((wr.alloc (.cells cs.toArray t)).setCells wr.heap.size 0 (d.map bv)) ⟨wr.heap.size, 0, none⟩ d := by
  refine ⟨below_setCells (Nat.le_refl _) _ _ _ ((Below.refl _ _).alloc (Nat.le_refl _) _), hd, fun j u hu => ?_⟩
  rw [addr_add]
  exact World.rangeAt_setCells_same _ _ _ _ (there_blk (Blk.new wr t cs) (by simp [hd, hcs])) j u hu

/-- Three results, the first one a digest in memory. -/
theorem results_dig {fn : Func} {p t u : Tmp} (h : fn.results = #[.cell p 30, .tmp t, .tmp u]) (tmps : Array Value) (w : World) {b o : Nat} {d : List UInt8}
    (hp : tmps.getD p undef = .pointer (some ⟨b, o, none⟩)) (hd : Has16 w ⟨b, o, none⟩ d) :
    (results fn tmps).run Tryd.prog w = .ok (.tuple #[dv d, tmps.getD t undef, tmps.getD u undef]) w := by
  have hl := run_loadVar_mid (P := Tryd.prog) w b o 30 (d.map bv) (.array 16 5) (range16 hd) (by kernel_rfl) rfl (isize16 d hd.1)
  have ha : ∀ W, (asAddr (.pointer (some ⟨b, o, none⟩))).run Tryd.prog W = .ok ⟨b, o, none⟩ W := fun _ => rfl
  simp only [results, h]
  simp only [List.mapM_cons, List.mapM_nil, hp, bind_pure_comp, map_pure, Array.mapM_eq_mapM_toList]
  simp [Sem.run_bind, ha, hl, Result.andThen]

end Go.Proofs.YtkjnimcapjjfdaaDoor
