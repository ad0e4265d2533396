/-
  Words of 32 bits as values that the walk does not open, and their arithmetic. No program stands behind this text.
-/
import Derived.WalkKit
namespace Go.Proofs.YtbejmcndflmgaaaDoor
open Go.RowKit
set_option linter.unusedVariables false

/-- A word as a value. -/
def wv (x : UInt32) : Value := .int .u32 (x.toNat : Int)
theorem wv_one (x : UInt32) : (wv x).oneCell' = true := rfl
theorem wv_ones (l : List UInt32) (u : Value) (h : u ∈ l.map wv) : u.oneCell' = true := by
  obtain ⟨b, _, rfl⟩ := List.mem_map.1 h
  rfl
def shr (x : UInt32) (n : Nat) : UInt32 := x >>> UInt32.ofNat n
def shl (x : UInt32) (n : Nat) : UInt32 := x <<< UInt32.ofNat n

theorem binOp_add_wv (t : TypeId) (x y : UInt32) : binOp .add t (wv x) (wv y) = pure (wv (x + y)) := by
  unfold wv
  rw [binOp_add]
  simp only [Op.intArith]
  rfl
theorem binOp_and_wv (t : TypeId) (x y : UInt32) : binOp .and t (wv x) (wv y) = pure (wv (x &&& y)) := by
  unfold wv
  rw [binOp_and]
  have h := u32_and_nat x.toNat y.toNat x.toNat_lt y.toNat_lt
  rw [UInt32.toNat_and, ← h]
  rfl
theorem binOp_or_wv (t : TypeId) (x y : UInt32) : binOp .or t (wv x) (wv y) = pure (wv (x ||| y)) := by
  unfold wv
  rw [binOp_or]
  have h := u32_or_nat x.toNat y.toNat x.toNat_lt y.toNat_lt
  rw [UInt32.toNat_or, ← h]
  rfl
theorem binOp_xor_wv (t : TypeId) (x y : UInt32) : binOp .xor t (wv x) (wv y) = pure (wv (x ^^^ y)) := by
  unfold wv
  rw [binOp_xor]
  have h := u32_xor_nat x.toNat y.toNat x.toNat_lt y.toNat_lt
  rw [UInt32.toNat_xor, ← h]
  rfl
theorem shift_count (n : Int) (h0 : 0 ≤ n) (h1 : n ≤ 31) : ¬ n < 0 ∧ min n.toNat IntKind.u32.bits = n.toNat ∧ (UInt32.ofNat n.toNat).toNat % 32 = n.toNat := by
  refine ⟨by omega, by simp [IntKind.bits]; omega, ?_⟩
  rw [UInt32.toNat_ofNat']
  omega
theorem binOp_shr_wv (t : TypeId) (x : UInt32) (k : IntKind) (n : Int) (h0 : 0 ≤ n) (h1 : n ≤ 31) : binOp .shr t (wv x) (.int k n) = pure (wv (shr x n.toNat)) := by
  obtain ⟨a, b, c⟩ := shift_count n h0 h1
  unfold wv shr
  rw [binOp_shr]
  simp only [Op.shift, if_neg a, b]
  congr 2
  rw [UInt32.toNat_shiftRight, c, Nat.shiftRight_eq_div_pow, Int.fdiv_eq_ediv_of_nonneg _ (by have : (0 : Int) < 2 ^ n.toNat := Int.pow_pos (by omega); omega)]
  simp
theorem binOp_shl_wv (t : TypeId) (x : UInt32) (k : IntKind) (n : Int) (h0 : 0 ≤ n) (h1 : n ≤ 31) : binOp .shl t (wv x) (.int k n) = pure (wv (shl x n.toNat)) := by
  obtain ⟨a, b, c⟩ := shift_count n h0 h1
  unfold wv shl
  rw [binOp_shl]
  simp only [Op.shift, if_neg a, b]
  congr 2
  rw [UInt32.toNat_shiftLeft, c, Nat.shiftLeft_eq, IntKind.wrap_u32']
  simp
theorem unary_xor_wv (x : UInt32) : Op.unary .xor (wv x) = pure (wv (~~~ x)) := by
  unfold wv
  show Op.intBits .xor .u32 (4294967295 : Nat) x.toNat = _
  have h := u32_xor_nat 4294967295 x.toNat (by decide) x.toNat_lt
  have h2 : (~~~ x).toNat = 4294967295 ^^^ x.toNat := by
    have h3 : (~~~ x) = 4294967295 ^^^ x := by
      apply UInt32.toBitVec_inj.1
      rw [UInt32.toBitVec_not, UInt32.toBitVec_xor]
      exact (BitVec.allOnes_xor).symm
    rw [h3, UInt32.toNat_xor]
    rfl
  rw [h2, ← h]
  rfl
theorem wv_u8 (b : UInt8) : (.int .u32 (b.toNat : Int) : Value) = wv b.toUInt32 := by unfold wv; simp
section
variable {P : Program} (w : World) (s d : TypeId)
theorem run_convert_wv (hs : (P.underlying s).isSome = true) (hd : P.underlying d = some (.int .u8)) (x : UInt32) : (convert s d (wv x)).run P w = .ok (.int .u8 (x.toUInt8.toNat : Int)) w := by
  obtain ⟨u, hu⟩ := Option.isSome_iff_exists.mp hs
  simp only [wv, convert, Sem.run_bind, run_underlying hu, run_underlying hd, Result.andThen_ok, Conv.intToInt]
  rw [IntKind.wrap_u8']
  have : x.toUInt8.toNat = x.toNat % 256 := by simp
  rw [this]
  simp
theorem run_convert_bw (hs : (P.underlying s).isSome = true) (hd : P.underlying d = some (.int .u32)) (x : UInt8) : (convert s d (.int .u8 (x.toNat : Int))).run P w = .ok (wv x.toUInt32) w := by
  obtain ⟨u, hu⟩ := Option.isSome_iff_exists.mp hs
  simp only [convert, Sem.run_bind, run_underlying hu, run_underlying hd, Result.andThen_ok, Conv.intToInt]
  rw [IntKind.wrap_u32', ← wv_u8, Int.emod_eq_of_lt (by omega) (by have := x.toNat_lt; omega)]
  rfl
end
theorem run_store_wv (P : Program) (w : World) (a : Addr) (x : UInt32) (m : Mode) : (store a (wv x) m).run P w = stored P w a (wv x) m := run_store P w a _ m rfl
theorem run_storeCells_wv (P : Program) (w : World) (a : Addr) (x : UInt32) : (storeCells a [wv x]).run P w = (stored P w a (wv x) .plain).andThen fun _ w' => .ok () w' := by
  have h0 : a.add 0 = a := by simp [Addr.add]
  simp only [storeCells, Sem.run_bind, h0, run_store_wv, Sem.run_pure]
theorem cells_wv (x : UInt32) : (wv x).cells = #[wv x] := rfl
theorem cells_one {v : Value} (hv : v.oneCell' = true) : v.cells = #[v] := by
  cases v <;> first | rfl | (simp [Value.oneCell'] at hv; done)
theorem run_storeVar_one {P : Program} (w : World) (ad : Addr) (ty : TypeId) (v : Value) (hv : v.oneCell' = true) (hi : (P.info? ty).map (·.size) = some 1) (hc : (w.cell? ad).isSome = true) (hf : w.frozen? ad = false) :
    (storeVar ty ad v).run P w = .ok () (w.setCell ad v) := by
  obtain ⟨u, hu⟩ := Option.isSome_iff_exists.mp hc
  have h0 : ad.add 0 = ad := by simp [Addr.add]
  cases hq : P.info? ty with
  | none => simp [hq] at hi
  | some i =>
    have hs : i.size = 1 := by simpa [hq] using hi
    simp [storeVar, sizeOf, typeInfo, hq, cells_one hv, hs, storeCells, h0, run_store P w ad v _ hv, hu, hf, Sem.run_bind]
/-- A store of a value of one cell, anywhere. -/
theorem wpList_store_one {P : Program} {ops : Array Oper} {rest : List Oper} {op : Oper} {a : Act} {w : World} {Q : Exit → Act → World → Prop} (hgd : op.guard = none) (ty : TypeId) (x y : Operand) (ho : op.op = .store ty x y)
    (ad : Addr) (v : Value) (hx : a.eval x = .pointer (some ad)) (hy : a.eval y = v) (hv : v.oneCell' = true) (hi : (P.info? ty).map (·.size) = some 1)
    (hc : (w.cell? ad).isSome = true) (hf : w.frozen? ad = false)
    (h : wpList P ops Q rest (a.put op.dst undef) (w.setCell ad v)) : wpList P ops Q (op :: rest) a w :=
  wpList_plain hgd fun _ hK => by
    unfold Oper.wp execOp
    simp only [ho, hx, hy, Instr.storeAt, Instr.sureAddr, Sem.run_bind, Sem.run_pure, Result.andThen_ok, run_storeVar_one w ad ty v hv hi hc hf]
    exact hK _ _ h

end Go.Proofs.YtbejmcndflmgaaaDoor
