/-
  Rows of bytes in memory, strings as lists of bytes. No program stands behind this text.
-/
import Derived.Test.YtpjgmekpnlpjaaaDoorRows
import Derived.Test.YtpjgmekpnlpjaaaDoorFldU
import Derived.Test.YtpjgmekpnlpjaaaDoorFldN
import Derived.Test.YtpjgmekpnlpjaaaDoorOnceU
import Derived.Test.YtpjgmekpnlpjaaaDoorInR
import Derived.Test.YtpjgmekpnlpjaaaDoorQuiet
import Derived.Test.YtpjgmekpnlpjaaaDoorRng
import Derived.Deep.LoopGhost
import Derived.Lib.SlBytesConst
import Derived.Lib.ConvBytes
import Derived.Shelf.RegionOpen
import Derived.OwnWalkIn
import Derived.TacticsInMore
import Derived.LoopNIn
import Derived.LoopIn
namespace Go.Proofs.YtpjgmekpnlpjaaaDoor
open Go.RowKit Go.Shelf
set_option linter.unusedVariables false

theorem below_bytes (w : World) (e : TypeId) (s : ByteArray) : Below w.heap.size w (Lib.bytesWorld w e s) :=
  ⟨rfl, rfl, rfl, by rw [Lib.bytesWorld_size]; omega, fun k hk => Lib.bytesWorld_at_old w e s k hk⟩
/-- The string of a list of bytes. -/
def str (l : List UInt8) : ByteArray := ⟨l.toArray⟩
theorem str_size (l : List UInt8) : (str l).size = l.length := by unfold str; simp [ByteArray.size]
theorem str_list (l : List UInt8) : (str l).data.toList = l := by unfold str; simp
theorem list_str (s : ByteArray) : str s.data.toList = s := by unfold str; apply ByteArray.ext; simp
theorem str_inj {a b : List UInt8} (h : str a = str b) : a = b := by rw [← str_list a, h, str_list]
/-- The bytes of a string, in a row of their own. -/
theorem bytes_sl (w : World) (e : TypeId) (l : List UInt8) : Sl (Lib.bytesWorld w e (str l)) (w.heap.size + 1) (some ⟨w.heap.size, 0, none⟩) 1 l.length (l.map bv) := by
  refine ⟨by simp, fun _ => ⟨_, _, rfl, by omega, fun j u hu => ?_⟩⟩
  rw [Nat.zero_add]
  obtain ⟨hj, hu2⟩ := List.getElem?_eq_some_iff.1 hu
  rw [List.length_map] at hj
  rw [Lib.bytesWorld_cell w e (str l) j (by rw [str_size]; exact hj), str_list, List.getD_eq_getElem?_getD, List.getElem?_eq_getElem hj]
  simp only [List.getElem_map] at hu2
  rw [← hu2]
  rfl

/-- A row of bytes of the call's own, its block and what lies behind it. -/
theorem own_bytes {w : World} {base n : Nat} {e : TypeId} {v : Value} {l : List UInt8} (h : w.ownsRow base e 1 v n (l.map bv)) (hn : 0 < n) :
    ∃ g cap sp, v = .slice (some ⟨g, 0, none⟩) n cap ∧ base ≤ g ∧ n ≤ cap ∧ cap ≤ maxLen ∧ l.length = n ∧ Blk w g e (l.map bv ++ sp) := by
  have hl : l.length = n := by have := h.1; rw [List.length_map, Nat.mul_one] at this; exact this
  rcases h.2 with ⟨_, h0⟩ | ⟨g, cap, cur, hv, hb, hg, h1, h2, h3, h4⟩
  · omega
  · refine ⟨g, cap, cur.toList.drop n, hv, hb, h1, h2, hl, ?_⟩
    have hc : cur.toList = l.map bv ++ cur.toList.drop n := by rw [← h4, Nat.mul_one, List.take_append_drop]
    unfold Blk
    rw [← hc, hg]
theorem set_byte (l : List UInt8) (sp : List Value) (i : Nat) (y : UInt8) (h : i < l.length) : (l.map bv ++ sp).set i (bv y) = (l.set i y).map bv ++ sp := by
  rw [List.set_append_left _ _ (by rw [List.length_map]; exact h), List.map_set]
theorem row_sl {w : World} {g : Nat} {e : TypeId} {l : List UInt8} {sp : List Value} (h : Blk w g e (l.map bv ++ sp)) : Sl w w.heap.size (some ⟨g, 0, none⟩) 1 l.length (l.map bv) :=
  ⟨by simp, fun _ => ⟨g, 0, rfl, h.lt, fun j u hj => by rw [Nat.zero_add, h.cell, List.getElem?_append_left (List.getElem?_eq_some_iff.1 hj).1]; exact hj⟩⟩
theorem row_byte {w : World} {g : Nat} {e : TypeId} {l : List UInt8} {sp : List Value} (h : Blk w g e (l.map bv ++ sp)) (i : Nat) (hi : i < l.length) : w.cell? ⟨g, i, none⟩ = some (bv l[i]) := by
  rw [h.cell, List.getElem?_append_left (by rw [List.length_map]; exact hi), List.getElem?_map, List.getElem?_eq_getElem hi]
  rfl
theorem xor_bv (x y : UInt8) : bits .xor .u8 (x.toNat : Int) (y.toNat : Int) = ((x ^^^ y).toNat : Int) := by
  have h := u8_xor_nat x.toNat y.toNat x.toNat_lt y.toNat_lt
  rw [UInt8.toNat_xor, ← h]
/-- A row of bytes at a block. -/
structure BRow (w : World) (g : Nat) (l : List UInt8) : Prop where
  lt : g < w.heap.size
  cell : ∀ i (h : i < l.length), w.cell? ⟨g, i, none⟩ = some (bv l[i])
  free : ∀ i, i < l.length → w.frozen? ⟨g, i, none⟩ = false
theorem BRow.kept {w w' : World} {g B : Nat} {l : List UInt8} (h : BRow w g l) (hb : Below B w w') (hg : g < B) : BRow w' g l :=
  ⟨Nat.lt_of_lt_of_le h.lt hb.size, fun i hi => (hb.cell (p := ⟨g, i, none⟩) hg).trans (h.cell i hi), fun i hi => (hb.frozen (p := ⟨g, i, none⟩) hg).trans (h.free i hi)⟩
theorem BRow.store {w : World} {g : Nat} {l : List UInt8} (h : BRow w g l) (q : Nat) (hq : q < l.length) (u : UInt8) : BRow (w.setCell ⟨g, q, none⟩ (bv u)) g (l.set q u) := by
  refine ⟨by simpa [World.setCell] using h.lt, fun i hi => ?_, fun i hi => ?_⟩
  · rw [List.length_set] at hi
    by_cases e : i = q
    · subst e
      rw [World.cell?_setCell_same' _ _ _ (by rw [h.cell i hq]; rfl), List.getElem_set_self]
    · rw [World.cell?_setCell_other _ _ _ _ (by intro hh; injection hh with _ hh; exact e hh.symm), h.cell i hi, List.getElem_set_ne (by omega)]
  · rw [List.length_set] at hi
    rw [World.frozen?_setCell]
    exact h.free i hi
theorem BRow.sl {w : World} {g : Nat} {l : List UInt8} (h : BRow w g l) : Sl w w.heap.size (some ⟨g, 0, none⟩) 1 l.length (l.map bv) :=
  ⟨by simp, fun _ => ⟨g, 0, rfl, h.lt, fun j u hj => by
    obtain ⟨h1, h2⟩ := List.getElem?_eq_some_iff.1 hj
    rw [List.length_map] at h1
    rw [Nat.zero_add, h.cell j h1, ← h2, List.getElem_map]⟩⟩
theorem brow_new (w : World) (e : TypeId) (l : List UInt8) : BRow (Lib.bytesWorld w e (str l)) w.heap.size l := by
  have hs := bytes_sl w e l
  refine ⟨by rw [Lib.bytesWorld_size]; omega, fun i hi => ?_, fun i hi => ?_⟩
  · obtain ⟨b, o, h1, _, h3⟩ := hs.2 (by rw [List.length_map]; omega)
    injection h1 with h1
    injection h1 with h1 h4 _
    subst h1 h4
    have := h3 i (bv l[i]) (by rw [List.getElem?_map, List.getElem?_eq_getElem hi]; rfl)
    rwa [Nat.zero_add] at this
  · have h1 := Lib.bytesWorld_at_new w e (str l)
    have h2 : (str l).size ≤ (Lib.bytesCells w e (str l)).size := by
      unfold Lib.bytesCells
      simp [str_size]
    rw [str_size] at h2
    unfold World.frozen?
    rw [h1]
    simp
    omega

theorem Below.heap {B : Nat} {w w' : World} (h : Below B w w') (k : Nat) (hk : k < B) : w'.heap[k]? = w.heap[k]? := h.block k hk
theorem cell_one (W : World) (t : TypeId) (v : Value) : (W.alloc (.cells #[v] t)).cell? ⟨W.heap.size, 0, none⟩ = some v := by
  have h := heap_alloc_new W (.cells #[v] t)
  simp only [World.cell?, h]
  rfl
theorem xor_c (t : TypeId) (u e : UInt8) : binOp .xor t (bv u) (bv e) = pure (bv (u ^^^ e)) := by
  rw [binOp_xor]
  show pure (Value.int .u8 (bits .xor .u8 (u.toNat : Int) (e.toNat : Int))) = _
  rw [xor_bv]

theorem take_pre {α : Type} (l : List α) (j : Nat) (h : j < l.length) : l.take j ++ [l[j]] <+: l := by
  rw [← take_snoc l j h]; exact List.take_prefix _ _

/-- A load, of whatever kind. -/
theorem wpList_loadv {P : Program} {ops : Array Oper} {rest : List Oper} {o : Oper} {a : Act} {w : World} {Q : Exit → Act → World → Prop} (hw : Region.wanted o (yielded ops a.tmps) = true) (ty : TypeId) (x : Operand) (ho : o.op = .load ty x) (v : Value)
    (hrun : (Instr.loadAt ty (a.eval x)).run P w = .ok v w) (h : wpList P ops Q rest (a.put o.dst v) w) : wpList P ops Q (o :: rest) a w := by
  refine wpList_wanted hw ?_
  unfold Oper.wp execOp
  simp only [ho, Sem.run_bind, hrun, Result.andThen_ok, Sem.run_pure]
  exact h

theorem lt_of_block {w w' : World} {k : Nat} (h : k < w.heap.size) (e : w'.heap[k]? = w.heap[k]?) : k < w'.heap.size := by
  rw [Array.getElem?_eq_getElem h] at e
  exact (Array.getElem?_eq_some_iff.1 e).1

end Go.Proofs.YtpjgmekpnlpjaaaDoor
