/-
  A copy of a string whose bytes are changed in place. No program stands behind this text.
-/
import Derived.Test.YtbejmcndflmgaaaDoorRows
import Derived.Test.YtbejmcndflmgaaaDoorCrcQ
import Derived.Test.YtbejmcndflmgaaaDoorOnceU
import Derived.Test.YtbejmcndflmgaaaDoorQuiet
namespace Go.Proofs.YtbejmcndflmgaaaDoor
open Go.RowKit
set_option linter.unusedVariables false

/-- A row of bytes of the call's own, its block and what lies behind it. -/
theorem own_bytes {w : World} {base n : Nat} {e : TypeId} {v : Value} {l : List UInt8} (h : w.ownsRow base e 1 v n (l.map bv)) (hn : 0 < n) :
    ∃ g cap sp, v = .slice (some ⟨g, 0, none⟩) n cap ∧ base ≤ g ∧ n ≤ cap ∧ cap ≤ maxLen ∧ l.length = n ∧ Blk w g e (l.map bv ++ sp) := by
  have hl : l.length = n := by have := h.1; rw [List.length_map, Nat.mul_one] at this; exact this
  rcases h.2 with ⟨_, h0⟩ | ⟨g, cap, cur, hv, hb, hg, h1, h2, h3, h4⟩
  · omega
  · refine ⟨g, cap, cur.toList.drop n, hv, hb, h1, h2, hl, ?_⟩
    have hc : cur.toList = l.map bv ++ cur.toList.drop n := by rw [← h4, Nat.mul_one, List.take_append_drop]
    unfold Blk
    rw [← hc, hg]
theorem set_byte (l : List UInt8) (sp : List Value) (i : Nat) (y : UInt8) (h : i < l.length) : (l.map bv ++ sp).set i (bv y) = (l.set i y).map bv ++ sp := by
  rw [List.set_append_left _ _ (by rw [List.length_map]; exact h), List.map_set]
theorem row_sl {w : World} {g : Nat} {e : TypeId} {l : List UInt8} {sp : List Value} (h : Blk w g e (l.map bv ++ sp)) : Sl w w.heap.size (some ⟨g, 0, none⟩) 1 l.length (l.map bv) :=
  ⟨by simp, fun _ => ⟨g, 0, rfl, h.lt, fun j u hj => by rw [Nat.zero_add, h.cell, List.getElem?_append_left (List.getElem?_eq_some_iff.1 hj).1]; exact hj⟩⟩
theorem row_byte {w : World} {g : Nat} {e : TypeId} {l : List UInt8} {sp : List Value} (h : Blk w g e (l.map bv ++ sp)) (i : Nat) (hi : i < l.length) : w.cell? ⟨g, i, none⟩ = some (bv l[i]) := by
  rw [h.cell, List.getElem?_append_left (by rw [List.length_map]; exact hi), List.getElem?_map, List.getElem?_eq_getElem hi]
  rfl
theorem xor_bv (x y : UInt8) : bits .xor .u8 (x.toNat : Int) (y.toNat : Int) = ((x ^^^ y).toNat : Int) := by
  have h := u8_xor_nat x.toNat y.toNat x.toNat_lt y.toNat_lt
  rw [UInt8.toNat_xor, ← h]
theorem neq_c (t : TypeId) (x y : UInt32) (h : x ≠ y) : binOp .neq t (wv x) (wv y) = pure (.bool true) := by
  unfold wv
  rw [binOp_neq]
  have h1 : x.toNat ≠ y.toNat := fun e => h (UInt32.toNat_inj.1 e)
  have h2 : ((x.toNat : Int) != (y.toNat : Int)) = true := by rw [bne_iff_ne]; omega
  rw [h2]

/-- A string with the first k of four changes at a place. -/
def chg (b ch : List UInt8) (t : Nat) : Nat → List UInt8
  | 0 => b
  | k + 1 => (chg b ch t k).set (t + k) ((chg b ch t k).getD (t + k) 0 ^^^ ch.getD k 0)
theorem chg_len (b ch : List UInt8) (t : Nat) : ∀ k, (chg b ch t k).length = b.length
  | 0 => rfl
  | k + 1 => by rw [chg, List.length_set, chg_len b ch t k]
theorem chg_four (b : List UInt8) (t m : Nat) (c0 c1 c2 c3 : UInt8) (hb : b.length = t + 4 + m) : chg b [c0, c1, c2, c3] t 4 = xorL b (List.replicate t 0 ++ ([c0, c1, c2, c3] ++ List.replicate m 0)) := by
  obtain ⟨p, q, rfl, hp⟩ : ∃ p q, b = p ++ q ∧ p.length = t := ⟨b.take t, b.drop t, (List.take_append_drop t b).symm, by rw [List.length_take]; omega⟩
  rw [List.length_append] at hb
  obtain ⟨w, x, y, z, q, rfl⟩ : ∃ w x y z q', q = w :: x :: y :: z :: q' := by
    match q, (by omega : 4 ≤ q.length) with
    | [], h => simp at h
    | [_], h => simp at h
    | [_, _], h => simp at h
    | [_, _, _], h => simp at h
    | w :: x :: y :: z :: q, _ => exact ⟨w, x, y, z, q, rfl⟩
  · have hq' : q.length = m := by simp only [List.length_cons] at hb; omega
    have hz : ∀ l : List UInt8, xorL l (List.replicate l.length 0) = l := by
      intro l
      induction l with
      | nil => rfl
      | cons x l ih =>
        show (x ^^^ 0) :: xorL l (List.replicate l.length 0) = _
        rw [ih, UInt8.xor_zero]
    have hr : xorL (p ++ w :: x :: y :: z :: q) (List.replicate t 0 ++ ([c0, c1, c2, c3] ++ List.replicate m 0)) = p ++ (w ^^^ c0) :: (x ^^^ c1) :: (y ^^^ c2) :: (z ^^^ c3) :: q := by
      unfold xorL
      rw [List.zipWith_append (by rw [List.length_replicate, hp])]
      have h1 := hz p
      have h2 := hz q
      rw [hp] at h1
      rw [hq'] at h2
      unfold xorL at h1 h2
      rw [h1]
      congr 1
      show (w ^^^ c0) :: (x ^^^ c1) :: (y ^^^ c2) :: (z ^^^ c3) :: List.zipWith (· ^^^ ·) q (List.replicate m 0) = _
      rw [h2]
    rw [hr]
    have hs : ∀ (i : Nat) (s : List UInt8) (u : UInt8), (p ++ s).set (t + i) u = p ++ s.set i u := fun i s u => by
      rw [List.set_append_right _ _ (by omega), show t + i - p.length = i by omega]
    have hg : ∀ (i : Nat) (s : List UInt8), (p ++ s).getD (t + i) 0 = s.getD i 0 := fun i s => by
      rw [List.getD_eq_getElem?_getD, List.getElem?_append_right (by omega), show t + i - p.length = i by omega, List.getD_eq_getElem?_getD]
    simp only [chg, hs, hg]
    rfl

theorem xorL_zeroR : ∀ l : List UInt8, xorL l (List.replicate l.length 0) = l
  | [] => rfl
  | x :: l => by
    show (x ^^^ 0) :: xorL l (List.replicate l.length 0) = _
    rw [xorL_zeroR l, UInt8.xor_zero]
/-- A bit that is inverted in place. -/
theorem set_bit (L : List UInt8) (x : Nat) (h : x < 8 * L.length) : L.set (x / 8) (L[x / 8]'(by omega) ^^^ UInt8.ofNat (2 ^ (x % 8))) = xorL L (bitE L.length x) := by
  have hq : x / 8 < L.length := by omega
  obtain ⟨p, w, q, rfl, hp⟩ : ∃ p w q, L = p ++ w :: q ∧ p.length = x / 8 := ⟨L.take (x / 8), L[x / 8], L.drop (x / 8 + 1), by rw [List.getElem_cons_drop, List.take_append_drop], by rw [List.length_take]; omega⟩
  have hg : (p ++ w :: q)[x / 8]'hq = w := by
    rw [List.getElem_append_right (by omega)]
    simp [hp]
  rw [hg, List.set_append_right _ _ (by omega), hp, Nat.sub_self, List.set_cons_zero]
  unfold bitE xorL
  rw [List.zipWith_append (by rw [List.length_replicate, hp])]
  have h1 := xorL_zeroR p
  have h2 := xorL_zeroR q
  rw [hp] at h1
  unfold xorL at h1 h2
  rw [h1]
  congr 1
  show (w ^^^ _) :: q = (w ^^^ _) :: List.zipWith (· ^^^ ·) q (List.replicate _ 0)
  rw [List.length_append, List.length_cons, show p.length + (q.length + 1) - (x / 8 + 1) = q.length by omega, h2]

theorem set_bit' (L : List UInt8) (n x q : Nat) (e u : UInt8) (hn : L.length = n) (h : x < 8 * n) (hq : q = x / 8) (he : e = UInt8.ofNat (2 ^ (x % 8))) (hql : q < L.length) (hu : u = L[q] ^^^ e) : L.set q u = xorL L (bitE n x) := by
  subst hn hq he hu
  exact set_bit L x h
theorem quo8_c (t : TypeId) (n : Nat) (hn : n < 4294967296) : binOp .quo t (.int .i64 (n : Int)) (.int .i64 8) = pure (.int .i64 ((n / 8 : Nat) : Int)) := by
  rw [binOp_quo]
  have h : IntKind.i64.wrap ((n : Int).tdiv 8) = ((n / 8 : Nat) : Int) := by
    rw [Int.tdiv_eq_ediv_of_nonneg (by omega), IntWalk.i64_in _ (by omega)]
    omega
  simp only [Op.intDiv]
  rw [← h]
  rfl
theorem rem8_c (t : TypeId) (n : Nat) (hn : n < 4294967296) : binOp .rem t (.int .i64 (n : Int)) (.int .i64 8) = pure (.int .i64 ((n % 8 : Nat) : Int)) := by
  rw [binOp_rem]
  have h : (n : Int).tmod 8 = ((n % 8 : Nat) : Int) := by
    rw [Int.tmod_eq_emod_of_nonneg (by omega)]
    omega
  simp only [Op.intDiv]
  rw [← h]
  rfl
theorem shl1_c (t : TypeId) (r : Nat) (hr : r < 8) : binOp .shl t (.int .u8 1) (.int .i64 (r : Int)) = pure (.int .u8 ((UInt8.ofNat (2 ^ r)).toNat : Int)) := by
  have h : ∀ r : Fin 8, IntKind.u8.wrap (1 * 2 ^ min (r.val : Int).toNat IntKind.u8.bits) = ((UInt8.ofNat (2 ^ r.val)).toNat : Int) := by decide +kernel
  rw [binOp_shl]
  simp only [Op.shift, if_neg (show ¬ ((r : Int) < 0) by omega)]
  have h1 := h ⟨r, hr⟩
  simp only at h1
  rw [h1]

end Go.Proofs.YtbejmcndflmgaaaDoor
