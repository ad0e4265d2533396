/-
  The fingerprint's smallest functions, walked: crc's feed, Extend, Of over one table; fingerprint.Of, Space; the reference's Space.
-/
import Derived.Test.YtbejmcndflmgaaaDoorRows
import Derived.Test.YtbejmcndflmgaaaDoorPrtA
import Derived.Test.YtbejmcndflmgaaaDoorCrcB
import Derived.Test.YtbejmcndflmgaaaDoorRng
import Derived.Deep.LoopGhost
import Derived.Lib.SlBytesConst
import Derived.Lib.ConvBytes
namespace Go.Proofs.YtbejmcndflmgaaaDoor
open Go.RowKit
set_option linter.unusedVariables false
theorem eqGuard_wv (op : BinOp) (t : TypeId) (x y : Operand) (a : UInt32) (b : Value) : eqGuard op t x y (wv a) b = pure () := by
  unfold wv
  cases op <;> rfl
attribute [local go_sem] eqGuard_wv binOp_add_wv binOp_and_wv binOp_or_wv binOp_xor_wv binOp_shr_wv binOp_shl_wv unary_xor_wv run_convert_wv run_store_wv run_convert_bw

/-- The exponents, as the program's table has them. -/
def ex18 : List Int := [32, 28, 27, 26, 25, 23, 22, 20, 19, 18, 14, 13, 11, 10, 9, 8, 6, 0]
/-- The two tables, as they are laid. -/
structure Tabs (w : World) : Prop where
  lo : 1 < w.heap.size
  hi : 0 < w.heap.size
  rem : ∀ j, j < 16 → w.cell? ⟨1, j, none⟩ = some (wv (T16.getD j 0))
  ex : ∀ j, j < 18 → w.cell? ⟨0, j, none⟩ = some (iv (ex18.getD j 0))
theorem Tabs.keep {w w' : World} (h : Tabs w) (hb : Below w.heap.size w w') : Tabs w' :=
  ⟨Nat.lt_of_lt_of_le h.lo hb.size, Nat.lt_of_lt_of_le h.hi hb.size, fun j hj => (hb.cell (p := ⟨_, j, none⟩) h.lo).trans (h.rem j hj), fun j hj => (hb.cell (p := ⟨_, j, none⟩) h.hi).trans (h.ex j hj)⟩
/-- They lie among what was there when the world was w0. -/
theorem Tabs.since {w0 w w' : World} (h : Tabs w0) (hb : Below w0.heap.size w w') (hk : Tabs w) : Tabs w' :=
  ⟨Nat.lt_of_lt_of_le hk.lo hb.size, Nat.lt_of_lt_of_le hk.hi hb.size, fun j hj => (hb.cell (p := ⟨_, j, none⟩) h.lo).trans (hk.rem j hj), fun j hj => (hb.cell (p := ⟨_, j, none⟩) h.hi).trans (hk.ex j hj)⟩

theorem and15_c (t : TypeId) (x : UInt32) : binOp .and t (wv x) (.int .u32 15) = pure (wv (x &&& 15)) := binOp_and_wv t x 15
theorem xor_byte (t : TypeId) (r : UInt32) (x : UInt8) (r1 : UInt32) (h : r1 = r ^^^ x.toUInt32) : binOp .xor t (wv r) (.int .u32 ((x.toNat : Int) % 4294967296)) = pure (wv r1) := by
  rw [Int.emod_eq_of_lt (by omega) (by have := x.toNat_lt; omega), wv_u8, binOp_xor_wv, h]
theorem wv_val (x : UInt32) : wv x = .int .u32 (x.toNat : Int) := rfl

set_option maxHeartbeats 400000 in
theorem feed_any (r : UInt32) (x : UInt8) (w : World) (hT : Tabs w) :
    Calls Tryd.prog 24 #[wv r, bv x] w fun e w' => e = .returned (wv (fd r x)) ∧ w = w' := by
  have HE := hideIt (fd_nib r x)
  obtain ⟨z, hz⟩ : ∃ z, z = fd r x := ⟨_, rfl⟩
  rw [← hz] at HE ⊢
  obtain ⟨r1, hr1⟩ : ∃ y, y = r ^^^ x.toUInt32 := ⟨_, rfl⟩
  rw [← hr1] at HE
  have hx1 : binOp .xor 27 (wv r) (.int .u32 ((x.toNat : Int) % 4294967296)) = pure (wv r1) := xor_byte _ r x r1 hr1
  obtain ⟨y1, hy1⟩ : ∃ y, y = r1 &&& 15 := ⟨_, rfl⟩
  have ha1 : binOp .and 27 (wv r1) (.int .u32 15) = pure (.int .u32 (y1.toNat : Int)) := by rw [and15_c, hy1]; rfl
  have hl1 : y1.toNat < 16 := by rw [hy1]; exact and_15 _
  have hc1 := hT.rem _ hl1
  obtain ⟨r2, hr2⟩ : ∃ y, y = nib r1 := ⟨_, rfl⟩
  have hx2 : binOp .xor 27 (wv (shr r1 4)) (wv (T16.getD y1.toNat 0)) = pure (wv r2) := by rw [binOp_xor_wv, hr2, hy1]; rfl
  rw [← hr2] at HE
  obtain ⟨y2, hy2⟩ : ∃ y, y = r2 &&& 15 := ⟨_, rfl⟩
  have ha2 : binOp .and 27 (wv r2) (.int .u32 15) = pure (.int .u32 (y2.toNat : Int)) := by rw [and15_c, hy2]; rfl
  have hl2 : y2.toNat < 16 := by rw [hy2]; exact and_15 _
  have hc2 := hT.rem _ hl2
  have hx3 : binOp .xor 27 (wv (shr r2 4)) (wv (T16.getD y2.toNat 0)) = pure (wv z) := by rw [binOp_xor_wv, ← HE.out, hy2]; rfl
  generalize y1.toNat = k1 at *
  generalize y2.toNat = k2 at *
  generalize T16.getD k1 0 = t1 at *
  generalize T16.getD k2 0 = t2 at *
  have hi1 : (k1 : Int) < 16 := by omega
  have hi2 : (k2 : Int) < 16 := by omega
  clear hT hz hr1 hy1 hr2 hy2 HE
  go_enter Tryd.func24, Tryd.ntmps24
  go_wp2_with fail
  go_ret
  exact ⟨rfl, rfl⟩

set_option maxHeartbeats 400000 in
theorem extend_any (A : Option Addr) (B c : Nat) (r : UInt32) (l : List UInt8) (w : World) (hx : Sl w B A 1 l.length (l.map bv)) (hl : l.length ≤ 140737488355328) (hT : Tabs w) :
    Calls Tryd.prog 21 #[wv r, .slice A l.length c] w fun e w' => e = .returned (wv (ext r l)) ∧ w = w' := by
  have HX := hideIt hx
  have HT := hideIt hT
  obtain ⟨z, hz⟩ : ∃ z, z = ext r l := ⟨_, rfl⟩
  rw [← hz]
  have HZ := hideIt hz
  clear hx hT hz
  go_enter Tryd.func21, Tryd.ntmps21
  go_wp2
  go_loopg [5, 12] l.length (fun g s5 s12 wr => ∃ (k : Nat) (q : UInt32), g + k = l.length ∧ s12 = .int .i64 k ∧ s5 = wv q ∧ wr = w ∧ Aside (q = feeds (~~~ r) (l.take k)))
  case atStart => exact ⟨0, _, rfl, rfl, rfl, rfl, rfl⟩
  case round =>
    obtain ⟨k, q, hg, rfl, rfl, rfl, HQ⟩ := hrel
    by_cases hk : k < l.length
    · obtain ⟨b, off, rfl, _, hcell⟩ := HX.out.byte hk
      have HF := hideIt (feed_any q l[k] wr HT.out)
      have HN : Hid (fd q l[k] = feeds (~~~ r) (l.take (k + 1))) := by
        rw [take_snoc l k hk, feeds_app, ← HQ.out]; exact rfl
      generalize l[k] = x at *
      have hki : (k : Int) < (l.length : Int) := by omega
      go_wp2_with (go_at_call 24; refine HF.out.mono ?_; rintro e w' ⟨rfl, rfl⟩)
      go_roundg (gk - 1)
      case measure => omega
      case rel => exact ⟨k + 1, _, by omega, by go_num, rfl, rfl, HN.out⟩
    · have HE : Hid (~~~ q = z) := by
        rw [HZ.out, HQ.out, List.take_of_length_le (by omega)]; exact rfl
      obtain ⟨y, hy⟩ : ∃ y, y = ~~~ q := ⟨_, rfl⟩
      have hn : Op.unary .xor (wv q) = pure (wv y) := by rw [unary_xor_wv, hy]
      rw [← hy] at HE
      have hki : ¬ (k : Int) < (l.length : Int) := by omega
      clear hy
      go_wp2
      go_ret
      exact ⟨by rw [HE.out]; rfl, rfl⟩

set_option maxHeartbeats 400000 in
theorem of_any (A : Option Addr) (B c : Nat) (l : List UInt8) (w : World) (hx : Sl w B A 1 l.length (l.map bv)) (hl : l.length ≤ 140737488355328) (hT : Tabs w) :
    Calls Tryd.prog 16 #[.slice A l.length c] w fun e w' => e = .returned (wv (crc l)) ∧ w = w' := by
  have HE := hideIt (extend_any A B c 0 l w hx hl hT)
  clear hx hT
  go_enter Tryd.func16, Tryd.ntmps16
  go_wp2_with (go_at_call 21; refine HE.out.mono ?_; rintro e w' ⟨rfl, rfl⟩)
  go_ret
  exact ⟨rfl, rfl⟩

theorem below_bytes (w : World) (e : TypeId) (s : ByteArray) : Below w.heap.size w (Lib.bytesWorld w e s) :=
  ⟨rfl, rfl, rfl, by rw [Lib.bytesWorld_size]; omega, fun k hk => Lib.bytesWorld_at_old w e s k hk⟩
/-- The string of a list of bytes. -/
def str (l : List UInt8) : ByteArray := ⟨l.toArray⟩
theorem str_size (l : List UInt8) : (str l).size = l.length := by unfold str; simp [ByteArray.size]
theorem str_list (l : List UInt8) : (str l).data.toList = l := by unfold str; simp
theorem list_str (s : ByteArray) : str s.data.toList = s := by unfold str; apply ByteArray.ext; simp
theorem str_inj {a b : List UInt8} (h : str a = str b) : a = b := by rw [← str_list a, h, str_list]
/-- The bytes of a string, in a row of their own. -/
theorem bytes_sl (w : World) (e : TypeId) (l : List UInt8) : Sl (Lib.bytesWorld w e (str l)) (w.heap.size + 1) (some ⟨w.heap.size, 0, none⟩) 1 l.length (l.map bv) := by
  refine ⟨by simp, fun _ => ⟨_, _, rfl, by omega, fun j u hu => ?_⟩⟩
  rw [Nat.zero_add]
  obtain ⟨hj, hu2⟩ := List.getElem?_eq_some_iff.1 hu
  rw [List.length_map] at hj
  rw [Lib.bytesWorld_cell w e (str l) j (by rw [str_size]; exact hj), str_list, List.getD_eq_getElem?_getD, List.getElem?_eq_getElem hj]
  simp only [List.getElem_map] at hu2
  rw [← hu2]
  rfl

set_option maxHeartbeats 400000 in
theorem fof_any (l : List UInt8) (w : World) (hl : l.length ≤ 140737488355328) (hT : Tabs w) :
    Calls Tryd.prog 11 #[.string (str l)] w fun e w' => e = .returned (wv (crc l)) ∧ Below w.heap.size w w' := by
  have hcv := Lib.run_convert_string_bytes w 9 32 5 (str l) Tryd.underlying9 Tryd.underlying32 Tryd.underlying5
  rw [str_size] at hcv
  have HB := hideIt (below_bytes w 5 (str l))
  have HO := hideIt (fun c => of_any (some ⟨w.heap.size, 0, none⟩) _ c l _ (bytes_sl w 5 l) hl (hT.keep HB.out))
  clear hT
  generalize Lib.bytesWorld w 5 (str l) = w1 at *
  generalize grownCap w l.length 0 5 = c at *
  generalize str l = s at *
  generalize crc l = z at *
  go_enter Tryd.func11, Tryd.ntmps11
  go_wp2_with (go_at_call 16; refine (HO.out _).mono ?_; rintro e w' ⟨rfl, rfl⟩)
  go_ret
  exact ⟨rfl, HB.out⟩

/-- How many twins a string of n bytes has. -/
def spc (n : Int) : Int := if n < 5 ∨ 2000 < n then 0 else 8 * n - 32
theorem spc_calls (f : Nat) (n : Int) (w : World)
    (h1 : (n < 5 ∨ 2000 < n) → Calls Tryd.prog f #[.int .i64 n] w fun e w' => e = .returned (.int .i64 0) ∧ w = w')
    (h2 : 5 ≤ n → n ≤ 2000 → Calls Tryd.prog f #[.int .i64 n] w fun e w' => e = .returned (.int .i64 (8 * n - 32)) ∧ w = w') :
    Calls Tryd.prog f #[.int .i64 n] w fun e w' => e = .returned (.int .i64 (spc n)) ∧ w = w' := by
  unfold spc
  split
  · rename_i h; exact h1 h
  · rename_i h; exact h2 (by omega) (by omega)
theorem mul8_c (t : TypeId) (n : Int) (h : 5 ≤ n) (h2 : n ≤ 2000) : binOp .mul t (.int .i64 8) (.int .i64 n) = pure (.int .i64 (8 * n)) := by
  rw [binOp_mul]
  simp only [Op.intArith]
  rw [IntWalk.i64_in _ (by omega)]
theorem sub32_c (t : TypeId) (n : Int) (h : 5 ≤ n) (h2 : n ≤ 2000) : binOp .sub t (.int .i64 (8 * n)) (.int .i64 32) = pure (.int .i64 (8 * n - 32)) := by
  rw [binOp_sub]
  simp only [Op.intArith]
  rw [IntWalk.i64_in _ (by omega)]
theorem space_any (n : Int) (w : World) : Calls Tryd.prog 10 #[.int .i64 n] w fun e w' => e = .returned (.int .i64 (spc n)) ∧ w = w' := by
  refine spc_calls _ n w (fun h => ?_) (fun h1 h2 => ?_)
  · rcases h with h | h
    · go_enter Tryd.func10, Tryd.ntmps10
      go_wp2_with fail
      go_ret
      exact ⟨rfl, rfl⟩
    · have h0 : ¬ n < 5 := by omega
      go_enter Tryd.func10, Tryd.ntmps10
      go_wp2_with fail
      go_ret
      exact ⟨rfl, rfl⟩
  · have h3 : ¬ n < 5 := by omega
    have h4 : ¬ 2000 < n := by omega
    have e1 := mul8_c 3 n h1 h2
    have e2 := sub32_c 3 n h1 h2
    clear h1 h2
    go_enter Tryd.func10, Tryd.ntmps10
    go_wp2_with fail
    go_ret
    exact ⟨rfl, rfl⟩
theorem rspace_any (n : Int) (w : World) : Calls Tryd.prog 12 #[.int .i64 n] w fun e w' => e = .returned (.int .i64 (spc n)) ∧ w = w' := by
  refine spc_calls _ n w (fun h => ?_) (fun h1 h2 => ?_)
  · rcases h with h | h
    · go_enter Tryd.func12, Tryd.ntmps12
      go_wp2_with fail
      go_ret
      exact ⟨rfl, rfl⟩
    · have h0 : ¬ n < 5 := by omega
      go_enter Tryd.func12, Tryd.ntmps12
      go_wp2_with fail
      go_ret
      exact ⟨rfl, rfl⟩
  · have h3 : ¬ n < 5 := by omega
    have h4 : ¬ 2000 < n := by omega
    have e1 := mul8_c 3 n h1 h2
    have e2 := sub32_c 3 n h1 h2
    clear h1 h2
    go_enter Tryd.func12, Tryd.ntmps12
    go_wp2_with fail
    go_ret
    exact ⟨rfl, rfl⟩

end Go.Proofs.YtbejmcndflmgaaaDoor
