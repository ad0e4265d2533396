/-
  The checksum's smallest functions, walked: feed, TrailingZeros32, Extend, Of.
-/
import Derived.Test.YtdnbnbnfbfdflaaDoorRows
import Derived.Test.YtdnbnbnfbfdflaaDoorCrcA
import Derived.Test.YtdnbnbnfbfdflaaDoorQuiet
import Derived.Deep.LoopGhost
namespace Go.Proofs.YtdnbnbnfbfdflaaDoor
open Go.RowKit
set_option linter.unusedVariables false
theorem eqGuard_wv (op : BinOp) (t : TypeId) (x y : Operand) (a : UInt32) (b : Value) : eqGuard op t x y (wv a) b = pure () := by
  unfold wv
  cases op <;> rfl
attribute [local go_sem] eqGuard_wv binOp_add_wv binOp_and_wv binOp_or_wv binOp_xor_wv binOp_shr_wv binOp_shl_wv unary_xor_wv run_convert_wv run_store_wv run_convert_bw

/-- The two tables, as they are laid. -/
structure Tabs (w : World) : Prop where
  lo : 0 < w.heap.size
  hi : 1 < w.heap.size
  rem : ∀ j, j < 16 → w.cell? ⟨0, j, none⟩ = some (wv (T16.getD j 0))
  tz : ∀ j, j < 32 → w.cell? ⟨1, j, none⟩ = some (.int .u8 (Go.Lib.deBruijn32tab.getD j 0 : Nat))
theorem Tabs.keep {w w' : World} (h : Tabs w) (hb : Below w.heap.size w w') : Tabs w' :=
  ⟨Nat.lt_of_lt_of_le h.lo hb.size, Nat.lt_of_lt_of_le h.hi hb.size, fun j hj => (hb.cell (p := ⟨_, j, none⟩) h.lo).trans (h.rem j hj), fun j hj => (hb.cell (p := ⟨_, j, none⟩) h.hi).trans (h.tz j hj)⟩

theorem and15_c (t : TypeId) (x : UInt32) : binOp .and t (wv x) (.int .u32 15) = pure (wv (x &&& 15)) := binOp_and_wv t x 15
theorem and1_c (t : TypeId) (x : UInt32) : binOp .and t (wv x) (.int .u32 1) = pure (wv (x &&& 1)) := binOp_and_wv t x 1
theorem xorP_c (t : TypeId) (x : UInt32) : binOp .xor t (wv x) (.int .u32 2197175160) = pure (wv (x ^^^ P0)) := binOp_xor_wv t x P0
theorem xor_byte (t : TypeId) (r : UInt32) (x : UInt8) (r1 : UInt32) (h : r1 = r ^^^ x.toUInt32) : binOp .xor t (wv r) (.int .u32 ((x.toNat : Int) % 4294967296)) = pure (wv r1) := by
  rw [Int.emod_eq_of_lt (by omega) (by have := x.toNat_lt; omega), wv_u8, binOp_xor_wv, h]
theorem wv_val (x : UInt32) : wv x = .int .u32 (x.toNat : Int) := rfl

set_option maxHeartbeats 400000 in
theorem feed_any (r : UInt32) (x : UInt8) (w : World) (hT : Tabs w) :
    Calls Tryd.prog 19 #[wv r, bv x] w fun e w' => e = .returned (wv (fd r x)) ∧ w = w' := by
  have HE := hideIt (fd_nib r x)
  obtain ⟨z, hz⟩ : ∃ z, z = fd r x := ⟨_, rfl⟩
  rw [← hz] at HE ⊢
  obtain ⟨r1, hr1⟩ : ∃ y, y = r ^^^ x.toUInt32 := ⟨_, rfl⟩
  rw [← hr1] at HE
  have hx1 : binOp .xor 23 (wv r) (.int .u32 ((x.toNat : Int) % 4294967296)) = pure (wv r1) := xor_byte _ r x r1 hr1
  obtain ⟨y1, hy1⟩ : ∃ y, y = r1 &&& 15 := ⟨_, rfl⟩
  have ha1 : binOp .and 23 (wv r1) (.int .u32 15) = pure (.int .u32 (y1.toNat : Int)) := by rw [and15_c, hy1]; rfl
  have hl1 : y1.toNat < 16 := by rw [hy1]; exact and_15 _
  have hc1 := hT.rem _ hl1
  obtain ⟨r2, hr2⟩ : ∃ y, y = nib r1 := ⟨_, rfl⟩
  have hx2 : binOp .xor 23 (wv (shr r1 4)) (wv (T16.getD y1.toNat 0)) = pure (wv r2) := by rw [binOp_xor_wv, hr2, hy1]; rfl
  rw [← hr2] at HE
  obtain ⟨y2, hy2⟩ : ∃ y, y = r2 &&& 15 := ⟨_, rfl⟩
  have ha2 : binOp .and 23 (wv r2) (.int .u32 15) = pure (.int .u32 (y2.toNat : Int)) := by rw [and15_c, hy2]; rfl
  have hl2 : y2.toNat < 16 := by rw [hy2]; exact and_15 _
  have hc2 := hT.rem _ hl2
  have hx3 : binOp .xor 23 (wv (shr r2 4)) (wv (T16.getD y2.toNat 0)) = pure (wv z) := by rw [binOp_xor_wv, ← HE.out, hy2]; rfl
  generalize y1.toNat = k1 at *
  generalize y2.toNat = k2 at *
  generalize T16.getD k1 0 = t1 at *
  generalize T16.getD k2 0 = t2 at *
  have hi1 : (k1 : Int) < 16 := by omega
  have hi2 : (k2 : Int) < 16 := by omega
  clear hT hz hr1 hy1 hr2 hy2 HE
  go_enter Tryd.func19, Tryd.ntmps19
  go_wp2_with fail
  go_ret
  exact ⟨rfl, rfl⟩

theorem sub1_c (t : TypeId) (x : UInt32) : binOp .sub t (wv x) (.int .u32 1) = pure (wv (x - 1)) := by
  unfold wv
  rw [binOp_sub]
  simp only [Op.intArith]
  rw [IntKind.wrap_u32', UInt32.toNat_sub]
  congr 3
  have := x.toNat_lt
  show _ = (((2 ^ 32 - 1 + x.toNat) % 2 ^ 32 : Nat) : Int)
  omega

theorem neg_wv (r : UInt32) : Op.unary .neg (wv r) = pure (wv (-r)) := by
  unfold wv
  rw [unary_neg]
  simp only [Op.intArith]
  have h : IntKind.u32.wrap (0 - (r.toNat : Int)) = ((-r).toNat : Int) := by
    rw [IntKind.wrap_u32', UInt32.toNat_neg]
    have := r.toNat_lt
    simp only [UInt32.size]
    omega
  rw [h]
theorem mul_c (t : TypeId) (q : Nat) : binOp .mul t (.int .u32 (q : Int)) (.int .u32 125613361) = pure (.int .u32 ((q * 125613361 % 4294967296 : Nat) : Int)) := by
  rw [binOp_mul]
  simp only [Op.intArith]
  have h : IntKind.u32.wrap ((q : Int) * 125613361) = ((q * 125613361 % 4294967296 : Nat) : Int) := by
    rw [IntKind.wrap_u32']; omega
  rw [h]
theorem shr27_c (t : TypeId) (m : Nat) : binOp .shr t (.int .u32 (m : Int)) (.int .u64 27) = pure (.int .u32 ((m / 134217728 : Nat) : Int)) := by
  rw [binOp_shr]
  simp only [Op.shift]
  rw [if_neg (by decide)]
  have h : (m : Int).fdiv (2 ^ min (Int.toNat 27) IntKind.u32.bits) = ((m / 134217728 : Nat) : Int) := by
    rw [show (2 : Int) ^ min (Int.toNat 27) IntKind.u32.bits = 134217728 by decide, Int.fdiv_eq_ediv_of_nonneg _ (by decide)]
    omega
  rw [h]

theorem eq0_c (t : TypeId) (r : UInt32) (h0 : r ≠ 0) : binOp .eql t (wv r) (.int .u32 0) = pure (.bool false) := by
  unfold wv
  rw [binOp_eql]
  have : ((r.toNat : Int) == 0) = false := by
    have h : r.toNat ≠ 0 := fun e => h0 (UInt32.toNat_inj.1 (by rw [e]; rfl))
    rw [beq_eq_false_iff_ne]; omega
  rw [this]
set_option maxHeartbeats 400000 in
theorem tz_core (r : UInt32) (k q m i : Nat) (w : World) (hi : i < 32) (hk : k < 32) (hz : binOp .eql 23 (wv r) (.int .u32 0) = pure (.bool false))
    (hn : Op.unary .neg (wv r) = pure (wv (-r))) (ha : binOp .and 23 (wv r) (wv (-r)) = pure (.int .u32 (q : Int)))
    (hm : binOp .mul 23 (.int .u32 (q : Int)) (.int .u32 125613361) = pure (.int .u32 (m : Int)))
    (hs : binOp .shr 23 (.int .u32 (m : Int)) (.int .u64 27) = pure (.int .u32 (k : Int)))
    (hc : w.cell? ⟨1, k, none⟩ = some (.int .u8 (i : Int))) :
    Calls Tryd.prog 25 #[wv r] w fun e w' => e = .returned (.int .i64 (i : Int)) ∧ w = w' := by
  go_enter Tryd.func25, Tryd.ntmps25
  go_wp2_with fail
  go_ret
  exact ⟨rfl, rfl⟩
theorem tz_any (r : UInt32) (h0 : r ≠ 0) (w : World) (hT : Tabs w) :
    Calls Tryd.prog 25 #[wv r] w fun e w' => (∃ i : Nat, i < 32 ∧ e = .returned (.int .i64 (i : Int)) ∧ r = shl 1 i ^^^ (r &&& (r - 1)) ∧ (r &&& (r - 1)).toNat < r.toNat) ∧ w = w' := by
  obtain ⟨i, hi, hlow, hsp, hlt⟩ := low_bit r h0
  obtain ⟨hj, htab⟩ := Go.Lib.deBruijn32_at i hi
  have hcell := hT.tz _ hj
  rw [htab] at hcell
  refine (tz_core r _ (2 ^ i) _ i w hi hj (eq0_c _ r h0) (neg_wv r) (by rw [binOp_and_wv, wv_val, hlow]) (mul_c _ _) (shr27_c _ _) hcell).mono ?_
  rintro e w' ⟨rfl, rfl⟩
  exact ⟨⟨i, hi, rfl, hsp, hlt⟩, rfl⟩

set_option maxHeartbeats 400000 in
theorem extend_any (A : Option Addr) (B c : Nat) (r : UInt32) (l : List UInt8) (w : World) (hx : Sl w B A 1 l.length (l.map bv)) (hl : l.length ≤ 140737488355328) (hT : Tabs w) :
    Calls Tryd.prog 13 #[wv r, .slice A l.length c] w fun e w' => e = .returned (wv (ext r l)) ∧ w = w' := by
  have HX := hideIt hx
  have HT := hideIt hT
  obtain ⟨z, hz⟩ : ∃ z, z = ext r l := ⟨_, rfl⟩
  rw [← hz]
  have HZ := hideIt hz
  clear hx hT hz
  go_enter Tryd.func13, Tryd.ntmps13
  go_wp2
  go_loopg [5, 12] l.length (fun g s5 s12 wr => ∃ (k : Nat) (q : UInt32), g + k = l.length ∧ s12 = .int .i64 k ∧ s5 = wv q ∧ wr = w ∧ Aside (q = feeds (~~~ r) (l.take k)))
  case atStart => exact ⟨0, _, rfl, rfl, rfl, rfl, rfl⟩
  case round =>
    obtain ⟨k, q, hg, rfl, rfl, rfl, HQ⟩ := hrel
    by_cases hk : k < l.length
    · obtain ⟨b, off, rfl, _, hcell⟩ := HX.out.byte hk
      have HF := hideIt (feed_any q l[k] wr HT.out)
      have HN : Hid (fd q l[k] = feeds (~~~ r) (l.take (k + 1))) := by
        rw [take_snoc l k hk, feeds_app, ← HQ.out]; exact rfl
      generalize l[k] = x at *
      have hki : (k : Int) < (l.length : Int) := by omega
      go_wp2_with (go_at_call 19; refine HF.out.mono ?_; rintro e w' ⟨rfl, rfl⟩)
      go_roundg (gk - 1)
      case measure => omega
      case rel => exact ⟨k + 1, _, by omega, by go_num, rfl, rfl, HN.out⟩
    · have HE : Hid (~~~ q = z) := by
        rw [HZ.out, HQ.out, List.take_of_length_le (by omega)]; exact rfl
      obtain ⟨y, hy⟩ : ∃ y, y = ~~~ q := ⟨_, rfl⟩
      have hn : Op.unary .xor (wv q) = pure (wv y) := by rw [unary_xor_wv, hy]
      rw [← hy] at HE
      have hki : ¬ (k : Int) < (l.length : Int) := by omega
      clear hy
      go_wp2
      go_ret
      exact ⟨by rw [HE.out]; rfl, rfl⟩

set_option maxHeartbeats 400000 in
theorem of_any (A : Option Addr) (B c : Nat) (l : List UInt8) (w : World) (hx : Sl w B A 1 l.length (l.map bv)) (hl : l.length ≤ 140737488355328) (hT : Tabs w) :
    Calls Tryd.prog 11 #[.slice A l.length c] w fun e w' => e = .returned (wv (crc l)) ∧ w = w' := by
  have HE := hideIt (extend_any A B c 0 l w hx hl hT)
  clear hx hT
  go_enter Tryd.func11, Tryd.ntmps11
  go_wp2_with (go_at_call 13; refine HE.out.mono ?_; rintro e w' ⟨rfl, rfl⟩)
  go_ret
  exact ⟨rfl, rfl⟩

end Go.Proofs.YtdnbnbnfbfdflaaDoor
