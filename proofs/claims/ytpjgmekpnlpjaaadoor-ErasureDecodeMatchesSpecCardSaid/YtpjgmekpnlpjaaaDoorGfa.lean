/-
  The field as a later layer needs it: sums of bytes, the products of a unit, Combine (cut out of the texts of the field).
-/
import Derived.Test.YtpjgmekpnlpjaaaDoorFldM
import Derived.Laws.EntriesVeiled
import Derived.Maps.OwnIn
import Derived.BigQuiet
import Derived.Test.YtpjgmekpnlpjaaaDoorFldOk
namespace Go.Proofs.YtpjgmekpnlpjaaaDoor
section
open Go.RowKit Go.Shelf
set_option linter.unusedVariables false

theorem str_at {P : Program} {T : TypeId} (hT : P.underlying T = some .string) (l : List UInt8) (i : Nat) (hi : i < l.length) (W : World) : (Instr.index T (.string (str l)) (.int .i64 (i : Int))).run P W = .ok (bv l[i]) W := by
  rw [run_index_string W T _ _ _ hT, dif_pos (by rw [str_size]; omega)]
  unfold str
  simp [ByteArray.getElem_eq_getElem_data]

/-- The first j bytes of a sum. -/
def xrK (a b : List UInt8) (j : Nat) : List UInt8 := xr (a.take j) (b.take j) ++ a.drop j
theorem xrK_zero (a b : List UInt8) : xrK a b 0 = a := by simp [xrK, xr]
theorem xrK_all (a b : List UInt8) (h : a.length = b.length) : xrK a b a.length = xr a b := by
  unfold xrK
  rw [List.drop_length, List.append_nil, List.take_length, h, List.take_length]
theorem xrK_len (a b : List UInt8) (h : a.length = b.length) (j : Nat) : (xrK a b j).length = a.length := by
  unfold xrK
  rw [List.length_append, xr_len _ _ (by rw [List.length_take, List.length_take, h]), List.length_take, List.length_drop]
  omega
theorem xrK_at (a b : List UInt8) (h : a.length = b.length) (j : Nat) (hj : j < a.length) : (xrK a b j)[j]'(by rw [xrK_len a b h]; exact hj) = a[j] := by
  have hl : (xr (a.take j) (b.take j)).length = j := by rw [xr_len _ _ (by rw [List.length_take, List.length_take, h]), List.length_take]; omega
  have e : (xrK a b j)[j]? = some a[j] := by
    unfold xrK
    rw [List.getElem?_append_right (by omega), hl, Nat.sub_self, List.getElem?_drop, Nat.add_zero, List.getElem?_eq_getElem hj]
  have e2 := List.getElem?_eq_getElem (l := xrK a b j) (i := j) (by rw [xrK_len a b h]; exact hj)
  rw [e] at e2
  exact (Option.some.inj e2).symm
theorem xrK_set (a b : List UInt8) (h : a.length = b.length) (j : Nat) (hj : j < a.length) : (xrK a b j).set j (a[j] ^^^ b[j]'(by omega)) = xrK a b (j + 1) := by
  have hl : (xr (a.take j) (b.take j)).length = j := by rw [xr_len _ _ (by rw [List.length_take, List.length_take, h]), List.length_take]; omega
  unfold xrK
  rw [List.set_append_right _ _ (by omega), hl, Nat.sub_self, List.drop_eq_getElem_cons hj, List.set_cons_zero, take_snoc a j hj, take_snoc b j (by omega)]
  unfold xr
  rw [List.zipWith_append (by rw [List.length_take, List.length_take, h])]
  simp

theorem m8_pos {m : Nat} (hm : Fm m) : 0 < m / 8 := by rcases hm with rfl | rfl <;> decide
set_option maxHeartbeats 400000 in
theorem whole_any (m : Nat) (l : List UInt8) (hm : Fm m) (w : World) :
    Calls Tryd.prog 74 #[.int .i64 (m : Int), .string (str l)] w fun e w' => e = .returned (.bool (decide (l.length % (m / 8) = 0))) ∧ w = w' := by
  have hsz := str_size l
  have hquo : binOp .quo 3 (.int .i64 (m : Int)) (.int .i64 8) = pure (.int .i64 ((m / 8 : Nat) : Int)) := nquo 3 m 8 (by decide) (by have := fm_le hm; omega)
  have hrem := nrem 3 l.length (m / 8) (m8_pos hm)
  generalize m / 8 = d at *
  by_cases hw : l.length % d = 0
  · rw [decide_eq_true hw]
    have hq := int_eqlT 3 (a := ((l.length % d : Nat) : Int)) (b := 0) (by omega)
    clear hw hm
    generalize str l = s at *
    generalize l.length % d = z at *
    generalize l.length = n at *
    go_enter Tryd.func74, Tryd.ntmps74
    go_wp2_with fail
    go_ret
    exact ⟨rfl, rfl⟩
  · rw [decide_eq_false hw]
    have hq := int_eqlF 3 (a := ((l.length % d : Nat) : Int)) (b := 0) (by omega)
    clear hw hm
    generalize str l = s at *
    generalize l.length % d = z at *
    generalize l.length = n at *
    go_enter Tryd.func74, Tryd.ntmps74
    go_wp2_with fail
    go_ret
    exact ⟨rfl, rfl⟩

set_option maxRecDepth 100000 in
set_option maxHeartbeats 400000 in
theorem addb_any (a b : List UInt8) (h : a.length = b.length) (hl : a.length ≤ 100000) (g c : Nat) (w : World) (hr : BRow w g a) (A : Option Addr) (c2 : Nat) (hs : Sl w w.heap.size A 1 b.length (b.map bv)) (hne : ∀ k o, A = some ⟨k, o, none⟩ → k ≠ g) :
    Calls Tryd.prog 62 #[.slice (some ⟨g, 0, none⟩) a.length c, .slice A b.length c2] w fun e w' => e = .returned (.tuple #[]) ∧ BRow w' g (xr a b) ∧ Keeps (fun k => k = g) w w' := by
  have HSL := hideIt hs
  have HNE := hideIt hne
  have HH := hideIt h
  have HL := hideIt hl
  have HR := hideIt hr
  obtain ⟨n, hn⟩ : ∃ n, n = a.length := ⟨_, rfl⟩
  rw [← h, ← hn]
  have HN := hideIt hn
  clear hs hne h hl hr hn
  go_enter Tryd.func62, Tryd.ntmps62
  go_wp2_with fail
  go_loopg [4, 7] n (fun gk s4 s7 wr => ∃ j : Nat, j + gk = n ∧ s7 = .int .i64 (j : Int) ∧ Aside (BRow wr g (xrK a b j) ∧ Keeps (fun k => k = g) w wr))
  case atStart => exact ⟨0, by omega, rfl, by rw [xrK_zero]; exact HR.out, Keeps.refl _ _⟩
  case round =>
    obtain ⟨j, hj, rfl, HI⟩ := hrel
    by_cases hlt : j < n
    · have hja : j < a.length := by rw [← HN.out]; exact hlt
      have hjb : j < b.length := by rw [← HH.out]; exact hja
      have hcell := HI.out.1.cell j (by rw [xrK_len a b HH.out]; exact hja)
      rw [xrK_at a b HH.out j hja] at hcell
      have hfree := HI.out.1.free j (by rw [xrK_len a b HH.out]; exact hja)
      have hst := (show BRow wr.drew g (xrK a b j) from ⟨HI.out.1.lt, HI.out.1.cell, HI.out.1.free⟩).store j (by rw [xrK_len a b HH.out]; exact hja) (a[j] ^^^ b[j])
      rw [xrK_set a b HH.out j hja] at hst
      have HST := hideIt hst
      obtain ⟨k, off, hA, hk, hcb0⟩ := HSL.out.byte hjb
      have hkg := HNE.out k off hA
      subst hA
      have hcb := (HI.out.2.cell (p := ⟨k, off + j, none⟩) hk hkg).trans hcb0
      clear hk hkg hcb0
      have hxor := xor_c 5 a[j] b[j]
      have hinc := inc_c 3 j (by have := HL.out; omega)
      have hji : (j : Int) < (n : Int) := by omega
      have HK := hideIt HI.out.2
      clear hst HI
      generalize a[j] = u at *
      generalize b[j] = v at *
      clear hja hjb
      generalize u ^^^ v = y at *
      go_wp2_with fail
      refine still_tail 10 (by kernel_rfl) (by kernel_rfl) ?_
      intro w3 hw3
      have h2D : w3.cell? ⟨g, j, none⟩ = some (bv u) := by rw [hw3]; exact hcell
      have h3D : w3.frozen? ⟨g, j, none⟩ = false := by rw [hw3]; exact hfree
      rw [← hw3] at HST
      have HKW3 := hideIt (show Keeps (fun q => q = g) w w3 by rw [hw3]; exact HK.out.drew)
      have h4D : w3.cell? ⟨k, off + j, none⟩ = some (bv v) := by rw [hw3]; exact hcb
      clear hcell hfree hw3 hcb
      simp only [List.take_succ_cons, List.take_zero, List.drop_succ_cons, List.drop_zero]
      repeat still_step
      refine wpStill_nil ?_
      go_wp2_with fail
      go_roundg (gk - 1)
      case measure => omega
      case rel => exact ⟨j + 1, by omega, by go_num, HST.out, HKW3.out.setCell rfl _⟩
    · obtain rfl : j = n := by omega
      have HE := hideIt (show BRow wr g (xr a b) by have := HI.out.1; rw [HN.out, xrK_all a b HH.out] at this; exact this)
      have HK := hideIt HI.out.2
      clear HI
      go_wp2_with fail
      go_end0
      exact ⟨rfl, HE.out, HK.out⟩

end

section
open Go.RowKit Go.Shelf
set_option linter.unusedVariables false
attribute [local go_sem] Oper.semAt_some

theorem cells2 (w : World) (o : Obj) (t : TypeId) (v : Value) : ((w.alloc (.cells #[v] t)).alloc o).cell? ⟨w.heap.size, 0, none⟩ = some v := by
  rw [World.cell?_of_block (w := w.alloc (.cells #[v] t)) (Below.heap_alloc _ _ _ (by simp))]
  exact cell_one w t v

set_option maxHeartbeats 400000 in
theorem symbols_any (m : Nat) (hm : Fm m) (s : ByteArray) (w : World) :
    Calls Tryd.prog 75 #[.int .i64 (m : Int), .string s] w fun e w' => e = .returned (.func (.func 84) #[] #[.pointer (some ⟨w.heap.size + 1, 0, none⟩), .pointer (some ⟨w.heap.size + 2, 0, none⟩), .pointer (some ⟨w.heap.size, 0, none⟩)]) ∧
      Below w.heap.size w w' ∧ w'.heap.size = w.heap.size + 3 ∧ w'.cell? ⟨w.heap.size, 0, none⟩ = some (.int .i64 (m : Int)) ∧ w'.cell? ⟨w.heap.size + 1, 0, none⟩ = some (.string s) ∧ w'.cell? ⟨w.heap.size + 2, 0, none⟩ = some (.int .i64 ((m / 8 : Nat) : Int)) := by
  have hquo : binOp .quo 3 (.int .i64 (m : Int)) (.int .i64 8) = pure (.int .i64 ((m / 8 : Nat) : Int)) := nquo 3 m 8 (by decide) (by have := fm_le hm; omega)
  clear hm
  generalize m / 8 = d at *
  go_enter Tryd.func75, Tryd.ntmps75
  go_wp2_with fail
  go_ret
  obtain ⟨w1, hw1⟩ : ∃ x, x = w.alloc (.cells #[.int .i64 (m : Int)] 3) := ⟨_, rfl⟩
  have z1 : w1.heap.size = w.heap.size + 1 := by rw [hw1]; simp
  have c1 : w1.cell? ⟨w.heap.size, 0, none⟩ = some (.int .i64 (m : Int)) := by rw [hw1]; exact cell_one _ _ _
  have b1 : Below w.heap.size w w1 := by rw [hw1]; exact below_new _ _
  obtain ⟨w2, hw2⟩ : ∃ x, x = w1.alloc (.cells #[.string s] 9) := ⟨_, rfl⟩
  have z2 : w2.heap.size = w.heap.size + 2 := by rw [hw2]; simp [z1]
  have c2 : w2.cell? ⟨w.heap.size + 1, 0, none⟩ = some (.string s) := by rw [hw2, ← z1]; exact cell_one _ _ _
  have b2 : Below w1.heap.size w1 w2 := by rw [hw2]; exact below_new _ _
  obtain ⟨w3, hw3⟩ : ∃ x, x = w2.alloc (.cells #[.int .i64 (d : Int)] 3) := ⟨_, rfl⟩
  have z3 : w3.heap.size = w.heap.size + 3 := by rw [hw3]; simp [z2]
  have c3 : w3.cell? ⟨w.heap.size + 2, 0, none⟩ = some (.int .i64 (d : Int)) := by rw [hw3, ← z2]; exact cell_one _ _ _
  have b3 : Below w2.heap.size w2 w3 := by rw [hw3]; exact below_new _ _
  rw [← hw1, ← hw2, ← hw3]
  have b13 : Below w1.heap.size w1 w3 := b2.trans (b3.mono (by omega))
  refine ⟨rfl, b1.trans (b13.mono (by omega)), z3, (b13.cell (p := ⟨w.heap.size, 0, none⟩) (by show w.heap.size < _; omega)).trans c1, (b3.cell (p := ⟨w.heap.size + 1, 0, none⟩) (by show w.heap.size + 1 < _; omega)).trans c2, c3⟩

theorem sy8_len (l : List UInt8) : (sy 8 l).length = l.length := by unfold sy; rw [if_neg (by decide), List.length_map]
theorem sy8_at (l : List UInt8) (j : Nat) (h : j < l.length) : (sy 8 l)[j]'(by rw [sy8_len]; exact h) = l[j].toNat := by
  have e : (sy 8 l)[j]? = some l[j].toNat := by
    unfold sy
    rw [if_neg (by decide), List.getElem?_map, List.getElem?_eq_getElem h]
    rfl
  have e2 := List.getElem?_eq_getElem (l := sy 8 l) (i := j) (by rw [sy8_len]; exact h)
  rw [e] at e2
  exact (Option.some.inj e2).symm
theorem sy16_len (l : List UInt8) (h : whl 16 l) : 2 * (sy 16 l).length = l.length := by
  revert h
  refine pairs (P := fun l => 2 * (sy 16 l).length = l.length) rfl ?_ l
  intro u v l _ ih
  show 2 * ((256 * u.toNat + v.toNat) :: sy 16 l).length = _
  simp only [List.length_cons] at ih ⊢
  omega
theorem sy16_at? (l : List UInt8) (h : whl 16 l) : ∀ j x y, l[2 * j]? = some x → l[2 * j + 1]? = some y → (sy 16 l)[j]? = some (256 * x.toNat + y.toNat) := by
  revert h
  refine pairs (P := fun l => ∀ j x y, l[2 * j]? = some x → l[2 * j + 1]? = some y → (sy 16 l)[j]? = some (256 * x.toNat + y.toNat)) ?_ ?_ l
  · intro j x y hx _
    simp at hx
  · intro u v l _ ih j x y hx hy
    show ((256 * u.toNat + v.toNat) :: sy 16 l)[j]? = _
    cases j with
    | zero =>
      simp only [Nat.mul_zero, Nat.zero_add, List.getElem?_cons_zero, List.getElem?_cons_succ, Option.some.injEq] at hx hy
      rw [List.getElem?_cons_zero, hx, hy]
    | succ j =>
      rw [show 2 * (j + 1) = 2 * j + 1 + 1 by omega, List.getElem?_cons_succ, List.getElem?_cons_succ] at hx
      rw [show 2 * (j + 1) + 1 = 2 * j + 1 + 1 + 1 by omega, List.getElem?_cons_succ, List.getElem?_cons_succ] at hy
      rw [List.getElem?_cons_succ]
      exact ih j x y hx hy
theorem sy16_at (l : List UInt8) (h : whl 16 l) (j : Nat) (hj : 2 * j + 1 < l.length) : (sy 16 l)[j]'(by have := sy16_len l h; omega) = 256 * l[2 * j].toNat + l[2 * j + 1].toNat := by
  have e := sy16_at? l h j _ _ (List.getElem?_eq_getElem (by omega)) (List.getElem?_eq_getElem hj)
  have e2 := List.getElem?_eq_getElem (l := sy 16 l) (i := j) (by have := sy16_len l h; omega)
  rw [e] at e2
  exact (Option.some.inj e2).symm
theorem or_bytes (u v : UInt8) : (u.toNat * 2 ^ 8) ||| v.toNat = 256 * u.toNat + v.toNat := by
  have := Nat.two_pow_add_eq_or_of_lt (i := 8) v.toNat_lt u.toNat
  rw [Nat.mul_comm, ← this]
theorem conv_u8 (u : UInt8) (W : World) : (convert 5 3 (bv u)).run Tryd.prog W = .ok (.int .i64 ((u.toNat : Nat) : Int)) W := by
  rw [run_convert_int (P := Tryd.prog) W 5 3 .u8 _ (by kernel_rfl) (by kernel_rfl), show Tryd.prog.intKind 3 = .i64 by kernel_rfl, IntWalk.i64_in _ (by have := u.toNat_lt; omega)]
/-- What the iterator over the symbols reads: three boxes. -/
def capS (B b : Nat) : Prop := b = B ∨ b = B + 1 ∨ b = B + 2

set_option maxHeartbeats 400000 in
set_option maxRecDepth 100000 in
theorem sym8_iter (l : List UInt8) (hl : l.length ≤ 100000) (B : Nat) (w0 : World) (hB : B + 2 < w0.heap.size) (hm : w0.cell? ⟨B, 0, none⟩ = some (.int .i64 8)) (hu : w0.cell? ⟨B + 1, 0, none⟩ = some (.string (str l))) (hd : w0.cell? ⟨B + 2, 0, none⟩ = some (.int .i64 1)) :
    Iter Tryd.prog 84 #[.pointer (some ⟨B + 1, 0, none⟩), .pointer (some ⟨B + 2, 0, none⟩), .pointer (some ⟨B, 0, none⟩)] (fun x : Nat => #[.int .i64 (x : Int)]) (sy 8 l) (capS B) w0 := by
  intro y T J Jx W hC hT1 hJ hJx hY h0
  have hcell : ∀ (k : Nat) (v : Value), capS B k → w0.cell? ⟨k, 0, none⟩ = some v → ∀ V : World, Keeps T W V → V.cell? ⟨k, 0, none⟩ = some v := fun k v hk hv V hV => by
    have h1 := hC k hk
    rw [hV.cell (p := ⟨k, 0, none⟩) (lt_of_block h1.1 h1.2) (fun h => (hT1 k h).2 hk), World.cell?_of_block (w := w0) (a := ⟨k, 0, none⟩) h1.2]
    exact hv
  have HM := hideIt (hcell B _ (Or.inl rfl) hm)
  have HU := hideIt (hcell (B + 1) _ (Or.inr (Or.inl rfl)) hu)
  have HD := hideIt (hcell (B + 2) _ (Or.inr (Or.inr rfl)) hd)
  have HY := hideIt hY
  have H0 := hideIt h0
  have HIX := hideIt (fun i hi W => str_at (P := Tryd.prog) (T := 9) Tryd.underlying9 l i hi W)
  have hsz := str_size l
  clear hC hT1 hJ hJx hY h0 hcell hm hu hd
  generalize str l = s at *
  refine callsIn_of_wp Tryd.func84 rfl trivial ?_
  simp only [Tryd.ntmps84, List.size_toArray, List.length_cons, List.length_nil, Nat.reduceAdd, Nat.reduceSub, Array.replicate_succ, Array.replicate_zero, List.push_toArray, List.append_toArray, List.nil_append, List.cons_append]
  gi_wp2
  gi_loopw [5] (fun i wr => ∃ j : Nat, j ≤ l.length ∧ i = .int .i64 j ∧ J ((sy 8 l).take j) wr ∧ Keeps T W wr) (fun i _ => l.length - (intOf i).toNat)
  case atStart => exact ⟨0, by omega, rfl, H0.out, Keeps.refl T W⟩
  case round =>
    obtain ⟨j, hj, rfl, hJs, hKs⟩ := hrel
    by_cases hlt : j < l.length
    · have h1 := HM.out _ hKs
      have h2 := HU.out _ hKs
      have h3 := HD.out _ hKs
      have hat := sy8_at l j hlt
      have hpre := take_pre (sy 8 l) j (by rw [sy8_len]; exact hlt)
      have hsn : (sy 8 l).take (j + 1) = (sy 8 l).take j ++ [(sy 8 l)[j]'(by rw [sy8_len]; exact hlt)] := take_snoc _ _ _
      rw [hat] at hpre hsn
      have HSN := hideIt hsn
      have hix := fun W => HIX.out j hlt W
      have hcv := fun W => conv_u8 l[j] W
      obtain ⟨fn, tmps, assign, body, hy, hR⟩ := HY.out _ l[j].toNat wr hpre hKs hJs
      have hinc := inc_c 3 j (by omega)
      have hji : (j : Int) < (l.length : Int) := by omega
      clear hat hpre hsn
      generalize l[j] = u at *
      generalize u.toNat = x at *
      gi_wp2
      refine ⟨rfl, ?_⟩
      refine hR.mono ?_
      rintro e W3 (⟨rfl, hK3, hJ3⟩ | ⟨rfl, hK3, hJx3⟩)
      · have h4 := HD.out _ (hKs.trans hK3)
        gi_wp2
        go_roundw
        case rel => exact ⟨j + 1, by omega, by go_num, by rw [HSN.out]; exact hJ3, hKs.trans hK3⟩
        case measure => simp [intOf]; omega
      · gi_wp2
        refine bodyPost_ret (results_none rfl _ _ _) rfl ?_
        exact ⟨⟨_, rfl⟩, hKs.trans hK3, .inr ⟨_, by rw [← HSN.out]; exact List.take_prefix _ _, hJx3⟩⟩
    · have h2 := HU.out _ hKs
      have hji : ¬ (j : Int) < (l.length : Int) := by omega
      obtain rfl : j = l.length := by omega
      rw [List.take_of_length_le (by rw [sy8_len]; omega)] at hJs
      gi_wp2
      go_end0
      exact ⟨⟨_, rfl⟩, hKs, .inl hJs⟩

set_option maxHeartbeats 400000 in
set_option maxRecDepth 100000 in
theorem sym16_iter (l : List UInt8) (hw : whl 16 l) (hl : l.length ≤ 100000) (B : Nat) (w0 : World) (hB : B + 2 < w0.heap.size) (hm : w0.cell? ⟨B, 0, none⟩ = some (.int .i64 16)) (hu : w0.cell? ⟨B + 1, 0, none⟩ = some (.string (str l))) (hd : w0.cell? ⟨B + 2, 0, none⟩ = some (.int .i64 2)) :
    Iter Tryd.prog 84 #[.pointer (some ⟨B + 1, 0, none⟩), .pointer (some ⟨B + 2, 0, none⟩), .pointer (some ⟨B, 0, none⟩)] (fun x : Nat => #[.int .i64 (x : Int)]) (sy 16 l) (capS B) w0 := by
  intro y T J Jx W hC hT1 hJ hJx hY h0
  have hcell : ∀ (k : Nat) (v : Value), capS B k → w0.cell? ⟨k, 0, none⟩ = some v → ∀ V : World, Keeps T W V → V.cell? ⟨k, 0, none⟩ = some v := fun k v hk hv V hV => by
    have h1 := hC k hk
    rw [hV.cell (p := ⟨k, 0, none⟩) (lt_of_block h1.1 h1.2) (fun h => (hT1 k h).2 hk), World.cell?_of_block (w := w0) (a := ⟨k, 0, none⟩) h1.2]
    exact hv
  have HM := hideIt (hcell B _ (Or.inl rfl) hm)
  have HU := hideIt (hcell (B + 1) _ (Or.inr (Or.inl rfl)) hu)
  have HD := hideIt (hcell (B + 2) _ (Or.inr (Or.inr rfl)) hd)
  have HY := hideIt hY
  have H0 := hideIt h0
  have HIX := hideIt (fun i hi W => str_at (P := Tryd.prog) (T := 9) Tryd.underlying9 l i hi W)
  have hsz := str_size l
  have HW := hideIt hw
  have hsl := sy16_len l hw
  clear hC hT1 hJ hJx hY h0 hcell hm hu hd hw
  generalize str l = s at *
  refine callsIn_of_wp Tryd.func84 rfl trivial ?_
  simp only [Tryd.ntmps84, List.size_toArray, List.length_cons, List.length_nil, Nat.reduceAdd, Nat.reduceSub, Array.replicate_succ, Array.replicate_zero, List.push_toArray, List.append_toArray, List.nil_append, List.cons_append]
  gi_wp2
  gi_loopw [5] (fun i wr => ∃ j : Nat, 2 * j ≤ l.length ∧ i = .int .i64 ((2 * j : Nat) : Int) ∧ J ((sy 16 l).take j) wr ∧ Keeps T W wr) (fun i _ => l.length - (intOf i).toNat)
  case atStart => exact ⟨0, by omega, rfl, H0.out, Keeps.refl T W⟩
  case round =>
    obtain ⟨j, hj, rfl, hJs, hKs⟩ := hrel
    by_cases hlt : 2 * j < l.length
    · have h1 := HM.out _ hKs
      have h2 := HU.out _ hKs
      have h3 := HD.out _ hKs
      have hlt2 : 2 * j + 1 < l.length := by omega
      have hat := sy16_at l HW.out j hlt2
      have hpre := take_pre (sy 16 l) j (by omega)
      have hsn : (sy 16 l).take (j + 1) = (sy 16 l).take j ++ [(sy 16 l)[j]'(by omega)] := take_snoc _ _ _
      rw [hat] at hpre hsn
      have HSN := hideIt hsn
      have hix0 := fun W => HIX.out (2 * j) hlt W
      have hix1 := fun W => HIX.out (2 * j + 1) hlt2 W
      have hcv0 := fun W => conv_u8 l[2 * j] W
      have hcv1 := fun W => conv_u8 l[2 * j + 1] W
      have hshl : binOp .shl 3 (.int .i64 ((l[2 * j].toNat : Nat) : Int)) (.int .u64 8) = pure (.int .i64 ((l[2 * j].toNat * 2 ^ 8 : Nat) : Int)) := nshl 3 (k := .u64) l[2 * j].toNat 8 (by omega) (by have := l[2 * j].toNat_lt; omega)
      have hor := nor 3 (l[2 * j].toNat * 2 ^ 8) l[2 * j + 1].toNat (by have := l[2 * j].toNat_lt; omega) (by have := l[2 * j + 1].toNat_lt; omega)
      rw [or_bytes] at hor
      obtain ⟨fn, tmps, assign, body, hy, hR⟩ := HY.out _ _ wr hpre hKs hJs
      have hinc := inc_c 3 (2 * j) (by omega)
      have hadd : binOp .add 3 (.int .i64 ((2 * j : Nat) : Int)) (.int .i64 2) = pure (.int .i64 ((2 * (j + 1) : Nat) : Int)) := nadd 3 (2 * j) 2 (by omega)
      have hji : ((2 * j : Nat) : Int) < (l.length : Int) := by omega
      clear hat hpre hsn
      generalize l[2 * j] = u at *
      generalize l[2 * j + 1] = v at *
      generalize 256 * u.toNat + v.toNat = x at *
      generalize u.toNat * 2 ^ 8 = y1 at *
      generalize u.toNat = y2 at *
      generalize v.toNat = y3 at *
      obtain ⟨i2, hi2⟩ : ∃ i2, i2 = 2 * (j + 1) := ⟨_, rfl⟩
      rw [← hi2] at hadd
      have HI2 := hideIt (show i2 = 2 * (j + 1) ∧ 2 * j < i2 from ⟨hi2, by omega⟩)
      have HLT2 := hideIt hlt2
      clear hi2 hlt2 hlt
      generalize hi1 : 2 * j + 1 = i1 at *
      have HI1 := hideIt hi1
      clear hi1
      generalize hi0 : 2 * j = i0 at *
      have HI0 := hideIt hi0
      have hs1 : (i1 : Int) < (l.length : Int) := by have := HLT2.out; omega
      clear hj hi0
      gi_wp2
      refine ⟨rfl, ?_⟩
      refine hR.mono ?_
      rintro e W3 (⟨rfl, hK3, hJ3⟩ | ⟨rfl, hK3, hJx3⟩)
      · have h4 := HD.out _ (hKs.trans hK3)
        gi_wp2
        go_roundw
        case rel => exact ⟨j + 1, by have := HI2.out; have := HLT2.out; have := HI1.out; have := HI0.out; omega, by rw [← HI2.out.1], by rw [HSN.out]; exact hJ3, hKs.trans hK3⟩
        case measure => have := HI2.out; have := HLT2.out; have := HI1.out; have := HI0.out; simp [intOf]; omega
      · gi_wp2
        refine bodyPost_ret (results_none rfl _ _ _) rfl ?_
        exact ⟨⟨_, rfl⟩, hKs.trans hK3, .inr ⟨_, by rw [← HSN.out]; exact List.take_prefix _ _, hJx3⟩⟩
    · have h2 := HU.out _ hKs
      have hji : ¬ ((2 * j : Nat) : Int) < (l.length : Int) := by omega
      have hjl : 2 * j = l.length := by omega
      rw [hjl] at hji ⊢
      rw [List.take_of_length_le (by omega)] at hJs
      gi_wp2
      go_end0
      exact ⟨⟨_, rfl⟩, hKs, .inl hJs⟩

end

section
open Go.RowKit Go.Shelf
set_option linter.unusedVariables false
attribute [local go_sem] Oper.semAt_some

theorem sym_iter (m : Nat) (hmf : Fm m) (l : List UInt8) (hw : whl m l) (hl : l.length ≤ 100000) (B : Nat) (w0 : World) (hB : B + 2 < w0.heap.size) (hm : w0.cell? ⟨B, 0, none⟩ = some (.int .i64 (m : Int))) (hu : w0.cell? ⟨B + 1, 0, none⟩ = some (.string (str l))) (hd : w0.cell? ⟨B + 2, 0, none⟩ = some (.int .i64 ((m / 8 : Nat) : Int))) :
    Iter Tryd.prog 84 #[.pointer (some ⟨B + 1, 0, none⟩), .pointer (some ⟨B + 2, 0, none⟩), .pointer (some ⟨B, 0, none⟩)] (fun x : Nat => #[.int .i64 (x : Int)]) (sy m l) (capS B) w0 := by
  rcases hmf with rfl | rfl
  · exact sym8_iter l hl B w0 hB hm hu hd
  · exact sym16_iter l hw hl B w0 hB hm hu hd
theorem own_at {w w' : World} {base : Nat} {e : TypeId} {size n c g : Nat} {xs : List Value} (h : w.ownsRow base e size (.slice (some ⟨g, 0, none⟩) n c) n xs) (hb : w'.heap[g]? = w.heap[g]?) : w'.ownsRow base e size (.slice (some ⟨g, 0, none⟩) n c) n xs := by
  refine ⟨h.1, ?_⟩
  rcases h.2 with ⟨h0, _⟩ | ⟨g2, cap, cur, hv, hg, hh, r⟩
  · cases h0
  · injection hv with h1 h2 h3
    injection h1 with h1
    injection h1 with h1
    subst h1 h3
    exact .inr ⟨g, c, cur, rfl, hg, by rw [hb]; exact hh, r⟩
theorem own_lt {w : World} {base : Nat} {e : TypeId} {size n c g : Nat} {xs : List Value} (h : w.ownsRow base e size (.slice (some ⟨g, 0, none⟩) n c) n xs) : g < w.heap.size := by
  rcases h.2 with ⟨h0, _⟩ | ⟨g2, cap, cur, hv, hg, hh, r⟩
  · cases h0
  · injection hv with h1 h2 h3
    injection h1 with h1
    injection h1 with h1
    subst h1
    exact (Array.getElem?_eq_some_iff.1 hh).1
theorem conv_byte (q : Nat) (W : World) : (convert 3 5 (.int .i64 (q : Int))).run Tryd.prog W = .ok (bv (UInt8.ofNat q)) W := by
  rw [run_convert_int (P := Tryd.prog) W 3 5 .i64 _ (by kernel_rfl) (by kernel_rfl), show Tryd.prog.intKind 5 = .u8 by kernel_rfl, IntKind.wrap_u8']
  have e : (q : Int) % 256 = ((UInt8.ofNat q).toNat : Int) := by rw [UInt8.toNat_ofNat']; omega
  rw [e]
theorem at_append_in {F : Fence} {nF : Nat} {P : Program} {ops : Array Oper} {rest : List Oper} {Q : Exit → Act → World → Prop} {a : Act} {w : World} {xs : Array Operand} {ts : Array TypeId} {d t p f g}
    (h : wpListIn F nF P ops Q ({ dst := d, op := .call { callee := .builtin .append, args := xs, argTypes := ts }, type := t, pos := p, after := f, guard := g } :: rest) a w) :
    wpListIn F nF P ops Q ({ dst := d, op := .call { callee := .builtin .append, args := xs, argTypes := ts }, type := t, pos := p, after := f, guard := g } :: rest) a w := h

theorem free_one (W : World) (t : TypeId) (v : Value) : (W.alloc (.cells #[v] t)).frozen? ⟨W.heap.size, 0, none⟩ = false := by
  have h := heap_alloc_new W (.cells #[v] t)
  simp only [World.frozen?, h]
  rfl
theorem Tabs.of_block {w w' : World} (h : Tabs w) (h0 : w'.heap[0]? = w.heap[0]?) : Tabs w' := by
  have a0 := h.lo
  rw [Array.getElem?_eq_getElem a0] at h0
  refine ⟨(Array.getElem?_eq_some_iff.1 h0).1, fun j hj => ?_⟩
  rw [World.cell?_of_block (w := w) (a := ⟨0, j, none⟩) (by rw [Array.getElem?_eq_getElem a0]; exact h0)]
  exact h.tab j hj
theorem Keeps.grown {T : Nat → Prop} {a b c : World} {g : Nat} (h : Keeps T a b) (hg : b.grownBy c (some g)) (hT : T g) : Keeps T a c :=
  h.trans ⟨hg.os, hg.tape, hg.output, hg.size, fun k hk hn => hg.block k hk (fun e => by injection e with e; exact hn (e ▸ hT))⟩
/-- A row of bytes of the call's own, whose slice lies in a box. -/
structure Boxed (W : World) (g bx n k : Nat) (xs : List Value) : Prop where
  cell : W.cell? ⟨bx, 0, none⟩ = some (.slice (some ⟨g, 0, none⟩) k n)
  free : W.frozen? ⟨bx, 0, none⟩ = false
  own : W.ownsRow g 5 1 (.slice (some ⟨g, 0, none⟩) k n) k xs
  lt : bx < W.heap.size
  ne : g ≠ bx
theorem Boxed.keep {W W' : World} {g bx n k : Nat} {xs : List Value} (h : Boxed W g bx n k xs) (hb : Below W.heap.size W W') : Boxed W' g bx n k xs :=
  ⟨(hb.cell (p := ⟨bx, 0, none⟩) h.lt).trans h.cell, (hb.frozen (p := ⟨bx, 0, none⟩) h.lt).trans h.free, own_at h.own (hb.block g (own_lt h.own)), Nat.lt_of_lt_of_le h.lt hb.size, h.ne⟩
theorem Boxed.low {L : Nat} {W W' : World} {g bx n k : Nat} {xs : List Value} (h : Boxed W g bx n k xs) (hg : g < L) (hx : bx < L) (hb : Below L W W') : Boxed W' g bx n k xs :=
  ⟨(hb.cell (p := ⟨bx, 0, none⟩) hx).trans h.cell, (hb.frozen (p := ⟨bx, 0, none⟩) hx).trans h.free, own_at h.own (hb.block g hg), Nat.lt_of_lt_of_le h.lt hb.size, h.ne⟩
theorem Boxed.next {W W6 : World} {g bx n k : Nat} {xs ys : List Value} (h : Boxed W g bx n k xs) (hg : W.grownBy W6 (some g)) (ho : W6.ownsRow g 5 1 (.slice (some ⟨g, 0, none⟩) (k + 1) n) (k + 1) ys) :
    W6.cell? ⟨bx, 0, none⟩ = some (.slice (some ⟨g, 0, none⟩) k n) ∧ W6.frozen? ⟨bx, 0, none⟩ = false ∧ Boxed (W6.setCell ⟨bx, 0, none⟩ (.slice (some ⟨g, 0, none⟩) (k + 1) n)) g bx n (k + 1) ys := by
  have hbk := hg.block bx h.lt (fun e => by injection e with e; exact h.ne e.symm)
  have c6 : W6.cell? ⟨bx, 0, none⟩ = some (.slice (some ⟨g, 0, none⟩) k n) := by rw [World.cell?_of_block (w := W) (a := ⟨bx, 0, none⟩) hbk]; exact h.cell
  have f6 : W6.frozen? ⟨bx, 0, none⟩ = false := by rw [World.frozen?_of_block (w := W) (a := ⟨bx, 0, none⟩) hbk]; exact h.free
  refine ⟨c6, f6, ⟨?_, ?_, ?_, ?_, h.ne⟩⟩
  · rw [World.cell?_setCell_same' _ _ _ (by rw [c6]; rfl)]
  · rw [World.frozen?_setCell]; exact f6
  · exact own_at ho (heap_setCell_other W6 ⟨bx, 0, none⟩ g _ h.ne)
  · simpa [World.setCell] using Nat.lt_of_lt_of_le h.lt hg.size

/-- The bytes of the first symbols' multiples. -/
def prB (m c : Nat) (pre : List Nat) : List UInt8 := pre.flatMap fun s => byt m (mul m s c)
theorem prB_snoc (m c : Nat) (pre : List Nat) (x : Nat) : prB m c (pre ++ [x]) = prB m c pre ++ byt m (mul m x c) := by
  unfold prB; rw [List.flatMap_append]; simp
theorem prB_all (m c : Nat) (l : List UInt8) : prB m c (sy m l) = sc m c l := rfl
theorem prB_le (m c : Nat) (l : List UInt8) (hm : Fm m) (hw : whl m l) (pre : List Nat) (h : pre <+: sy m l) : (prB m c pre).length ≤ l.length := by
  obtain ⟨t, ht⟩ := h
  have h1 := sc_len hm c l hw
  rw [← prB_all, ← ht] at h1
  unfold prB at h1 ⊢
  rw [List.flatMap_append, List.length_append] at h1
  omega
theorem sy_lt (m : Nat) (hm : Fm m) (l : List UInt8) (hw : whl m l) : ∀ x ∈ sy m l, x < 2 ^ m := by
  rcases hm with rfl | rfl
  · intro x hx
    unfold sy at hx
    rw [if_neg (by decide)] at hx
    obtain ⟨u, _, rfl⟩ := List.mem_map.1 hx
    exact u.toNat_lt
  · revert hw
    refine pairs (P := fun l => ∀ x ∈ sy 16 l, x < 2 ^ 16) ?_ ?_ l
    · intro x hx; cases hx
    · intro u v l _ ih x hx
      rcases List.mem_cons.1 (show x ∈ (256 * u.toNat + v.toNat) :: sy 16 l from hx) with rfl | hx
      · exact sym_lt u v
      · exact ih x hx

theorem cell_one_set (w : World) (p : Addr) (x : Value) (t : TypeId) (v : Value) : ∀ (j : Nat) (u : Value), [v][j]? = some u → ((w.setCell p x).alloc (.cells #[v] t)).cell? (Addr.add ⟨w.heap.size, 0, none⟩ j) = some u := by
  have h := cell_one_new (w.setCell p x) v t
  rw [show (w.setCell p x).heap.size = w.heap.size by simp [World.setCell]] at h
  exact h
set_option maxHeartbeats 1000000 in
set_option maxRecDepth 100000 in
theorem products_any (m c : Nat) (l : List UInt8) (hm : Fm m) (hc : c < 2 ^ m) (hw : whl m l) (hl : l.length ≤ 100000) (w : World) (hT : Tabs w) :
    Calls Tryd.prog 63 #[.int .i64 (m : Int), .int .i64 (c : Int), .string (str l)] w fun e w' => ∃ g, e = .returned (.slice (some ⟨g, 0, none⟩) l.length l.length) ∧ w.heap.size ≤ g ∧ w'.ownsRow g 5 1 (.slice (some ⟨g, 0, none⟩) l.length l.length) l.length ((sc m c l).map bv) ∧ Below w.heap.size w w' := by
  obtain ⟨i0, hi, hz0, hz1, hz2⟩ := info_parts (show (Tryd.prog.info? 5).map (fun i => (i.zero, i.size, i.bytes)) = some (some (Value.int .u8 0), 1, 1) by kernel_rfl)
  have HI := hideIt hi
  have HZ0 := hideIt hz0
  have HZ1 := hideIt hz1
  have HZ2 := hideIt hz2
  have hsz := str_size l
  have HSL := hideIt (sc_len hm c l hw)
  have HM := hideIt hm
  have HC := hideIt hc
  have HW := hideIt hw
  have HL := hideIt hl
  have HT := hideIt hT
  obtain ⟨w1, hw1⟩ : ∃ x, x = (w.alloc (.cells #[.int .i64 (m : Int)] 3)).alloc (.cells #[.int .i64 (c : Int)] 3) := ⟨_, rfl⟩
  have HB1 := hideIt (show Below w.heap.size w w1 by rw [hw1]; exact ((Below.refl _ w).alloc (Nat.le_refl _) _).alloc (by simp) _)
  have HS1 := hideIt (show w1.heap.size = w.heap.size + 2 by rw [hw1]; simp)
  have HC1 := hideIt (show w1.cell? ⟨w.heap.size, 0, none⟩ = some (.int .i64 (m : Int)) by rw [hw1]; exact cells2 _ _ _ _)
  have HC2 := hideIt (show w1.cell? ⟨w.heap.size + 1, 0, none⟩ = some (.int .i64 (c : Int)) by
    rw [hw1]
    have := cell_one (w.alloc (.cells #[.int .i64 (m : Int)] 3)) 3 (.int .i64 (c : Int))
    rw [World.size_alloc] at this
    exact this)
  have HW1 := hideIt hw1
  clear hi hz0 hz1 hz2 hm hc hw hl hT hw1
  refine callsIn_wide.1 (callsIn_of_wp_marks (n := 0) Tryd.func63 rfl trivial ((wpIn_wide (n := 0)).2 ?_))
  simp only [Tryd.ntmps63, List.size_toArray, List.length_cons, List.length_nil, Nat.reduceAdd, Nat.reduceSub, Array.replicate_succ, Array.replicate_zero, List.push_toArray, List.append_toArray, List.nil_append, List.cons_append]
  go_wp2_with (first
    | ((with_reducible refine at_make ?_); rw [← HW1.out]; refine wpList_make_own w1 rfl (.const (.int .i64 0)) (.tmp 11) 85 rfl w1.heap.size 5 i0 (.int .u8 0) 1 Tryd.underlying85 HI.out HZ0.out HZ1.out .i64 .i64 _ l.length rfl rfl rfl (by rw [HZ2.out]; have := HL.out; omega) (by have := HL.out; unfold maxLen; omega) (Nat.le_refl _) ?_; intro w2 hown2 hgr2; have HO2 := hideIt hown2; have HG2 := hideIt ((Below.refl w1.heap.size w1).grown hgr2 (Nat.le_refl _) (by simp)); have hA : (w2.alloc (.cells #[.slice (some ⟨w1.heap.size, 0, none⟩) 0 l.length] 85)).cell? ⟨w.heap.size, 0, none⟩ = some (.int .i64 (m : Int)) := (((HG2.out.trans ((below_new w2 _).mono HG2.out.size)).cell (p := ⟨w.heap.size, 0, none⟩) (by rw [HS1.out]; show w.heap.size < _; omega)).trans HC1.out); clear hown2 hgr2)
    | (go_at_call 75; refine (symbols_any m HM.out (str l) _).mono ?_; rintro e w4 ⟨rfl, hb4, hz4, c41, c42, c43⟩))
  have hs1 := HS1.out
  have hgl := own_lt HO2.out
  have ho2 := HO2.out
  have hc3 := cell_one w2 85 (.slice (some ⟨w1.heap.size, 0, none⟩) 0 l.length)
  have hf3 := free_one w2 85 (.slice (some ⟨w1.heap.size, 0, none⟩) 0 l.length)
  have hb3 := below_new w2 (.cells #[.slice (some ⟨w1.heap.size, 0, none⟩) 0 l.length] 85)
  have hz3 := World.size_alloc w2 (.cells #[.slice (some ⟨w1.heap.size, 0, none⟩) 0 l.length] 85)
  have hA2 := (hb3.cell (p := ⟨w.heap.size + 1, 0, none⟩) (by show w.heap.size + 1 < _; omega)).trans ((HG2.out.cell (p := ⟨w.heap.size + 1, 0, none⟩) (by show w.heap.size + 1 < _; omega)).trans HC2.out)
  generalize w2.alloc (.cells #[.slice (some ⟨w1.heap.size, 0, none⟩) 0 l.length] 85) = w3 at *
  generalize hb : w.heap.size = b at *
  generalize hg : w1.heap.size = g at *
  generalize hbx : w2.heap.size = bx at *
  have hgb : g = b + 2 := by omega
  rw [hz3] at c41 c42 c43
  have hBX := hideIt (show Boxed w4 g bx l.length 0 [] from (show Boxed w3 g bx l.length 0 [] from ⟨hc3, hf3, own_at ho2 (hb3.block g hgl), by omega, by omega⟩).keep hb4)
  have hzz : w4.heap.size = bx + 4 := by omega
  have hT4 : Tabs w4 := HT.out.keep (by rw [hb]; exact HB1.out.trans ((HG2.out.trans ((hb3.mono (by omega)).trans (hb4.mono (by omega)))).mono (by omega)))
  have HBW := hideIt (show Below b w w4 from HB1.out.trans ((HG2.out.trans ((hb3.mono (by omega)).trans (hb4.mono (by omega)))).mono (by omega)))
  have HCM := hideIt ((hb4.cell (p := ⟨b, 0, none⟩) (by show b < _; omega)).trans hA)
  have HCC := hideIt ((hb4.cell (p := ⟨b + 1, 0, none⟩) (by show b + 1 < _; omega)).trans hA2)
  have HIT := hideIt (sym_iter m HM.out l HW.out HL.out (bx + 1) w4 (by omega) c41 c42 c43)
  have htl : 0 < b := by rw [← hb]; exact HT.out.lo
  have Q1 := hideIt (show ∀ q, capS (bx + 1) q → q < w4.heap.size from fun q hq => by rcases hq with rfl | rfl | rfl <;> omega)
  have Q2 := hideIt (show ∀ q, (q = g ∨ q = bx) → q < w4.heap.size ∧ ¬ capS (bx + 1) q from fun q hq => by rcases hq with rfl | rfl <;> exact ⟨by omega, fun hh => by rcases hh with hh | hh | hh <;> omega⟩)
  have Q3 := hideIt (show Low w4.heap.size (fun (pre : List Nat) W => Boxed W g bx l.length (prB m c pre).length ((prB m c pre).map bv)) from fun s A V h hbl => h.low (by omega) (by omega) hbl)
  have Q4 := hideIt (show b + 2 = g ∧ g < bx ∧ w4.heap.size = bx + 4 ∧ 0 < b from ⟨hgb.symm, hgl, hzz, htl⟩)
  have HT4 := hideIt hT4
  have HBS := hideIt hb
  clear hb hg hbx hs1 hgl ho2 hA hA2 hb4 hz4 c41 c42 c43 hc3 hf3 hb3 hz3 hgb hzz hT4 htl HO2 HG2 HB1 HS1 HC1 HC2 HW1 HT
  refine range_any (gf := 84) (lb := #[.pointer (some ⟨bx + 1 + 1, 0, none⟩), .pointer (some ⟨bx + 1 + 2, 0, none⟩), .pointer (some ⟨bx + 1, 0, none⟩)]) rfl (enters_of Tryd.func84 (by kernel_rfl) rfl) HIT.out
    (fun q hq => ⟨Q1.out q hq, rfl⟩) (fun _ => rfl) (fun q => q = g ∨ q = bx) Q2.out
    (fun pre W => Boxed W g bx l.length (prB m c pre).length ((prB m c pre).map bv)) (fun _ _ _ => False) Q3.out (fun _ _ _ _ h _ => h) hBX.out ?a1 ?assign ?body ?done ?stop
  case assign =>
    intro l' x W K hK
    have HK2 := hideIt hK
    clear hK
    gi_wp2
    exact HK2.out
  case body =>
    rintro l' pre x W hpre hKW hI
    have hx := sy_lt m HM.out l HW.out x (hpre.subset (by simp))
    have hTW := HT4.out.of_block (hKW.block _ (by have := Q4.out; omega) (fun hh => by have := Q4.out; rcases hh with hh | hh <;> omega))
    have hcm := (hKW.cell (p := ⟨b, 0, none⟩) (by have := Q4.out; show b < _; omega) (fun hh => by have := Q4.out; rcases hh with hh | hh <;> (have hh : b = _ := hh; omega))).trans HCM.out
    have hcc := (hKW.cell (p := ⟨b + 1, 0, none⟩) (by have := Q4.out; show b + 1 < _; omega) (fun hh => by have := Q4.out; rcases hh with hh | hh <;> (have hh : b + 1 = _ := hh; omega))).trans HCC.out
    have HP := hideIt (show Calls Tryd.prog 76 #[.int .i64 (m : Int), .int .i64 (x : Int), .int .i64 (c : Int)] W _ from prod_any m x c HM.out hx HC.out W hTW 0)
    have hplt := mul_lt HM.out c hx
    have hle := prB_le m c l HM.out HW.out _ hpre
    have hWb : b < W.heap.size := Nat.lt_of_lt_of_le (by have := Q4.out; omega) hKW.size
    have hsn := prB_snoc m c pre x
    rw [hsn] at hle
    obtain ⟨L0, hL0⟩ : ∃ L0, L0 = prB m c pre := ⟨_, rfl⟩
    obtain ⟨p, hp⟩ : ∃ p, p = mul m x c := ⟨_, rfl⟩
    rw [← hL0] at hI hle hsn
    rw [← hp] at HP hplt hle hsn
    have HSN := hideIt hsn
    obtain ⟨k0, hk0⟩ : ∃ k0, k0 = L0.length := ⟨_, rfl⟩
    rw [← hk0] at hI
    have HK0 := hideIt hk0
    have HIV := hideIt hI
    have HCMW := hideIt hcm
    have HWB := hideIt hWb
    clear hI hL0 hp hKW hpre hTW hx hsn hk0
    gi_wp2_with fail
    refine ⟨trivial, rfl, ?_⟩
    refine (CallsIn.inRound l' (callsIn_wide.2 HP.out)).mono ?_
    rintro e w5 ⟨rfl, k5, hw5⟩
    have hb5 : Below W.heap.size W w5 := by rw [hw5]; exact below_drewN (below_drewN (Below.refl _ _) 0) k5
    have H5 := hideIt (HIV.out.keep hb5)
    have hm5 := (hb5.cell (p := ⟨b, 0, none⟩) HWB.out).trans HCMW.out
    have HK5 := hideIt (show Keeps (fun q => q = g ∨ q = bx) W w5 from Keeps.of_below hb5)
    have hbc := H5.out.cell
    clear hw5 hb5 HP HIV hcm hcc HCMW
    by_cases h16 : m = 16
    · have hshr : binOp .shr 3 (.int .i64 (p : Int)) (.int .u64 8) = pure (.int .i64 ((p / 256 : Nat) : Int)) := nshr 3 (k := .u64) p 8 (by decide) (by have := fm_big HM.out; omega)
      have hcA := fun W => conv_byte (p / 256) W
      have hcB := fun W => conv_byte p W
      rw [show byt m p = [UInt8.ofNat (p / 256), UInt8.ofNat p] from by unfold byt; rw [if_pos h16]] at HSN hle
      have HFIT := hideIt (show k0 + 2 ≤ l.length by have := HK0.out; rw [List.length_append] at hle; simp only [List.length_cons, List.length_nil] at hle; omega)
      have heq := int_eqlT 3 (a := (m : Int)) (b := 16) (by omega)
      clear h16 hle hplt
      generalize UInt8.ofNat (p / 256) = y1 at *
      generalize UInt8.ofNat p = y2 at *
      generalize p / 256 = p1 at *
      gi_wp2_with (first
        | ((with_reducible refine at_append_in ?_); refine wpListIn_append_fits _ rfl (.tmp 23) (.tmp 27) 85 rfl g 5 i0 1 Tryd.underlying85 HI.out HZ1.out g k0 l.length _ rfl (H5.out.keep (below_new w5 (.cells #[bv y1] 5))).own _ 1 1 [bv y1] rfl rfl (cell_one_new _ _ _) (ones_one rfl) (by have := HFIT.out; omega) ?_; intro w6 ho hg; obtain ⟨hc6, hf6, hB6⟩ := (H5.out.keep (below_new w5 (.cells #[bv y1] 5))).next hg ho; have H6 := hideIt hB6; have HK6 := hideIt (((HK5.out.alloc _).grown hg (Or.inl rfl)).setCell (p := ⟨bx, 0, none⟩) (Or.inr rfl) (.slice (some ⟨g, 0, none⟩) (k0 + 1) l.length)); have hx6 := hB6.cell; clear ho hg hB6 H5)
        | ((with_reducible refine at_append_in ?_); refine wpListIn_append_fits _ rfl (.tmp 29) (.tmp 32) 85 rfl g 5 i0 1 Tryd.underlying85 HI.out HZ1.out g (k0 + 1) l.length _ rfl (H6.out.keep (below_new _ (.cells #[bv y2] 5))).own _ 1 1 [bv y2] rfl rfl (cell_one_set _ _ _ _ _) (ones_one rfl) (by have := HFIT.out; omega) ?_; intro w7 ho hg; obtain ⟨hc7, hf7, hB7⟩ := (H6.out.keep (below_new _ (.cells #[bv y2] 5))).next hg ho; have H7 := hideIt hB7; have HK7 := hideIt (((HK6.out.alloc _).grown hg (Or.inl rfl)).setCell (p := ⟨bx, 0, none⟩) (Or.inr rfl) (.slice (some ⟨g, 0, none⟩) ((k0 + 1) + 1) l.length)); have hx7 := hB7.cell; clear ho hg hB7 H6))
      have hk0 := HK0.out
      refine ⟨HK7.out, ?_⟩
      have hfin := H7.out
      show Boxed _ g bx l.length (prB m c (pre ++ [x])).length ((prB m c (pre ++ [x])).map bv)
      rw [HSN.out, List.length_append, List.map_append, ← hk0]
      simpa using hfin
    · have hcB := fun W => conv_byte p W
      rw [show byt m p = [UInt8.ofNat p] from by unfold byt; rw [if_neg h16]] at HSN hle
      have HFIT := hideIt (show k0 + 1 ≤ l.length by have := HK0.out; rw [List.length_append] at hle; simp only [List.length_cons, List.length_nil] at hle; omega)
      have heq := int_eqlF 3 (a := (m : Int)) (b := 16) (by omega)
      clear h16 hle hplt
      generalize UInt8.ofNat p = y2 at *
      gi_wp2_with ((with_reducible refine at_append_in ?_); refine wpListIn_append_fits _ rfl (.tmp 29) (.tmp 32) 85 rfl g 5 i0 1 Tryd.underlying85 HI.out HZ1.out g k0 l.length _ rfl (H5.out.keep (below_new w5 (.cells #[bv y2] 5))).own _ 1 1 [bv y2] rfl rfl (cell_one_new _ _ _) (ones_one rfl) (by have := HFIT.out; omega) ?_; intro w7 ho hg; obtain ⟨hc7, hf7, hB7⟩ := (H5.out.keep (below_new w5 (.cells #[bv y2] 5))).next hg ho; have H7 := hideIt hB7; have HK7 := hideIt (((HK5.out.alloc _).grown hg (Or.inl rfl)).setCell (p := ⟨bx, 0, none⟩) (Or.inr rfl) (.slice (some ⟨g, 0, none⟩) (k0 + 1) l.length)); have hx7 := hB7.cell; clear ho hg hB7 H5)
      have hk0 := HK0.out
      refine ⟨HK7.out, ?_⟩
      have hfin := H7.out
      show Boxed _ g bx l.length (prB m c (pre ++ [x])).length ((prB m c (pre ++ [x])).map bv)
      rw [HSN.out, List.length_append, List.map_append, ← hk0]
      simpa using hfin
  case done =>
    intro D W hD hKW hI hDf
    rw [prB_all] at hI
    have hlen := HSL.out
    rw [hlen] at hI
    have hcell := hI.cell
    have HO := hideIt hI.own
    have HBE := hideIt (HBW.out.trans (hKW.below (B := b) (by have := HBW.out.size; have := HBS.out; omega) (by have := Q4.out; intro q hq hh; rcases hh with rfl | rfl <;> omega)))
    have HDF := hideIt hDf
    have HD := hideIt (show bx + 4 ≤ D by have := Q4.out; omega)
    have HGD := hideIt (own_lt hI.own)
    clear hI hlen hKW hD hDf
    go_wp2_with fail
    refine ⟨by simp, .inl ⟨_, _, rfl, run_takeDeferred HDF.out, ?_⟩⟩
    refine ⟨_, results_tmp rfl _ _ _, g, rfl, by have := Q4.out; have := HBS.out; omega, own_at HO.out (World.putObj_heap_other (by have := Q4.out; have := HD.out; omega)), by rw [HBS.out]; exact HBE.out.trans (below_putObj W (by have := Q4.out; have := HD.out; omega) _)⟩
  case stop =>
    intro D c' pre W _ _ _ h _
    exact h.elim

end

section
open Go.RowKit Go.Shelf
set_option linter.unusedVariables false

def xrS (a b : List UInt8) : List UInt8 := if a.length = b.length then xr a b else []
def xrE (a b : List UInt8) : Int := if a.length = b.length then 0 else 1
theorem below_of_keeps {w w1 w2 : World} {g : Nat} (h : Below w.heap.size w w1) (hk : Keeps (fun k => k = g) w1 w2) (hg : w.heap.size ≤ g) : Below w.heap.size w w2 :=
  h.trans (hk.below h.size (fun k hk he => by omega))

theorem str_nil : ({ data := #[] } : ByteArray) = str [] := rfl
/-- What Scale answers. -/
def scR (m c : Int) (l : List UInt8) : List UInt8 := if vd m c = true ∧ l.length % (m.toNat / 8) = 0 then sc m.toNat c.toNat l else []
def scE (m c : Int) (l : List UInt8) : Int := if vd m c = true ∧ l.length % (m.toNat / 8) = 0 then 0 else 1
theorem brow_of_own {w : World} {base g n k : Nat} {l : List UInt8} (h : w.ownsRow base 5 1 (.slice (some ⟨g, 0, none⟩) n k) n (l.map bv)) : BRow w g l := by
  have hl : l.length = n := by have := h.1; rw [List.length_map, Nat.mul_one] at this; exact this
  rcases h.2 with ⟨h0, _⟩ | ⟨g2, cap, cur, hv, hb, hg, h1, h2, h3, h4⟩
  · cases h0
  · injection hv with h5 h6 h7
    injection h5 with h5
    injection h5 with h5
    subst h5
    have hc : cur.toList = l.map bv ++ cur.toList.drop n := by rw [← h4, Nat.mul_one, List.take_append_drop]
    have hblk : Blk w g 5 (l.map bv ++ cur.toList.drop n) := by
      unfold Blk
      rw [← hc, hg]
    exact ⟨hblk.lt, fun i hi => row_byte hblk i hi, fun i _ => hblk.free i⟩
end

section
open Go.RowKit Go.Shelf
set_option linter.unusedVariables false

section
variable {w W : World} (hT : Tabs w) (hW : Below w.heap.size w W)
include hT hW
theorem valid_b (m a : Int) : Calls Tryd.prog 45 #[.int .i64 m, .int .i64 a] W fun e w' => e = .returned (.bool (vd m a)) ∧ W = w' := valid_any m a W (hT.keep hW)
theorem add_b (m a b : Int) : Calls Tryd.prog 80 #[.int .i64 m, .int .i64 a, .int .i64 b] W fun e w' => e = .returned (.tuple #[.int .i64 ((addR m a b).1 : Int), .int .i64 (addR m a b).2]) ∧ Below w.heap.size w w' := by
  refine (show Calls Tryd.prog 80 #[.int .i64 m, .int .i64 a, .int .i64 b] W _ from add_any m a b W (hT.keep hW) 0).mono ?_
  rintro e w' ⟨rfl, k, rfl⟩
  exact ⟨rfl, below_drewN hW k⟩
theorem mul_b (m a b : Int) : Calls Tryd.prog 79 #[.int .i64 m, .int .i64 a, .int .i64 b] W fun e w' => e = .returned (.tuple #[.int .i64 ((mlR m a b).1 : Int), .int .i64 (mlR m a b).2]) ∧ Below w.heap.size w w' := by
  refine (show Calls Tryd.prog 79 #[.int .i64 m, .int .i64 a, .int .i64 b] W _ from mul_any m a b W (hT.keep hW) 0).mono ?_
  rintro e w' ⟨rfl, k, rfl⟩
  exact ⟨rfl, below_drewN hW k⟩
theorem inv_b (m a : Int) : Calls Tryd.prog 81 #[.int .i64 m, .int .i64 a] W fun e w' => e = .returned (.tuple #[.int .i64 ((invR m a).1 : Int), .int .i64 (invR m a).2]) ∧ Below w.heap.size w w' := by
  refine (show Calls Tryd.prog 81 #[.int .i64 m, .int .i64 a] W _ from inv_any m a W (hT.keep hW) 0).mono ?_
  rintro e w' ⟨rfl, k, rfl⟩
  exact ⟨rfl, below_drewN hW k⟩
end

end

section
open Go.RowKit Go.Shelf
set_option linter.unusedVariables false

section
variable {m x y : Nat} (hm : Fm m) (hx : x < 2 ^ m)
include hm hx
theorem mlR_ok (hy : y < 2 ^ m) : mlR (m : Int) (x : Int) (y : Int) = (mul m x y, 0) := by
  unfold mlR; rw [if_pos ⟨vd_true hm hx, vd_true hm hy⟩]; rfl
theorem addR_ok (hy : y < 2 ^ m) : addR (m : Int) (x : Int) (y : Int) = (x ^^^ y, 0) := by
  unfold addR; rw [if_pos ⟨vd_true hm hx, vd_true hm hy⟩]; rfl
theorem powR_ok (h0 : x ≠ 0) (n : Int) : powR (m : Int) (x : Int) n = (pwZ m x n, 0) := by
  unfold powR; rw [if_pos (vd_true hm hx), if_neg (by omega)]; rfl
theorem invR_ok (h0 : x ≠ 0) : invR (m : Int) (x : Int) = (pwZ m x (-1), 0) := powR_ok hm hx h0 (-1)
end
section
variable {w W : World} (hT : Tabs w) {m x y : Nat} (hm : Fm m) (hx : x < 2 ^ m)
include hT hm hx
theorem mulN (hy : y < 2 ^ m) (z : Nat) (hz : mul m x y = z) : ∀ W, Below w.heap.size w W → Calls Tryd.prog 79 #[.int .i64 (m : Int), .int .i64 (x : Int), .int .i64 (y : Int)] W fun e w' => e = .returned (.tuple #[.int .i64 (z : Int), .int .i64 0]) ∧ Below w.heap.size w w' := fun W hW => by
  have h := mul_b hT hW (m : Int) (x : Int) (y : Int)
  rw [mlR_ok hm hx hy, hz] at h
  exact h
theorem addN (hy : y < 2 ^ m) (z : Nat) (hz : x ^^^ y = z) : ∀ W, Below w.heap.size w W → Calls Tryd.prog 80 #[.int .i64 (m : Int), .int .i64 (x : Int), .int .i64 (y : Int)] W fun e w' => e = .returned (.tuple #[.int .i64 (z : Int), .int .i64 0]) ∧ Below w.heap.size w w' := fun W hW => by
  have h := add_b hT hW (m : Int) (x : Int) (y : Int)
  rw [addR_ok hm hx hy, hz] at h
  exact h
theorem invN (h0 : x ≠ 0) (z : Nat) (hz : pwZ m x (-1) = z) : ∀ W, Below w.heap.size w W → Calls Tryd.prog 81 #[.int .i64 (m : Int), .int .i64 (x : Int)] W fun e w' => e = .returned (.tuple #[.int .i64 (z : Int), .int .i64 0]) ∧ Below w.heap.size w w' := fun W hW => by
  have h := inv_b hT hW (m : Int) (x : Int)
  rw [invR_ok hm hx h0, hz] at h
  exact h
end
theorem int_neqF (t : TypeId) {a b : Int} (h : a = b) : binOp .neq t (.int .i64 a) (.int .i64 b) = pure (.bool false) := by
  rw [binOp_neq, h]; simp
theorem int_neqT (t : TypeId) {a b : Int} (h : a ≠ b) : binOp .neq t (.int .i64 a) (.int .i64 b) = pure (.bool true) := by
  rw [binOp_neq, bne_iff_ne.2 h]
end

section
open Go.RowKit Go.Shelf
set_option linter.unusedVariables false

/-- A string as a cell. -/
abbrev sv (l : List UInt8) : Value := .string (str l)
theorem Sl.strs {w : World} {B : Nat} {A : Option Addr} {us : List (List UInt8)} (h : Sl w B A 1 us.length (us.map sv)) (h0 : 0 < us.length) :
    ∃ b off, A = some ⟨b, off, none⟩ ∧ b < B ∧ ∀ k (hk : k < us.length), w.cell? ⟨b, off + k, none⟩ = some (.string (str us[k])) := by
  obtain ⟨b, off, e, hb, hc⟩ := h.2 (by rw [List.length_map]; exact h0)
  refine ⟨b, off, e, hb, fun k hk => hc k _ ?_⟩
  rw [List.getElem?_map, List.getElem?_eq_getElem hk]
  rfl
theorem Sl.nums {w : World} {B : Nat} {A : Option Addr} {cs : List Int} (h : Sl w B A 1 cs.length (cs.map iv)) (h0 : 0 < cs.length) :
    ∃ b off, A = some ⟨b, off, none⟩ ∧ b < B ∧ ∀ k (hk : k < cs.length), w.cell? ⟨b, off + k, none⟩ = some (.int .i64 cs[k]) := by
  obtain ⟨b, off, e, hb, hc⟩ := h.2 (by rw [List.length_map]; exact h0)
  refine ⟨b, off, e, hb, fun k hk => hc k _ ?_⟩
  rw [List.getElem?_map, List.getElem?_eq_getElem hk]
  rfl
/-- The length of the first unit. -/
def ul (us : List (List UInt8)) : Nat := (us.headD []).length
theorem ul_zero (us : List (List UInt8)) (h : 0 < us.length) : us[0].length = ul us := by
  cases us with
  | nil => simp at h
  | cons u r => rfl
/-- Has a combination a result? -/
def Gd (m : Int) (cs : List Int) (us : List (List UInt8)) : Prop := 0 < cs.length ∧ cs.length = us.length ∧ (∀ c ∈ cs, vd m c = true) ∧ (∀ u ∈ us, u.length = ul us) ∧ ul us % (m.toNat / 8) = 0
instance (m : Int) (cs : List Int) (us : List (List UInt8)) : Decidable (Gd m cs us) := by unfold Gd; infer_instance

set_option maxHeartbeats 1000000 in
set_option maxRecDepth 100000 in
theorem combinable_any (m : Int) (A : Option Addr) (ca : Nat) (cs : List Int) (D : Option Addr) (cd : Nat) (us : List (List UInt8)) (w : World) (hT : Tabs w) (hl : cs.length ≤ 100000)
    (hc : Sl w w.heap.size A 1 cs.length (cs.map iv)) (hu : Sl w w.heap.size D 1 us.length (us.map sv)) :
    Calls Tryd.prog 61 #[.int .i64 m, .slice A cs.length ca, .slice D us.length cd] w fun e w' => e = .returned (.bool (decide (Gd m cs us))) ∧ Below w.heap.size w w' := by
  by_cases h0 : cs.length = 0
  · rw [decide_eq_false (fun h => by have := h.1; omega)]
    have hq := int_eqlT 3 (a := (cs.length : Int)) (b := 0) (by omega)
    clear hT hc hu hl h0
    generalize cs.length = n at *
    generalize us.length = k at *
    go_enter Tryd.func61, Tryd.ntmps61
    go_wp2_with fail
    go_ret
    exact ⟨rfl, Below.refl _ _⟩
  have hq := int_eqlF 3 (a := (cs.length : Int)) (b := 0) (by omega)
  by_cases h1 : cs.length = us.length
  · have hq2 := neqF 3 us.length
    have h2 : 0 < us.length := by omega
    obtain ⟨bc, oc, rfl, hbc, hcc⟩ := hc.nums (by omega)
    obtain ⟨bu, ou, rfl, hbu, hcu⟩ := hu.strs h2
    rw [h1] at hq hl ⊢
    have HT := hideIt hT
    have HCC := hideIt hcc
    have HCU := hideIt hcu
    have HBC := hideIt hbc
    have HBU := hideIt hbu
    have HN := hideIt h1
    have HL := hideIt hl
    obtain ⟨n, hn⟩ : ∃ n, n = us.length := ⟨_, rfl⟩
    rw [← hn] at h2 hq hq2 ⊢
    have HNN := hideIt hn
    have HP := hideIt h2
    obtain ⟨bb, hbb⟩ : ∃ bb, bb = decide (Gd m cs us) := ⟨_, rfl⟩
    rw [← hbb]
    have HZ := hideIt hbb
    clear hbb hT hcc hcu hbc hbu h1 hl hn h2 hc hu h0
    go_enter Tryd.func61, Tryd.ntmps61
    go_wp2_with fail
    go_loopg [21] n (fun g s21 wr => ∃ k : Nat, k + g = n ∧ s21 = .int .i64 (k : Int) ∧ Aside (Below w.heap.size w wr ∧ (∀ c ∈ cs.take k, vd m c = true) ∧ (∀ u ∈ us.take k, u.length = ul us)))
    case atStart => exact ⟨0, by omega, rfl, Below.refl _ _, by simp, by simp⟩
    case round =>
      obtain ⟨k, hk, rfl, HI⟩ := hrel
      by_cases hlt : k < n
      · have hkc : k < cs.length := by rw [HN.out, ← HNN.out]; exact hlt
        have hku : k < us.length := by rw [← HNN.out]; exact hlt
        have h0u : 0 < us.length := by rw [← HNN.out]; exact HP.out
        have hc1 := (HI.out.1.cell (p := ⟨bc, oc + k, none⟩) HBC.out).trans (HCC.out k hkc)
        have hc2 := (HI.out.1.cell (p := ⟨bu, ou + k, none⟩) HBU.out).trans (HCU.out k hku)
        have hc3 : wr.cell? ⟨bu, ou, none⟩ = some (.string (str us[0])) := (HI.out.1.cell (p := ⟨bu, ou + 0, none⟩) HBU.out).trans (HCU.out 0 h0u)
        have hn0 : (0 : Int) < (us.length : Int) := by omega
        rw [← HNN.out] at hn0
        have hT1 := HT.out.keep HI.out.1
        have HS1 := hideIt (take_snoc cs k hkc)
        have HS2 := hideIt (take_snoc us k hku)
        have hm1 : cs[k] ∈ cs := List.getElem_mem hkc
        have hm2 : us[k] ∈ us := List.getElem_mem hku
        have hsz := str_size us[k]
        have hsz0 := str_size us[0]
        rw [ul_zero us h0u] at hsz0
        have hinc := inc_c 3 k (by have := HL.out; have := HNN.out; omega)
        have hki : (k : Int) < (n : Int) := by omega
        have HV := hideIt (fun j => valid_dr m cs[k] wr hT1 j)
        generalize hcv : cs[k] = c at *
        generalize huv : us[k] = u at *
        have HM1 := hideIt hm1
        have HM2 := hideIt hm2
        generalize str u = su at *
        generalize str us[0] = s0 at *
        clear hcv huv hm1 hm2 hkc hku h0u hT1
        by_cases hv : vd m c = true
        · rw [hv] at HV
          by_cases hlen : u.length = ul us
          · have hnq := neqF 3 (ul us)
            rw [← hlen] at hnq hsz0
            have HLN := hideIt hlen
            have HVD := hideIt hv
            clear hlen hv
            go_wp2_with fail
            go_quiet ((go_at_call 45; refine (HV.out _).mono ?_; rintro e w' ⟨rfl, hw⟩; exact ⟨rfl, _, hw.symm⟩))
            go_wp2_with fail
            go_roundg (gk - 1)
            case measure => omega
            case rel =>
              refine ⟨k + 1, by omega, by go_num, below_drewN HI.out.1 _, ?_, ?_⟩
              · rw [HS1.out]
                intro c' hc'
                rcases List.mem_append.1 hc' with h | h
                · exact HI.out.2.1 c' h
                · rw [List.mem_singleton] at h; rw [h]; exact HVD.out
              · rw [HS2.out]
                intro c' hc'
                rcases List.mem_append.1 hc' with h | h
                · exact HI.out.2.2 c' h
                · rw [List.mem_singleton] at h; rw [h]; exact HLN.out
          · have hnq := neqT 3 hlen
            have HE := hideIt (HZ.out.trans (decide_eq_false (fun h : Gd m cs us => hlen (h.2.2.2.1 u HM2.out))))
            clear hlen hv
            go_wp2_with fail
            go_quiet ((go_at_call 45; refine (HV.out _).mono ?_; rintro e w' ⟨rfl, hw⟩; exact ⟨rfl, _, hw.symm⟩))
            go_wp2_with fail
            go_ret
            exact ⟨by rw [HE.out]; rfl, below_drewN HI.out.1 _⟩
        · have HE := hideIt (HZ.out.trans (decide_eq_false (fun h : Gd m cs us => hv (h.2.2.1 c HM1.out))))
          rw [Bool.eq_false_iff.2 hv] at HV
          clear hv
          go_wp2_with fail
          go_quiet ((go_at_call 45; refine (HV.out _).mono ?_; rintro e w' ⟨rfl, hw⟩; exact ⟨rfl, _, hw.symm⟩))
          go_wp2_with fail
          go_ret
          exact ⟨by rw [HE.out]; rfl, below_drewN HI.out.1 _⟩
      · obtain rfl : k = n := by omega
        have hki : ¬ (k : Int) < (k : Int) := by omega
        have h0u : 0 < us.length := by rw [← HNN.out]; exact HP.out
        have hc3 : wr.cell? ⟨bu, ou, none⟩ = some (.string (str us[0])) := (HI.out.1.cell (p := ⟨bu, ou + 0, none⟩) HBU.out).trans (HCU.out 0 h0u)
        have hn0 : (0 : Int) < (us.length : Int) := by omega
        rw [← HNN.out] at hn0
        have hall1 : ∀ c ∈ cs, vd m c = true := by
          have h := HI.out.2.1
          rw [List.take_of_length_le (by rw [HN.out, ← HNN.out]; omega)] at h
          exact h
        have hall2 : ∀ u ∈ us, u.length = ul us := by
          have h := HI.out.2.2
          rw [List.take_of_length_le (by rw [← HNN.out]; omega)] at h
          exact h
        have hc0 : 0 < cs.length := by rw [HN.out]; exact h0u
        have hv0 := hall1 cs[0] (List.getElem_mem hc0)
        obtain ⟨mm, x, rfl, hx0, hm, _⟩ := vd_spec hv0
        have HW := hideIt (fun W => whole_any mm us[0] hm W)
        rw [ul_zero us h0u] at HW
        have hg : decide (Gd (mm : Int) cs us) = decide (ul us % (mm / 8) = 0) := by
          apply decide_eq_decide.2
          exact ⟨fun h => h.2.2.2.2, fun h => ⟨hc0, HN.out, hall1, hall2, h⟩⟩
        rw [← hg, ← HZ.out] at HW
        generalize str us[0] = s0 at *
        clear hx0 hv0
        clear hg hall1 hall2 hc0 hm h0u
        go_wp2_with (go_at_call 74; refine (HW.out _).mono ?_; rintro e w' ⟨rfl, rfl⟩)
        go_ret
        exact ⟨rfl, HI.out.1⟩
  · have hq2 := neqT 3 h1
    rw [decide_eq_false (fun h => h1 h.2.1)]
    clear hT hc hu hl h0 h1
    generalize cs.length = n at *
    generalize us.length = k at *
    go_enter Tryd.func61, Tryd.ntmps61
    go_wp2_with fail
    go_ret
    exact ⟨rfl, Below.refl _ _⟩

end

section
open Go.RowKit Go.Shelf
set_option linter.unusedVariables false

theorem addb_n (n : Nat) (a b : List UInt8) (ha : a.length = n) (hb : b.length = n) (hl : n ≤ 100000) (g g2 c c2 : Nat) (w : World) (hr : BRow w g a) (hs : BRow w g2 b) (hne : g2 ≠ g) :
    Calls Tryd.prog 62 #[.slice (some ⟨g, 0, none⟩) n c, .slice (some ⟨g2, 0, none⟩) n c2] w fun e w' => e = .returned (.tuple #[]) ∧ BRow w' g (xr a b) ∧ Keeps (fun k => k = g) w w' := by
  have h := addb_any a b (ha.trans hb.symm) (by omega) g c w hr (some ⟨g2, 0, none⟩) c2 hs.sl (fun k o h => by injection h with h; injection h with h; rw [← h]; exact hne)
  rw [ha, hb] at h
  exact h
theorem cmbF_snoc (m c : Nat) (u : List UInt8) : ∀ (l : List (Nat × List UInt8)) (acc : List UInt8), cmbF m acc (l ++ [(c, u)]) = xr (cmbF m acc l) (sc m c u)
  | [], _ => rfl
  | (c', u') :: l, acc => by
    show cmbF m (xr acc (sc m c' u')) (l ++ [(c, u)]) = _
    rw [cmbF_snoc m c u l]
    rfl
/-- Coefficients and units in pairs. -/
def prs (cs : List Int) (us : List (List UInt8)) : List (Nat × List UInt8) := (cs.map Int.toNat).zip us
theorem prs_len (cs : List Int) (us : List (List UInt8)) (h : cs.length = us.length) : (prs cs us).length = us.length := by
  unfold prs; rw [List.length_zip, List.length_map, h, Nat.min_self]
theorem prs_at (cs : List Int) (us : List (List UInt8)) (h : cs.length = us.length) (j : Nat) (hj : j < us.length) : (prs cs us).take (j + 1) = (prs cs us).take j ++ [((cs[j]'(by omega)).toNat, us[j])] := by
  rw [take_snoc _ j (by rw [prs_len cs us h]; exact hj)]
  congr 2
  unfold prs
  rw [List.getElem_zip, List.getElem_map]
/-- The combination of the first j units. -/
def cmbK (m : Nat) (cs : List Int) (us : List (List UInt8)) (j : Nat) : List UInt8 := cmbF m (List.replicate (ul us) 0) ((prs cs us).take j)
theorem cmbK_zero (m : Nat) (cs : List Int) (us : List (List UInt8)) : cmbK m cs us 0 = List.replicate (ul us) 0 := rfl
theorem cmbK_next (m : Nat) (cs : List Int) (us : List (List UInt8)) (h : cs.length = us.length) (j : Nat) (hj : j < us.length) : cmbK m cs us (j + 1) = xr (cmbK m cs us j) (sc m (cs[j]'(by omega)).toNat us[j]) := by
  unfold cmbK
  rw [prs_at cs us h j hj, cmbF_snoc]
theorem cmbK_len {m : Nat} (hm : Fm m) (cs : List Int) (us : List (List UInt8)) (hu : ∀ u ∈ us, u.length = ul us) (hw : ul us % (m / 8) = 0) (j : Nat) : (cmbK m cs us j).length = ul us := by
  unfold cmbK
  rw [cmb_len hm _ _ (by unfold whl; rw [List.length_replicate]; exact hw) (fun p hp => by
    rw [List.length_replicate]
    exact hu p.2 (List.of_mem_zip (show (p.1, p.2) ∈ (cs.map Int.toNat).zip us from List.mem_of_mem_take hp)).2), List.length_replicate]
/-- What Combine answers. -/
def cbS (m : Int) (cs : List Int) (us : List (List UInt8)) : List UInt8 := if Gd m cs us then cmbK m.toNat cs us us.length else []
def cbE (m : Int) (cs : List Int) (us : List (List UInt8)) : Int := if Gd m cs us then 0 else 1
theorem zeros_bv (n : Nat) : List.replicate n (Value.int .u8 0) = (List.replicate n (0 : UInt8)).map bv := by
  rw [List.map_replicate]; rfl

set_option maxHeartbeats 1000000 in
set_option maxRecDepth 100000 in
theorem combine_any (m : Int) (A : Option Addr) (ca : Nat) (cs : List Int) (D : Option Addr) (cd : Nat) (us : List (List UInt8)) (w : World) (hT : Tabs w) (hl : cs.length ≤ 100000) (hlu : ul us ≤ 100000)
    (hc : Sl w w.heap.size A 1 cs.length (cs.map iv)) (hu : Sl w w.heap.size D 1 us.length (us.map sv)) :
    Calls Tryd.prog 43 #[.int .i64 m, .slice A cs.length ca, .slice D us.length cd] w fun e w' => e = .returned (.tuple #[.string (str (cbS m cs us)), .int .i64 (cbE m cs us)]) ∧ Below w.heap.size w w' := by
  have HC := hideIt (combinable_any m A ca cs D cd us w hT hl hc hu)
  by_cases hg : Gd m cs us
  · rw [cbS, cbE, if_pos hg, if_pos hg]
    rw [decide_eq_true hg] at HC
    obtain ⟨h0, h1, hv, hul, hwh⟩ := hg
    obtain ⟨k, x0, rfl, hx0, hm, _⟩ := vd_spec (hv cs[0] (List.getElem_mem h0))
    rw [Int.toNat_natCast] at hwh ⊢
    have h2 : 0 < us.length := by omega
    obtain ⟨bc, oc, rfl, hbc, hcc⟩ := hc.nums h0
    obtain ⟨bu, ou, rfl, hbu, hcu⟩ := hu.strs h2
    rw [h1] at HC ⊢
    obtain ⟨i0, hi, hz0, hz1, hz2⟩ := info_parts (show (Tryd.prog.info? 5).map (fun i => (i.zero, i.size, i.bytes)) = some (some (Value.int .u8 0), 1, 1) by kernel_rfl)
    have HI0 := hideIt hi
    have HZ0 := hideIt hz0
    have HZ1 := hideIt hz1
    have HZ2 := hideIt hz2
    have HT := hideIt hT
    have HCC := hideIt hcc
    have HCU := hideIt hcu
    have HBC := hideIt hbc
    have HBU := hideIt hbu
    have HN := hideIt h1
    have HL := hideIt hl
    have HM := hideIt hm
    have HV := hideIt hv
    have HUL := hideIt hul
    have HWH := hideIt hwh
    have HLU := hideIt hlu
    have hc0 : ∀ W, Below w.heap.size w W → W.cell? ⟨bu, ou, none⟩ = some (.string (str us[0])) := fun W hW => (hW.cell (p := ⟨bu, ou + 0, none⟩) hbu).trans (hcu 0 h2)
    have HC0 := hideIt hc0
    have hsz0 := str_size us[0]
    rw [ul_zero us h2] at hsz0
    generalize str us[0] = s0 at *
    clear hx0
    obtain ⟨n, hn⟩ : ∃ n, n = us.length := ⟨_, rfl⟩
    have hn0 : (0 : Int) < (n : Int) := by omega
    rw [← hn] at HC ⊢
    have HNN := hideIt hn
    obtain ⟨q, hq⟩ : ∃ q, q = ul us := ⟨_, rfl⟩
    rw [← hq] at hsz0
    have HQ := hideIt hq
    obtain ⟨z, hz⟩ : ∃ z, z = str (cmbK k cs us n) := ⟨_, rfl⟩
    rw [← hz]
    have HZ := hideIt hz
    clear hz hT hcc hcu hbc hbu h1 hl hn h2 hc hu h0 hm hv hul hwh hi hz0 hz1 hz2 hc0 hq hlu
    go_enter Tryd.func43, Tryd.ntmps43
    go_wp2_with (first
      | (go_at_call 61; refine HC.out.mono ?_; rintro e w1 ⟨rfl, hb⟩; have HB1 := hideIt hb; have hcell := HC0.out w1 hb; clear hb)
      | ((with_reducible refine at_make ?_); refine wpList_make_full w1 rfl (.tmp 19) (.tmp 19) 85 rfl w1.heap.size 5 i0 (.int .u8 0) 1 Tryd.underlying85 HI0.out HZ0.out HZ1.out .i64 .i64 (q : Int) (q : Int) q rfl rfl rfl rfl (by rw [HZ2.out]; have := HLU.out; have := HQ.out; omega) (by have := HLU.out; have := HQ.out; unfold maxLen; omega) (Nat.le_refl _) ?_; intro w2 hown2 hgr2; have HO2 := hideIt hown2; have HG2 := hideIt ((Below.refl w1.heap.size w1).grown hgr2 (Nat.le_refl _) (by simp)); clear hown2 hgr2))
    have HR2 := hideIt (brow_of_own (l := List.replicate q 0) (by have h := HO2.out; rw [Nat.mul_one, show (madeCells (Value.int .u8 0).cells q).toList = List.replicate q (.int .u8 0) from toList_madeCells_one _ q, zeros_bv] at h; exact h))
    obtain ⟨g, hg⟩ : ∃ g, g = w1.heap.size := ⟨_, rfl⟩
    rw [← hg] at HR2 ⊢
    have HGG := hideIt (show w.heap.size ≤ g by rw [hg]; exact HB1.out.size)
    have HB2 := hideIt (HB1.out.trans (HG2.out.mono HB1.out.size))
    clear hg HO2 HG2 HB1 hcell HC0 hsz0 HC
    go_loopg [23] n (fun gg s23 wr => ∃ j : Nat, j + gg = n ∧ s23 = .int .i64 (j : Int) ∧ Aside (Below w.heap.size w wr ∧ BRow wr g (cmbK k cs us j)))
    case atStart => exact ⟨0, by omega, rfl, HB2.out, by rw [cmbK_zero, ← HQ.out]; exact HR2.out⟩
    case round =>
      obtain ⟨j, hj, rfl, HA⟩ := hrel
      by_cases hlt : j < n
      · have hju : j < us.length := by rw [← HNN.out]; exact hlt
        have hjc : j < cs.length := by rw [HN.out]; exact hju
        have hc1 := (HA.out.1.cell (p := ⟨bc, oc + j, none⟩) HBC.out).trans (HCC.out j hjc)
        have hc2 := (HA.out.1.cell (p := ⟨bu, ou + j, none⟩) HBU.out).trans (HCU.out j hju)
        have hnx := cmbK_next k cs us HN.out j hju
        have hlen := cmbK_len HM.out cs us HUL.out HWH.out j
        have hul := HUL.out us[j] (List.getElem_mem hju)
        have hvj := HV.out cs[j] (List.getElem_mem hjc)
        generalize cs[j] = c at *
        generalize us[j] = u at *
        obtain ⟨k2, x, hk2, rfl, _, hx⟩ := vd_spec hvj
        obtain rfl : k = k2 := by omega
        have hwu : whl k u := by unfold whl; rw [hul]; exact HWH.out
        have hsl := sc_len HM.out x u hwu
        rw [Int.toNat_natCast] at hnx
        have HP := hideIt (products_any k x u HM.out hx hwu (by rw [hul]; exact HLU.out) wr (HT.out.keep HA.out.1))
        have HAD := hideIt (fun W g2 c2 (h1 : BRow W g (cmbK k cs us j)) (h2 : BRow W g2 (sc k x u)) (h3 : g2 ≠ g) => addb_n q (cmbK k cs us j) (sc k x u) (hlen.trans HQ.out.symm) (hsl.trans (hul.trans HQ.out.symm)) (by rw [HQ.out]; exact HLU.out) g g2 q c2 W h1 h2 h3)
        rw [hul, ← HQ.out] at HP
        have HNX := hideIt hnx
        have hinc := inc_c 3 j (by have := HL.out; have := HN.out; have := HNN.out; omega)
        have hji : (j : Int) < (n : Int) := by omega
        generalize str u = su at *
        clear hnx hlen hul hwu hsl hx hju hjc hk2 hvj
        go_wp2_with (first
          | (go_at_call 63; refine HP.out.mono ?_; rintro e w3 ⟨g2, rfl, hg2, ho, hb⟩; have HO3 := hideIt (brow_of_own ho); have HB3 := hideIt hb; have HG2 := hideIt hg2; clear hg2 ho hb)
          | (go_at_call 62; refine (HAD.out w3 g2 q (HA.out.2.kept HB3.out HA.out.2.lt) HO3.out (by have := HA.out.2.lt; have := HG2.out; omega)).mono ?_; rintro e w4 ⟨rfl, hr, hk⟩; have HR4 := hideIt hr; have HK4 := hideIt hk; clear hr hk))
        go_roundg (gk - 1)
        case measure => omega
        case rel =>
          refine ⟨j + 1, by omega, by go_num, ?_, by rw [HNX.out]; exact HR4.out⟩
          have h5 := HA.out.1.trans (HB3.out.mono HA.out.1.size)
          exact h5.trans (HK4.out.below h5.size (fun kk hk he => by have := HGG.out; omega))
      · obtain rfl : j = n := by omega
        have hji : ¬ (j : Int) < (j : Int) := by omega
        have hcs := conv_bytes (P := Tryd.prog) (c := q) Tryd.underlying85 Tryd.underlying5 Tryd.underlying9 HA.out.2.sl
        rw [cmbK_len HM.out cs us HUL.out HWH.out j, ← HQ.out] at hcs
        change (convert 85 9 (.slice (some ⟨g, 0, none⟩) q q)).run Tryd.prog wr = .ok (.string (str (cmbK k cs us j))) wr at hcs
        rw [← HZ.out] at hcs
        go_wp2_with fail
        go_ret2
        exact ⟨rfl, HA.out.1⟩
  · rw [cbS, cbE, if_neg hg, if_neg hg]
    rw [decide_eq_false hg] at HC
    clear hg hT hc hu hl hlu
    generalize cs.length = n at *
    generalize us.length = k at *
    go_enter Tryd.func43, Tryd.ntmps43
    go_wp2_with (go_at_call 61; refine HC.out.mono ?_; rintro e w1 ⟨rfl, hb⟩; have HB := hideIt hb; clear hb)
    go_ret2
    exact ⟨rfl, HB.out⟩

end

end Go.Proofs.YtpjgmekpnlpjaaaDoor
