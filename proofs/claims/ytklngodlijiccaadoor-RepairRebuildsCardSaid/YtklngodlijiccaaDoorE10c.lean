/-
  What stage 10 stands on, cut out of older texts. (Gfa, Gfb, MatA, MatM, Gma, EraA, EraB.)
-/
import Derived.Laws.EntriesVeiled
import Derived.Maps.OwnIn
import Derived.BigQuiet
import Derived.Deep.LoopGhost
import Derived.Great.BuildSlice
import Derived.BigRegion
import Derived.Maps.AppendAt
import Derived.Test.YtklngodlijiccaaDoorE10a
import Derived.Test.YtklngodlijiccaaDoorE10b
namespace Go.Proofs.YtklngodlijiccaaDoor
set_option linter.unusedVariables false
set_option linter.unusedSimpArgs false
set_option linter.unusedSectionVars false

section
section
open Go.RowKit Go.Shelf
set_option linter.unusedVariables false
theorem str_at {P : Program} {T : TypeId} (hT : P.underlying T = some .string) (l : List UInt8) (i : Nat) (hi : i < l.length) (W : World) : (Instr.index T (.string (str l)) (.int .i64 (i : Int))).run P W = .ok (bv l[i]) W := by
  rw [run_index_string W T _ _ _ hT, dif_pos (by rw [str_size]; omega)]
  unfold str
  simp [ByteArray.getElem_eq_getElem_data]
/-- The first j bytes of a sum. -/
def xrK (a b : List UInt8) (j : Nat) : List UInt8 := xr (a.take j) (b.take j) ++ a.drop j
theorem xrK_zero (a b : List UInt8) : xrK a b 0 = a := by simp [xrK, xr]
theorem xrK_all (a b : List UInt8) (h : a.length = b.length) : xrK a b a.length = xr a b := by
  unfold xrK
  rw [List.drop_length, List.append_nil, List.take_length, h, List.take_length]
theorem xrK_len (a b : List UInt8) (h : a.length = b.length) (j : Nat) : (xrK a b j).length = a.length := by
  unfold xrK
  rw [List.length_append, xr_len _ _ (by rw [List.length_take, List.length_take, h]), List.length_take, List.length_drop]
  omega
theorem xrK_at (a b : List UInt8) (h : a.length = b.length) (j : Nat) (hj : j < a.length) : (xrK a b j)[j]'(by rw [xrK_len a b h]; exact hj) = a[j] := by
  have hl : (xr (a.take j) (b.take j)).length = j := by rw [xr_len _ _ (by rw [List.length_take, List.length_take, h]), List.length_take]; omega
  have e : (xrK a b j)[j]? = some a[j] := by
    unfold xrK
    rw [List.getElem?_append_right (by omega), hl, Nat.sub_self, List.getElem?_drop, Nat.add_zero, List.getElem?_eq_getElem hj]
  have e2 := List.getElem?_eq_getElem (l := xrK a b j) (i := j) (by rw [xrK_len a b h]; exact hj)
  rw [e] at e2
  exact (Option.some.inj e2).symm
theorem xrK_set (a b : List UInt8) (h : a.length = b.length) (j : Nat) (hj : j < a.length) : (xrK a b j).set j (a[j] ^^^ b[j]'(by omega)) = xrK a b (j + 1) := by
  have hl : (xr (a.take j) (b.take j)).length = j := by rw [xr_len _ _ (by rw [List.length_take, List.length_take, h]), List.length_take]; omega
  unfold xrK
  rw [List.set_append_right _ _ (by omega), hl, Nat.sub_self, List.drop_eq_getElem_cons hj, List.set_cons_zero, take_snoc a j hj, take_snoc b j (by omega)]
  unfold xr
  rw [List.zipWith_append (by rw [List.length_take, List.length_take, h])]
  simp
theorem m8_pos {m : Nat} (hm : Fm m) : 0 < m / 8 := by rcases hm with rfl | rfl <;> decide
set_option maxHeartbeats 400000 in
theorem whole_any (m : Nat) (l : List UInt8) (hm : Fm m) (w : World) :
    Calls Tryd.prog 82 #[.int .i64 (m : Int), .string (str l)] w fun e w' => e = .returned (.bool (decide (l.length % (m / 8) = 0))) ∧ w = w' := by
  have hsz := str_size l
  have hquo : binOp .quo 3 (.int .i64 (m : Int)) (.int .i64 8) = pure (.int .i64 ((m / 8 : Nat) : Int)) := nquo 3 m 8 (by decide) (by have := fm_le hm; omega)
  have hrem := nrem 3 l.length (m / 8) (m8_pos hm)
  generalize m / 8 = d at *
  by_cases hw : l.length % d = 0
  · rw [decide_eq_true hw]
    have hq := int_eqlT 3 (a := ((l.length % d : Nat) : Int)) (b := 0) (by omega)
    clear hw hm
    generalize str l = s at *
    generalize l.length % d = z at *
    generalize l.length = n at *
    go_enter Tryd.func82, Tryd.ntmps82
    go_wp2_with fail
    go_ret
    exact ⟨rfl, rfl⟩
  · rw [decide_eq_false hw]
    have hq := int_eqlF 3 (a := ((l.length % d : Nat) : Int)) (b := 0) (by omega)
    clear hw hm
    generalize str l = s at *
    generalize l.length % d = z at *
    generalize l.length = n at *
    go_enter Tryd.func82, Tryd.ntmps82
    go_wp2_with fail
    go_ret
    exact ⟨rfl, rfl⟩
set_option maxRecDepth 100000 in
set_option maxHeartbeats 400000 in
theorem addb_any (a b : List UInt8) (h : a.length = b.length) (hl : a.length ≤ 100000) (g c : Nat) (w : World) (hr : BRow w g a) (A : Option Addr) (c2 : Nat) (hs : Sl w w.heap.size A 1 b.length (b.map bv)) (hne : ∀ k o, A = some ⟨k, o, none⟩ → k ≠ g) :
    Calls Tryd.prog 64 #[.slice (some ⟨g, 0, none⟩) a.length c, .slice A b.length c2] w fun e w' => e = .returned (.tuple #[]) ∧ BRow w' g (xr a b) ∧ Keeps (fun k => k = g) w w' := by
  have HSL := hideIt hs
  have HNE := hideIt hne
  have HH := hideIt h
  have HL := hideIt hl
  have HR := hideIt hr
  obtain ⟨n, hn⟩ : ∃ n, n = a.length := ⟨_, rfl⟩
  rw [← h, ← hn]
  have HN := hideIt hn
  clear hs hne h hl hr hn
  go_enter Tryd.func64, Tryd.ntmps64
  go_wp2_with fail
  go_loopg [4, 7] n (fun gk s4 s7 wr => ∃ j : Nat, j + gk = n ∧ s7 = .int .i64 (j : Int) ∧ Aside (BRow wr g (xrK a b j) ∧ Keeps (fun k => k = g) w wr))
  case atStart => exact ⟨0, by omega, rfl, by rw [xrK_zero]; exact HR.out, Keeps.refl _ _⟩
  case round =>
    obtain ⟨j, hj, rfl, HI⟩ := hrel
    by_cases hlt : j < n
    · have hja : j < a.length := by rw [← HN.out]; exact hlt
      have hjb : j < b.length := by rw [← HH.out]; exact hja
      have hcell := HI.out.1.cell j (by rw [xrK_len a b HH.out]; exact hja)
      rw [xrK_at a b HH.out j hja] at hcell
      have hfree := HI.out.1.free j (by rw [xrK_len a b HH.out]; exact hja)
      have hst := (show BRow wr.drew g (xrK a b j) from ⟨HI.out.1.lt, HI.out.1.cell, HI.out.1.free⟩).store j (by rw [xrK_len a b HH.out]; exact hja) (a[j] ^^^ b[j])
      rw [xrK_set a b HH.out j hja] at hst
      have HST := hideIt hst
      obtain ⟨k, off, hA, hk, hcb0⟩ := HSL.out.byte hjb
      have hkg := HNE.out k off hA
      subst hA
      have hcb := (HI.out.2.cell (p := ⟨k, off + j, none⟩) hk hkg).trans hcb0
      clear hk hkg hcb0
      have hxor := xor_c 5 a[j] b[j]
      have hinc := inc_c 3 j (by have := HL.out; omega)
      have hji : (j : Int) < (n : Int) := by omega
      have HK := hideIt HI.out.2
      clear hst HI
      generalize a[j] = u at *
      generalize b[j] = v at *
      clear hja hjb
      generalize u ^^^ v = y at *
      go_wp2_with fail
      refine still_tail 10 (by kernel_rfl) (by kernel_rfl) ?_
      intro w3 hw3
      have h2D : w3.cell? ⟨g, j, none⟩ = some (bv u) := by rw [hw3]; exact hcell
      have h3D : w3.frozen? ⟨g, j, none⟩ = false := by rw [hw3]; exact hfree
      rw [← hw3] at HST
      have HKW3 := hideIt (show Keeps (fun q => q = g) w w3 by rw [hw3]; exact HK.out.drew)
      have h4D : w3.cell? ⟨k, off + j, none⟩ = some (bv v) := by rw [hw3]; exact hcb
      clear hcell hfree hw3 hcb
      simp only [List.take_succ_cons, List.take_zero, List.drop_succ_cons, List.drop_zero]
      repeat still_step
      refine wpStill_nil ?_
      go_wp2_with fail
      go_roundg (gk - 1)
      case measure => omega
      case rel => exact ⟨j + 1, by omega, by go_num, HST.out, HKW3.out.setCell rfl _⟩
    · obtain rfl : j = n := by omega
      have HE := hideIt (show BRow wr g (xr a b) by have := HI.out.1; rw [HN.out, xrK_all a b HH.out] at this; exact this)
      have HK := hideIt HI.out.2
      clear HI
      go_wp2_with fail
      go_end0
      exact ⟨rfl, HE.out, HK.out⟩
end
section
open Go.RowKit Go.Shelf
set_option linter.unusedVariables false
attribute [local go_sem] Oper.semAt_some
theorem cells2 (w : World) (o : Obj) (t : TypeId) (v : Value) : ((w.alloc (.cells #[v] t)).alloc o).cell? ⟨w.heap.size, 0, none⟩ = some v := by
  rw [World.cell?_of_block (w := w.alloc (.cells #[v] t)) (Below.heap_alloc _ _ _ (by simp))]
  exact cell_one w t v
set_option maxHeartbeats 400000 in
theorem symbols_any (m : Nat) (hm : Fm m) (s : ByteArray) (w : World) :
    Calls Tryd.prog 83 #[.int .i64 (m : Int), .string s] w fun e w' => e = .returned (.func (.func 96) #[] #[.pointer (some ⟨w.heap.size + 1, 0, none⟩), .pointer (some ⟨w.heap.size + 2, 0, none⟩), .pointer (some ⟨w.heap.size, 0, none⟩)]) ∧
      Below w.heap.size w w' ∧ w'.heap.size = w.heap.size + 3 ∧ w'.cell? ⟨w.heap.size, 0, none⟩ = some (.int .i64 (m : Int)) ∧ w'.cell? ⟨w.heap.size + 1, 0, none⟩ = some (.string s) ∧ w'.cell? ⟨w.heap.size + 2, 0, none⟩ = some (.int .i64 ((m / 8 : Nat) : Int)) := by
  have hquo : binOp .quo 3 (.int .i64 (m : Int)) (.int .i64 8) = pure (.int .i64 ((m / 8 : Nat) : Int)) := nquo 3 m 8 (by decide) (by have := fm_le hm; omega)
  clear hm
  generalize m / 8 = d at *
  go_enter Tryd.func83, Tryd.ntmps83
  go_wp2_with fail
  go_ret
  obtain ⟨w1, hw1⟩ : ∃ x, x = w.alloc (.cells #[.int .i64 (m : Int)] 3) := ⟨_, rfl⟩
  have z1 : w1.heap.size = w.heap.size + 1 := by rw [hw1]; simp
  have c1 : w1.cell? ⟨w.heap.size, 0, none⟩ = some (.int .i64 (m : Int)) := by rw [hw1]; exact cell_one _ _ _
  have b1 : Below w.heap.size w w1 := by rw [hw1]; exact below_new _ _
  obtain ⟨w2, hw2⟩ : ∃ x, x = w1.alloc (.cells #[.string s] 9) := ⟨_, rfl⟩
  have z2 : w2.heap.size = w.heap.size + 2 := by rw [hw2]; simp [z1]
  have c2 : w2.cell? ⟨w.heap.size + 1, 0, none⟩ = some (.string s) := by rw [hw2, ← z1]; exact cell_one _ _ _
  have b2 : Below w1.heap.size w1 w2 := by rw [hw2]; exact below_new _ _
  obtain ⟨w3, hw3⟩ : ∃ x, x = w2.alloc (.cells #[.int .i64 (d : Int)] 3) := ⟨_, rfl⟩
  have z3 : w3.heap.size = w.heap.size + 3 := by rw [hw3]; simp [z2]
  have c3 : w3.cell? ⟨w.heap.size + 2, 0, none⟩ = some (.int .i64 (d : Int)) := by rw [hw3, ← z2]; exact cell_one _ _ _
  have b3 : Below w2.heap.size w2 w3 := by rw [hw3]; exact below_new _ _
  rw [← hw1, ← hw2, ← hw3]
  have b13 : Below w1.heap.size w1 w3 := b2.trans (b3.mono (by omega))
  refine ⟨rfl, b1.trans (b13.mono (by omega)), z3, (b13.cell (p := ⟨w.heap.size, 0, none⟩) (by show w.heap.size < _; omega)).trans c1, (b3.cell (p := ⟨w.heap.size + 1, 0, none⟩) (by show w.heap.size + 1 < _; omega)).trans c2, c3⟩
theorem sy8_len (l : List UInt8) : (sy 8 l).length = l.length := by unfold sy; rw [if_neg (by decide), List.length_map]
theorem sy8_at (l : List UInt8) (j : Nat) (h : j < l.length) : (sy 8 l)[j]'(by rw [sy8_len]; exact h) = l[j].toNat := by
  have e : (sy 8 l)[j]? = some l[j].toNat := by
    unfold sy
    rw [if_neg (by decide), List.getElem?_map, List.getElem?_eq_getElem h]
    rfl
  have e2 := List.getElem?_eq_getElem (l := sy 8 l) (i := j) (by rw [sy8_len]; exact h)
  rw [e] at e2
  exact (Option.some.inj e2).symm
theorem sy16_len (l : List UInt8) (h : whl 16 l) : 2 * (sy 16 l).length = l.length := by
  revert h
  refine pairs (P := fun l => 2 * (sy 16 l).length = l.length) rfl ?_ l
  intro u v l _ ih
  show 2 * ((256 * u.toNat + v.toNat) :: sy 16 l).length = _
  simp only [List.length_cons] at ih ⊢
  omega
theorem sy16_at? (l : List UInt8) (h : whl 16 l) : ∀ j x y, l[2 * j]? = some x → l[2 * j + 1]? = some y → (sy 16 l)[j]? = some (256 * x.toNat + y.toNat) := by
  revert h
  refine pairs (P := fun l => ∀ j x y, l[2 * j]? = some x → l[2 * j + 1]? = some y → (sy 16 l)[j]? = some (256 * x.toNat + y.toNat)) ?_ ?_ l
  · intro j x y hx _
    simp at hx
  · intro u v l _ ih j x y hx hy
    show ((256 * u.toNat + v.toNat) :: sy 16 l)[j]? = _
    cases j with
    | zero =>
      simp only [Nat.mul_zero, Nat.zero_add, List.getElem?_cons_zero, List.getElem?_cons_succ, Option.some.injEq] at hx hy
      rw [List.getElem?_cons_zero, hx, hy]
    | succ j =>
      rw [show 2 * (j + 1) = 2 * j + 1 + 1 by omega, List.getElem?_cons_succ, List.getElem?_cons_succ] at hx
      rw [show 2 * (j + 1) + 1 = 2 * j + 1 + 1 + 1 by omega, List.getElem?_cons_succ, List.getElem?_cons_succ] at hy
      rw [List.getElem?_cons_succ]
      exact ih j x y hx hy
theorem sy16_at (l : List UInt8) (h : whl 16 l) (j : Nat) (hj : 2 * j + 1 < l.length) : (sy 16 l)[j]'(by have := sy16_len l h; omega) = 256 * l[2 * j].toNat + l[2 * j + 1].toNat := by
  have e := sy16_at? l h j _ _ (List.getElem?_eq_getElem (by omega)) (List.getElem?_eq_getElem hj)
  have e2 := List.getElem?_eq_getElem (l := sy 16 l) (i := j) (by have := sy16_len l h; omega)
  rw [e] at e2
  exact (Option.some.inj e2).symm
theorem or_bytes (u v : UInt8) : (u.toNat * 2 ^ 8) ||| v.toNat = 256 * u.toNat + v.toNat := by
  have := Nat.two_pow_add_eq_or_of_lt (i := 8) v.toNat_lt u.toNat
  rw [Nat.mul_comm, ← this]
theorem conv_u8 (u : UInt8) (W : World) : (convert 5 3 (bv u)).run Tryd.prog W = .ok (.int .i64 ((u.toNat : Nat) : Int)) W := by
  rw [run_convert_int (P := Tryd.prog) W 5 3 .u8 _ (by kernel_rfl) (by kernel_rfl), show Tryd.prog.intKind 3 = .i64 by kernel_rfl, IntWalk.i64_in _ (by have := u.toNat_lt; omega)]
/-- What the iterator over the symbols reads: three boxes. -/
def capS (B b : Nat) : Prop := b = B ∨ b = B + 1 ∨ b = B + 2
set_option maxHeartbeats 400000 in
set_option maxRecDepth 100000 in
theorem sym8_iter (l : List UInt8) (hl : l.length ≤ 100000) (B : Nat) (w0 : World) (hB : B + 2 < w0.heap.size) (hm : w0.cell? ⟨B, 0, none⟩ = some (.int .i64 8)) (hu : w0.cell? ⟨B + 1, 0, none⟩ = some (.string (str l))) (hd : w0.cell? ⟨B + 2, 0, none⟩ = some (.int .i64 1)) :
    Iter Tryd.prog 96 #[.pointer (some ⟨B + 1, 0, none⟩), .pointer (some ⟨B + 2, 0, none⟩), .pointer (some ⟨B, 0, none⟩)] (fun x : Nat => #[.int .i64 (x : Int)]) (sy 8 l) (capS B) w0 := by
  intro y T J Jx W hC hT1 hJ hJx hY h0
  have hcell : ∀ (k : Nat) (v : Value), capS B k → w0.cell? ⟨k, 0, none⟩ = some v → ∀ V : World, Keeps T W V → V.cell? ⟨k, 0, none⟩ = some v := fun k v hk hv V hV => by
    have h1 := hC k hk
    rw [hV.cell (p := ⟨k, 0, none⟩) (lt_of_block h1.1 h1.2) (fun h => (hT1 k h).2 hk), World.cell?_of_block (w := w0) (a := ⟨k, 0, none⟩) h1.2]
    exact hv
  have HM := hideIt (hcell B _ (Or.inl rfl) hm)
  have HU := hideIt (hcell (B + 1) _ (Or.inr (Or.inl rfl)) hu)
  have HD := hideIt (hcell (B + 2) _ (Or.inr (Or.inr rfl)) hd)
  have HY := hideIt hY
  have H0 := hideIt h0
  have HIX := hideIt (fun i hi W => str_at (P := Tryd.prog) (T := 9) Tryd.underlying9 l i hi W)
  have hsz := str_size l
  clear hC hT1 hJ hJx hY h0 hcell hm hu hd
  generalize str l = s at *
  refine callsIn_of_wp Tryd.func96 rfl trivial ?_
  simp only [Tryd.ntmps96, List.size_toArray, List.length_cons, List.length_nil, Nat.reduceAdd, Nat.reduceSub, Array.replicate_succ, Array.replicate_zero, List.push_toArray, List.append_toArray, List.nil_append, List.cons_append]
  gi_wp2
  gi_loopw [5] (fun i wr => ∃ j : Nat, j ≤ l.length ∧ i = .int .i64 j ∧ J ((sy 8 l).take j) wr ∧ Keeps T W wr) (fun i _ => l.length - (intOf i).toNat)
  case atStart => exact ⟨0, by omega, rfl, H0.out, Keeps.refl T W⟩
  case round =>
    obtain ⟨j, hj, rfl, hJs, hKs⟩ := hrel
    by_cases hlt : j < l.length
    · have h1 := HM.out _ hKs
      have h2 := HU.out _ hKs
      have h3 := HD.out _ hKs
      have hat := sy8_at l j hlt
      have hpre := take_pre (sy 8 l) j (by rw [sy8_len]; exact hlt)
      have hsn : (sy 8 l).take (j + 1) = (sy 8 l).take j ++ [(sy 8 l)[j]'(by rw [sy8_len]; exact hlt)] := take_snoc _ _ _
      rw [hat] at hpre hsn
      have HSN := hideIt hsn
      have hix := fun W => HIX.out j hlt W
      have hcv := fun W => conv_u8 l[j] W
      obtain ⟨fn, tmps, assign, body, hy, hR⟩ := HY.out _ l[j].toNat wr hpre hKs hJs
      have hinc := inc_c 3 j (by omega)
      have hji : (j : Int) < (l.length : Int) := by omega
      clear hat hpre hsn
      generalize l[j] = u at *
      generalize u.toNat = x at *
      gi_wp2
      refine ⟨rfl, ?_⟩
      refine hR.mono ?_
      rintro e W3 (⟨rfl, hK3, hJ3⟩ | ⟨rfl, hK3, hJx3⟩)
      · have h4 := HD.out _ (hKs.trans hK3)
        gi_wp2
        go_roundw
        case rel => exact ⟨j + 1, by omega, by go_num, by rw [HSN.out]; exact hJ3, hKs.trans hK3⟩
        case measure => simp [intOf]; omega
      · gi_wp2
        refine bodyPost_ret (results_none rfl _ _ _) rfl ?_
        exact ⟨⟨_, rfl⟩, hKs.trans hK3, .inr ⟨_, by rw [← HSN.out]; exact List.take_prefix _ _, hJx3⟩⟩
    · have h2 := HU.out _ hKs
      have hji : ¬ (j : Int) < (l.length : Int) := by omega
      obtain rfl : j = l.length := by omega
      rw [List.take_of_length_le (by rw [sy8_len]; omega)] at hJs
      gi_wp2
      go_end0
      exact ⟨⟨_, rfl⟩, hKs, .inl hJs⟩
set_option maxHeartbeats 400000 in
set_option maxRecDepth 100000 in
theorem sym16_iter (l : List UInt8) (hw : whl 16 l) (hl : l.length ≤ 100000) (B : Nat) (w0 : World) (hB : B + 2 < w0.heap.size) (hm : w0.cell? ⟨B, 0, none⟩ = some (.int .i64 16)) (hu : w0.cell? ⟨B + 1, 0, none⟩ = some (.string (str l))) (hd : w0.cell? ⟨B + 2, 0, none⟩ = some (.int .i64 2)) :
    Iter Tryd.prog 96 #[.pointer (some ⟨B + 1, 0, none⟩), .pointer (some ⟨B + 2, 0, none⟩), .pointer (some ⟨B, 0, none⟩)] (fun x : Nat => #[.int .i64 (x : Int)]) (sy 16 l) (capS B) w0 := by
  intro y T J Jx W hC hT1 hJ hJx hY h0
  have hcell : ∀ (k : Nat) (v : Value), capS B k → w0.cell? ⟨k, 0, none⟩ = some v → ∀ V : World, Keeps T W V → V.cell? ⟨k, 0, none⟩ = some v := fun k v hk hv V hV => by
    have h1 := hC k hk
    rw [hV.cell (p := ⟨k, 0, none⟩) (lt_of_block h1.1 h1.2) (fun h => (hT1 k h).2 hk), World.cell?_of_block (w := w0) (a := ⟨k, 0, none⟩) h1.2]
    exact hv
  have HM := hideIt (hcell B _ (Or.inl rfl) hm)
  have HU := hideIt (hcell (B + 1) _ (Or.inr (Or.inl rfl)) hu)
  have HD := hideIt (hcell (B + 2) _ (Or.inr (Or.inr rfl)) hd)
  have HY := hideIt hY
  have H0 := hideIt h0
  have HIX := hideIt (fun i hi W => str_at (P := Tryd.prog) (T := 9) Tryd.underlying9 l i hi W)
  have hsz := str_size l
  have HW := hideIt hw
  have hsl := sy16_len l hw
  clear hC hT1 hJ hJx hY h0 hcell hm hu hd hw
  generalize str l = s at *
  refine callsIn_of_wp Tryd.func96 rfl trivial ?_
  simp only [Tryd.ntmps96, List.size_toArray, List.length_cons, List.length_nil, Nat.reduceAdd, Nat.reduceSub, Array.replicate_succ, Array.replicate_zero, List.push_toArray, List.append_toArray, List.nil_append, List.cons_append]
  gi_wp2
  gi_loopw [5] (fun i wr => ∃ j : Nat, 2 * j ≤ l.length ∧ i = .int .i64 ((2 * j : Nat) : Int) ∧ J ((sy 16 l).take j) wr ∧ Keeps T W wr) (fun i _ => l.length - (intOf i).toNat)
  case atStart => exact ⟨0, by omega, rfl, H0.out, Keeps.refl T W⟩
  case round =>
    obtain ⟨j, hj, rfl, hJs, hKs⟩ := hrel
    by_cases hlt : 2 * j < l.length
    · have h1 := HM.out _ hKs
      have h2 := HU.out _ hKs
      have h3 := HD.out _ hKs
      have hlt2 : 2 * j + 1 < l.length := by omega
      have hat := sy16_at l HW.out j hlt2
      have hpre := take_pre (sy 16 l) j (by omega)
      have hsn : (sy 16 l).take (j + 1) = (sy 16 l).take j ++ [(sy 16 l)[j]'(by omega)] := take_snoc _ _ _
      rw [hat] at hpre hsn
      have HSN := hideIt hsn
      have hix0 := fun W => HIX.out (2 * j) hlt W
      have hix1 := fun W => HIX.out (2 * j + 1) hlt2 W
      have hcv0 := fun W => conv_u8 l[2 * j] W
      have hcv1 := fun W => conv_u8 l[2 * j + 1] W
      have hshl : binOp .shl 3 (.int .i64 ((l[2 * j].toNat : Nat) : Int)) (.int .u64 8) = pure (.int .i64 ((l[2 * j].toNat * 2 ^ 8 : Nat) : Int)) := nshl 3 (k := .u64) l[2 * j].toNat 8 (by omega) (by have := l[2 * j].toNat_lt; omega)
      have hor := nor 3 (l[2 * j].toNat * 2 ^ 8) l[2 * j + 1].toNat (by have := l[2 * j].toNat_lt; omega) (by have := l[2 * j + 1].toNat_lt; omega)
      rw [or_bytes] at hor
      obtain ⟨fn, tmps, assign, body, hy, hR⟩ := HY.out _ _ wr hpre hKs hJs
      have hinc := inc_c 3 (2 * j) (by omega)
      have hadd : binOp .add 3 (.int .i64 ((2 * j : Nat) : Int)) (.int .i64 2) = pure (.int .i64 ((2 * (j + 1) : Nat) : Int)) := nadd 3 (2 * j) 2 (by omega)
      have hji : ((2 * j : Nat) : Int) < (l.length : Int) := by omega
      clear hat hpre hsn
      generalize l[2 * j] = u at *
      generalize l[2 * j + 1] = v at *
      generalize 256 * u.toNat + v.toNat = x at *
      generalize u.toNat * 2 ^ 8 = y1 at *
      generalize u.toNat = y2 at *
      generalize v.toNat = y3 at *
      obtain ⟨i2, hi2⟩ : ∃ i2, i2 = 2 * (j + 1) := ⟨_, rfl⟩
      rw [← hi2] at hadd
      have HI2 := hideIt (show i2 = 2 * (j + 1) ∧ 2 * j < i2 from ⟨hi2, by omega⟩)
      have HLT2 := hideIt hlt2
      clear hi2 hlt2 hlt
      generalize hi1 : 2 * j + 1 = i1 at *
      have HI1 := hideIt hi1
      clear hi1
      generalize hi0 : 2 * j = i0 at *
      have HI0 := hideIt hi0
      have hs1 : (i1 : Int) < (l.length : Int) := by have := HLT2.out; omega
      clear hj hi0
      gi_wp2
      refine ⟨rfl, ?_⟩
      refine hR.mono ?_
      rintro e W3 (⟨rfl, hK3, hJ3⟩ | ⟨rfl, hK3, hJx3⟩)
      · have h4 := HD.out _ (hKs.trans hK3)
        gi_wp2
        go_roundw
        case rel => exact ⟨j + 1, by have := HI2.out; have := HLT2.out; have := HI1.out; have := HI0.out; omega, by rw [← HI2.out.1], by rw [HSN.out]; exact hJ3, hKs.trans hK3⟩
        case measure => have := HI2.out; have := HLT2.out; have := HI1.out; have := HI0.out; simp [intOf]; omega
      · gi_wp2
        refine bodyPost_ret (results_none rfl _ _ _) rfl ?_
        exact ⟨⟨_, rfl⟩, hKs.trans hK3, .inr ⟨_, by rw [← HSN.out]; exact List.take_prefix _ _, hJx3⟩⟩
    · have h2 := HU.out _ hKs
      have hji : ¬ ((2 * j : Nat) : Int) < (l.length : Int) := by omega
      have hjl : 2 * j = l.length := by omega
      rw [hjl] at hji ⊢
      rw [List.take_of_length_le (by omega)] at hJs
      gi_wp2
      go_end0
      exact ⟨⟨_, rfl⟩, hKs, .inl hJs⟩
end
section
open Go.RowKit Go.Shelf
set_option linter.unusedVariables false
attribute [local go_sem] Oper.semAt_some
theorem sym_iter (m : Nat) (hmf : Fm m) (l : List UInt8) (hw : whl m l) (hl : l.length ≤ 100000) (B : Nat) (w0 : World) (hB : B + 2 < w0.heap.size) (hm : w0.cell? ⟨B, 0, none⟩ = some (.int .i64 (m : Int))) (hu : w0.cell? ⟨B + 1, 0, none⟩ = some (.string (str l))) (hd : w0.cell? ⟨B + 2, 0, none⟩ = some (.int .i64 ((m / 8 : Nat) : Int))) :
    Iter Tryd.prog 96 #[.pointer (some ⟨B + 1, 0, none⟩), .pointer (some ⟨B + 2, 0, none⟩), .pointer (some ⟨B, 0, none⟩)] (fun x : Nat => #[.int .i64 (x : Int)]) (sy m l) (capS B) w0 := by
  rcases hmf with rfl | rfl
  · exact sym8_iter l hl B w0 hB hm hu hd
  · exact sym16_iter l hw hl B w0 hB hm hu hd
theorem own_at {w w' : World} {base : Nat} {e : TypeId} {size n c g : Nat} {xs : List Value} (h : w.ownsRow base e size (.slice (some ⟨g, 0, none⟩) n c) n xs) (hb : w'.heap[g]? = w.heap[g]?) : w'.ownsRow base e size (.slice (some ⟨g, 0, none⟩) n c) n xs := by
  refine ⟨h.1, ?_⟩
  rcases h.2 with ⟨h0, _⟩ | ⟨g2, cap, cur, hv, hg, hh, r⟩
  · cases h0
  · injection hv with h1 h2 h3
    injection h1 with h1
    injection h1 with h1
    subst h1 h3
    exact .inr ⟨g, c, cur, rfl, hg, by rw [hb]; exact hh, r⟩
theorem own_lt {w : World} {base : Nat} {e : TypeId} {size n c g : Nat} {xs : List Value} (h : w.ownsRow base e size (.slice (some ⟨g, 0, none⟩) n c) n xs) : g < w.heap.size := by
  rcases h.2 with ⟨h0, _⟩ | ⟨g2, cap, cur, hv, hg, hh, r⟩
  · cases h0
  · injection hv with h1 h2 h3
    injection h1 with h1
    injection h1 with h1
    subst h1
    exact (Array.getElem?_eq_some_iff.1 hh).1
theorem conv_byte (q : Nat) (W : World) : (convert 3 5 (.int .i64 (q : Int))).run Tryd.prog W = .ok (bv (UInt8.ofNat q)) W := by
  rw [run_convert_int (P := Tryd.prog) W 3 5 .i64 _ (by kernel_rfl) (by kernel_rfl), show Tryd.prog.intKind 5 = .u8 by kernel_rfl, IntKind.wrap_u8']
  have e : (q : Int) % 256 = ((UInt8.ofNat q).toNat : Int) := by rw [UInt8.toNat_ofNat']; omega
  rw [e]
theorem at_append_in {F : Fence} {nF : Nat} {P : Program} {ops : Array Oper} {rest : List Oper} {Q : Exit → Act → World → Prop} {a : Act} {w : World} {xs : Array Operand} {ts : Array TypeId} {d t p f g}
    (h : wpListIn F nF P ops Q ({ dst := d, op := .call { callee := .builtin .append, args := xs, argTypes := ts }, type := t, pos := p, after := f, guard := g } :: rest) a w) :
    wpListIn F nF P ops Q ({ dst := d, op := .call { callee := .builtin .append, args := xs, argTypes := ts }, type := t, pos := p, after := f, guard := g } :: rest) a w := h
theorem free_one (W : World) (t : TypeId) (v : Value) : (W.alloc (.cells #[v] t)).frozen? ⟨W.heap.size, 0, none⟩ = false := by
  have h := heap_alloc_new W (.cells #[v] t)
  simp only [World.frozen?, h]
  rfl
theorem Tabs.of_block {w w' : World} (h : Tabs w) (h0 : w'.heap[0]? = w.heap[0]?) : Tabs w' := by
  have a0 := h.lo
  rw [Array.getElem?_eq_getElem a0] at h0
  refine ⟨(Array.getElem?_eq_some_iff.1 h0).1, fun j hj => ?_⟩
  rw [World.cell?_of_block (w := w) (a := ⟨0, j, none⟩) (by rw [Array.getElem?_eq_getElem a0]; exact h0)]
  exact h.tab j hj
theorem Keeps.grown {T : Nat → Prop} {a b c : World} {g : Nat} (h : Keeps T a b) (hg : b.grownBy c (some g)) (hT : T g) : Keeps T a c :=
  h.trans ⟨hg.os, hg.tape, hg.output, hg.size, fun k hk hn => hg.block k hk (fun e => by injection e with e; exact hn (e ▸ hT))⟩
/-- A row of bytes of the call's own, whose slice lies in a box. -/
structure Boxed (W : World) (g bx n k : Nat) (xs : List Value) : Prop where
  cell : W.cell? ⟨bx, 0, none⟩ = some (.slice (some ⟨g, 0, none⟩) k n)
  free : W.frozen? ⟨bx, 0, none⟩ = false
  own : W.ownsRow g 5 1 (.slice (some ⟨g, 0, none⟩) k n) k xs
  lt : bx < W.heap.size
  ne : g ≠ bx
theorem Boxed.keep {W W' : World} {g bx n k : Nat} {xs : List Value} (h : Boxed W g bx n k xs) (hb : Below W.heap.size W W') : Boxed W' g bx n k xs :=
  ⟨(hb.cell (p := ⟨bx, 0, none⟩) h.lt).trans h.cell, (hb.frozen (p := ⟨bx, 0, none⟩) h.lt).trans h.free, own_at h.own (hb.block g (own_lt h.own)), Nat.lt_of_lt_of_le h.lt hb.size, h.ne⟩
theorem Boxed.low {L : Nat} {W W' : World} {g bx n k : Nat} {xs : List Value} (h : Boxed W g bx n k xs) (hg : g < L) (hx : bx < L) (hb : Below L W W') : Boxed W' g bx n k xs :=
  ⟨(hb.cell (p := ⟨bx, 0, none⟩) hx).trans h.cell, (hb.frozen (p := ⟨bx, 0, none⟩) hx).trans h.free, own_at h.own (hb.block g hg), Nat.lt_of_lt_of_le h.lt hb.size, h.ne⟩
theorem Boxed.next {W W6 : World} {g bx n k : Nat} {xs ys : List Value} (h : Boxed W g bx n k xs) (hg : W.grownBy W6 (some g)) (ho : W6.ownsRow g 5 1 (.slice (some ⟨g, 0, none⟩) (k + 1) n) (k + 1) ys) :
    W6.cell? ⟨bx, 0, none⟩ = some (.slice (some ⟨g, 0, none⟩) k n) ∧ W6.frozen? ⟨bx, 0, none⟩ = false ∧ Boxed (W6.setCell ⟨bx, 0, none⟩ (.slice (some ⟨g, 0, none⟩) (k + 1) n)) g bx n (k + 1) ys := by
  have hbk := hg.block bx h.lt (fun e => by injection e with e; exact h.ne e.symm)
  have c6 : W6.cell? ⟨bx, 0, none⟩ = some (.slice (some ⟨g, 0, none⟩) k n) := by rw [World.cell?_of_block (w := W) (a := ⟨bx, 0, none⟩) hbk]; exact h.cell
  have f6 : W6.frozen? ⟨bx, 0, none⟩ = false := by rw [World.frozen?_of_block (w := W) (a := ⟨bx, 0, none⟩) hbk]; exact h.free
  refine ⟨c6, f6, ⟨?_, ?_, ?_, ?_, h.ne⟩⟩
  · rw [World.cell?_setCell_same' _ _ _ (by rw [c6]; rfl)]
  · rw [World.frozen?_setCell]; exact f6
  · exact own_at ho (heap_setCell_other W6 ⟨bx, 0, none⟩ g _ h.ne)
  · simpa [World.setCell] using Nat.lt_of_lt_of_le h.lt hg.size
/-- The bytes of the first symbols' multiples. -/
def prB (m c : Nat) (pre : List Nat) : List UInt8 := pre.flatMap fun s => byt m (mul m s c)
theorem prB_snoc (m c : Nat) (pre : List Nat) (x : Nat) : prB m c (pre ++ [x]) = prB m c pre ++ byt m (mul m x c) := by
  unfold prB; rw [List.flatMap_append]; simp
theorem prB_all (m c : Nat) (l : List UInt8) : prB m c (sy m l) = sc m c l := rfl
theorem prB_le (m c : Nat) (l : List UInt8) (hm : Fm m) (hw : whl m l) (pre : List Nat) (h : pre <+: sy m l) : (prB m c pre).length ≤ l.length := by
  obtain ⟨t, ht⟩ := h
  have h1 := sc_len hm c l hw
  rw [← prB_all, ← ht] at h1
  unfold prB at h1 ⊢
  rw [List.flatMap_append, List.length_append] at h1
  omega
theorem sy_lt (m : Nat) (hm : Fm m) (l : List UInt8) (hw : whl m l) : ∀ x ∈ sy m l, x < 2 ^ m := by
  rcases hm with rfl | rfl
  · intro x hx
    unfold sy at hx
    rw [if_neg (by decide)] at hx
    obtain ⟨u, _, rfl⟩ := List.mem_map.1 hx
    exact u.toNat_lt
  · revert hw
    refine pairs (P := fun l => ∀ x ∈ sy 16 l, x < 2 ^ 16) ?_ ?_ l
    · intro x hx; cases hx
    · intro u v l _ ih x hx
      rcases List.mem_cons.1 (show x ∈ (256 * u.toNat + v.toNat) :: sy 16 l from hx) with rfl | hx
      · exact sym_lt u v
      · exact ih x hx
theorem cell_one_set (w : World) (p : Addr) (x : Value) (t : TypeId) (v : Value) : ∀ (j : Nat) (u : Value), [v][j]? = some u → ((w.setCell p x).alloc (.cells #[v] t)).cell? (Addr.add ⟨w.heap.size, 0, none⟩ j) = some u := by
  have h := cell_one_new (w.setCell p x) v t
  rw [show (w.setCell p x).heap.size = w.heap.size by simp [World.setCell]] at h
  exact h
set_option maxHeartbeats 1000000 in
set_option maxRecDepth 100000 in
theorem products_any (m c : Nat) (l : List UInt8) (hm : Fm m) (hc : c < 2 ^ m) (hw : whl m l) (hl : l.length ≤ 100000) (w : World) (hT : Tabs w) :
    Calls Tryd.prog 65 #[.int .i64 (m : Int), .int .i64 (c : Int), .string (str l)] w fun e w' => ∃ g, e = .returned (.slice (some ⟨g, 0, none⟩) l.length l.length) ∧ w.heap.size ≤ g ∧ w'.ownsRow g 5 1 (.slice (some ⟨g, 0, none⟩) l.length l.length) l.length ((sc m c l).map bv) ∧ Below w.heap.size w w' := by
  obtain ⟨i0, hi, hz0, hz1, hz2⟩ := info_parts (show (Tryd.prog.info? 5).map (fun i => (i.zero, i.size, i.bytes)) = some (some (Value.int .u8 0), 1, 1) by kernel_rfl)
  have HI := hideIt hi
  have HZ0 := hideIt hz0
  have HZ1 := hideIt hz1
  have HZ2 := hideIt hz2
  have hsz := str_size l
  have HSL := hideIt (sc_len hm c l hw)
  have HM := hideIt hm
  have HC := hideIt hc
  have HW := hideIt hw
  have HL := hideIt hl
  have HT := hideIt hT
  obtain ⟨w1, hw1⟩ : ∃ x, x = (w.alloc (.cells #[.int .i64 (m : Int)] 3)).alloc (.cells #[.int .i64 (c : Int)] 3) := ⟨_, rfl⟩
  have HB1 := hideIt (show Below w.heap.size w w1 by rw [hw1]; exact ((Below.refl _ w).alloc (Nat.le_refl _) _).alloc (by simp) _)
  have HS1 := hideIt (show w1.heap.size = w.heap.size + 2 by rw [hw1]; simp)
  have HC1 := hideIt (show w1.cell? ⟨w.heap.size, 0, none⟩ = some (.int .i64 (m : Int)) by rw [hw1]; exact cells2 _ _ _ _)
  have HC2 := hideIt (show w1.cell? ⟨w.heap.size + 1, 0, none⟩ = some (.int .i64 (c : Int)) by
    rw [hw1]
    have := cell_one (w.alloc (.cells #[.int .i64 (m : Int)] 3)) 3 (.int .i64 (c : Int))
    rw [World.size_alloc] at this
    exact this)
  have HW1 := hideIt hw1
  clear hi hz0 hz1 hz2 hm hc hw hl hT hw1
  refine callsIn_wide.1 (callsIn_of_wp_marks (n := 0) Tryd.func65 rfl trivial ((wpIn_wide (n := 0)).2 ?_))
  simp only [Tryd.ntmps65, List.size_toArray, List.length_cons, List.length_nil, Nat.reduceAdd, Nat.reduceSub, Array.replicate_succ, Array.replicate_zero, List.push_toArray, List.append_toArray, List.nil_append, List.cons_append]
  go_wp2_with (first
    | ((with_reducible refine at_make ?_); rw [← HW1.out]; refine wpList_make_own w1 rfl (.const (.int .i64 0)) (.tmp 11) 86 rfl w1.heap.size 5 i0 (.int .u8 0) 1 Tryd.underlying86 HI.out HZ0.out HZ1.out .i64 .i64 _ l.length rfl rfl rfl (by rw [HZ2.out]; have := HL.out; omega) (by have := HL.out; unfold maxLen; omega) (Nat.le_refl _) ?_; intro w2 hown2 hgr2; have HO2 := hideIt hown2; have HG2 := hideIt ((Below.refl w1.heap.size w1).grown hgr2 (Nat.le_refl _) (by simp)); have hA : (w2.alloc (.cells #[.slice (some ⟨w1.heap.size, 0, none⟩) 0 l.length] 86)).cell? ⟨w.heap.size, 0, none⟩ = some (.int .i64 (m : Int)) := (((HG2.out.trans ((below_new w2 _).mono HG2.out.size)).cell (p := ⟨w.heap.size, 0, none⟩) (by rw [HS1.out]; show w.heap.size < _; omega)).trans HC1.out); clear hown2 hgr2)
    | (go_at_call 83; refine (symbols_any m HM.out (str l) _).mono ?_; rintro e w4 ⟨rfl, hb4, hz4, c41, c42, c43⟩))
  have hs1 := HS1.out
  have hgl := own_lt HO2.out
  have ho2 := HO2.out
  have hc3 := cell_one w2 86 (.slice (some ⟨w1.heap.size, 0, none⟩) 0 l.length)
  have hf3 := free_one w2 86 (.slice (some ⟨w1.heap.size, 0, none⟩) 0 l.length)
  have hb3 := below_new w2 (.cells #[.slice (some ⟨w1.heap.size, 0, none⟩) 0 l.length] 86)
  have hz3 := World.size_alloc w2 (.cells #[.slice (some ⟨w1.heap.size, 0, none⟩) 0 l.length] 86)
  have hA2 := (hb3.cell (p := ⟨w.heap.size + 1, 0, none⟩) (by show w.heap.size + 1 < _; omega)).trans ((HG2.out.cell (p := ⟨w.heap.size + 1, 0, none⟩) (by show w.heap.size + 1 < _; omega)).trans HC2.out)
  generalize w2.alloc (.cells #[.slice (some ⟨w1.heap.size, 0, none⟩) 0 l.length] 86) = w3 at *
  generalize hb : w.heap.size = b at *
  generalize hg : w1.heap.size = g at *
  generalize hbx : w2.heap.size = bx at *
  have hgb : g = b + 2 := by omega
  rw [hz3] at c41 c42 c43
  have hBX := hideIt (show Boxed w4 g bx l.length 0 [] from (show Boxed w3 g bx l.length 0 [] from ⟨hc3, hf3, own_at ho2 (hb3.block g hgl), by omega, by omega⟩).keep hb4)
  have hzz : w4.heap.size = bx + 4 := by omega
  have hT4 : Tabs w4 := HT.out.keep (by rw [hb]; exact HB1.out.trans ((HG2.out.trans ((hb3.mono (by omega)).trans (hb4.mono (by omega)))).mono (by omega)))
  have HBW := hideIt (show Below b w w4 from HB1.out.trans ((HG2.out.trans ((hb3.mono (by omega)).trans (hb4.mono (by omega)))).mono (by omega)))
  have HCM := hideIt ((hb4.cell (p := ⟨b, 0, none⟩) (by show b < _; omega)).trans hA)
  have HCC := hideIt ((hb4.cell (p := ⟨b + 1, 0, none⟩) (by show b + 1 < _; omega)).trans hA2)
  have HIT := hideIt (sym_iter m HM.out l HW.out HL.out (bx + 1) w4 (by omega) c41 c42 c43)
  have htl : 0 < b := by rw [← hb]; exact HT.out.lo
  have Q1 := hideIt (show ∀ q, capS (bx + 1) q → q < w4.heap.size from fun q hq => by rcases hq with rfl | rfl | rfl <;> omega)
  have Q2 := hideIt (show ∀ q, (q = g ∨ q = bx) → q < w4.heap.size ∧ ¬ capS (bx + 1) q from fun q hq => by rcases hq with rfl | rfl <;> exact ⟨by omega, fun hh => by rcases hh with hh | hh | hh <;> omega⟩)
  have Q3 := hideIt (show Low w4.heap.size (fun (pre : List Nat) W => Boxed W g bx l.length (prB m c pre).length ((prB m c pre).map bv)) from fun s A V h hbl => h.low (by omega) (by omega) hbl)
  have Q4 := hideIt (show b + 2 = g ∧ g < bx ∧ w4.heap.size = bx + 4 ∧ 0 < b from ⟨hgb.symm, hgl, hzz, htl⟩)
  have HT4 := hideIt hT4
  have HBS := hideIt hb
  clear hb hg hbx hs1 hgl ho2 hA hA2 hb4 hz4 c41 c42 c43 hc3 hf3 hb3 hz3 hgb hzz hT4 htl HO2 HG2 HB1 HS1 HC1 HC2 HW1 HT
  refine range_any (gf := 96) (lb := #[.pointer (some ⟨bx + 1 + 1, 0, none⟩), .pointer (some ⟨bx + 1 + 2, 0, none⟩), .pointer (some ⟨bx + 1, 0, none⟩)]) rfl (enters_of Tryd.func96 (by kernel_rfl) rfl) HIT.out
    (fun q hq => ⟨Q1.out q hq, rfl⟩) (fun _ => rfl) (fun q => q = g ∨ q = bx) Q2.out
    (fun pre W => Boxed W g bx l.length (prB m c pre).length ((prB m c pre).map bv)) (fun _ _ _ => False) Q3.out (fun _ _ _ _ h _ => h) hBX.out ?a1 ?assign ?body ?done ?stop
  case assign =>
    intro l' x W K hK
    have HK2 := hideIt hK
    clear hK
    gi_wp2
    exact HK2.out
  case body =>
    rintro l' pre x W hpre hKW hI
    have hx := sy_lt m HM.out l HW.out x (hpre.subset (by simp))
    have hTW := HT4.out.of_block (hKW.block _ (by have := Q4.out; omega) (fun hh => by have := Q4.out; rcases hh with hh | hh <;> omega))
    have hcm := (hKW.cell (p := ⟨b, 0, none⟩) (by have := Q4.out; show b < _; omega) (fun hh => by have := Q4.out; rcases hh with hh | hh <;> (have hh : b = _ := hh; omega))).trans HCM.out
    have hcc := (hKW.cell (p := ⟨b + 1, 0, none⟩) (by have := Q4.out; show b + 1 < _; omega) (fun hh => by have := Q4.out; rcases hh with hh | hh <;> (have hh : b + 1 = _ := hh; omega))).trans HCC.out
    have HP := hideIt (show Calls Tryd.prog 84 #[.int .i64 (m : Int), .int .i64 (x : Int), .int .i64 (c : Int)] W _ from prod_any m x c HM.out hx HC.out W hTW 0)
    have hplt := mul_lt HM.out c hx
    have hle := prB_le m c l HM.out HW.out _ hpre
    have hWb : b < W.heap.size := Nat.lt_of_lt_of_le (by have := Q4.out; omega) hKW.size
    have hsn := prB_snoc m c pre x
    rw [hsn] at hle
    obtain ⟨L0, hL0⟩ : ∃ L0, L0 = prB m c pre := ⟨_, rfl⟩
    obtain ⟨p, hp⟩ : ∃ p, p = mul m x c := ⟨_, rfl⟩
    rw [← hL0] at hI hle hsn
    rw [← hp] at HP hplt hle hsn
    have HSN := hideIt hsn
    obtain ⟨k0, hk0⟩ : ∃ k0, k0 = L0.length := ⟨_, rfl⟩
    rw [← hk0] at hI
    have HK0 := hideIt hk0
    have HIV := hideIt hI
    have HCMW := hideIt hcm
    have HWB := hideIt hWb
    clear hI hL0 hp hKW hpre hTW hx hsn hk0
    gi_wp2_with fail
    refine ⟨trivial, rfl, ?_⟩
    refine (CallsIn.inRound l' (callsIn_wide.2 HP.out)).mono ?_
    rintro e w5 ⟨rfl, k5, hw5⟩
    have hb5 : Below W.heap.size W w5 := by rw [hw5]; exact below_drewN (below_drewN (Below.refl _ _) 0) k5
    have H5 := hideIt (HIV.out.keep hb5)
    have hm5 := (hb5.cell (p := ⟨b, 0, none⟩) HWB.out).trans HCMW.out
    have HK5 := hideIt (show Keeps (fun q => q = g ∨ q = bx) W w5 from Keeps.of_below hb5)
    have hbc := H5.out.cell
    clear hw5 hb5 HP HIV hcm hcc HCMW
    by_cases h16 : m = 16
    · have hshr : binOp .shr 3 (.int .i64 (p : Int)) (.int .u64 8) = pure (.int .i64 ((p / 256 : Nat) : Int)) := nshr 3 (k := .u64) p 8 (by decide) (by have := fm_big HM.out; omega)
      have hcA := fun W => conv_byte (p / 256) W
      have hcB := fun W => conv_byte p W
      rw [show byt m p = [UInt8.ofNat (p / 256), UInt8.ofNat p] from by unfold byt; rw [if_pos h16]] at HSN hle
      have HFIT := hideIt (show k0 + 2 ≤ l.length by have := HK0.out; rw [List.length_append] at hle; simp only [List.length_cons, List.length_nil] at hle; omega)
      have heq := int_eqlT 3 (a := (m : Int)) (b := 16) (by omega)
      clear h16 hle hplt
      generalize UInt8.ofNat (p / 256) = y1 at *
      generalize UInt8.ofNat p = y2 at *
      generalize p / 256 = p1 at *
      gi_wp2_with (first
        | ((with_reducible refine at_append_in ?_); refine wpListIn_append_fits _ rfl (.tmp 23) (.tmp 27) 86 rfl g 5 i0 1 Tryd.underlying86 HI.out HZ1.out g k0 l.length _ rfl (H5.out.keep (below_new w5 (.cells #[bv y1] 5))).own _ 1 1 [bv y1] rfl rfl (cell_one_new _ _ _) (ones_one rfl) (by have := HFIT.out; omega) ?_; intro w6 ho hg; obtain ⟨hc6, hf6, hB6⟩ := (H5.out.keep (below_new w5 (.cells #[bv y1] 5))).next hg ho; have H6 := hideIt hB6; have HK6 := hideIt (((HK5.out.alloc _).grown hg (Or.inl rfl)).setCell (p := ⟨bx, 0, none⟩) (Or.inr rfl) (.slice (some ⟨g, 0, none⟩) (k0 + 1) l.length)); have hx6 := hB6.cell; clear ho hg hB6 H5)
        | ((with_reducible refine at_append_in ?_); refine wpListIn_append_fits _ rfl (.tmp 29) (.tmp 32) 86 rfl g 5 i0 1 Tryd.underlying86 HI.out HZ1.out g (k0 + 1) l.length _ rfl (H6.out.keep (below_new _ (.cells #[bv y2] 5))).own _ 1 1 [bv y2] rfl rfl (cell_one_set _ _ _ _ _) (ones_one rfl) (by have := HFIT.out; omega) ?_; intro w7 ho hg; obtain ⟨hc7, hf7, hB7⟩ := (H6.out.keep (below_new _ (.cells #[bv y2] 5))).next hg ho; have H7 := hideIt hB7; have HK7 := hideIt (((HK6.out.alloc _).grown hg (Or.inl rfl)).setCell (p := ⟨bx, 0, none⟩) (Or.inr rfl) (.slice (some ⟨g, 0, none⟩) ((k0 + 1) + 1) l.length)); have hx7 := hB7.cell; clear ho hg hB7 H6))
      have hk0 := HK0.out
      refine ⟨HK7.out, ?_⟩
      have hfin := H7.out
      show Boxed _ g bx l.length (prB m c (pre ++ [x])).length ((prB m c (pre ++ [x])).map bv)
      rw [HSN.out, List.length_append, List.map_append, ← hk0]
      simpa using hfin
    · have hcB := fun W => conv_byte p W
      rw [show byt m p = [UInt8.ofNat p] from by unfold byt; rw [if_neg h16]] at HSN hle
      have HFIT := hideIt (show k0 + 1 ≤ l.length by have := HK0.out; rw [List.length_append] at hle; simp only [List.length_cons, List.length_nil] at hle; omega)
      have heq := int_eqlF 3 (a := (m : Int)) (b := 16) (by omega)
      clear h16 hle hplt
      generalize UInt8.ofNat p = y2 at *
      gi_wp2_with ((with_reducible refine at_append_in ?_); refine wpListIn_append_fits _ rfl (.tmp 29) (.tmp 32) 86 rfl g 5 i0 1 Tryd.underlying86 HI.out HZ1.out g k0 l.length _ rfl (H5.out.keep (below_new w5 (.cells #[bv y2] 5))).own _ 1 1 [bv y2] rfl rfl (cell_one_new _ _ _) (ones_one rfl) (by have := HFIT.out; omega) ?_; intro w7 ho hg; obtain ⟨hc7, hf7, hB7⟩ := (H5.out.keep (below_new w5 (.cells #[bv y2] 5))).next hg ho; have H7 := hideIt hB7; have HK7 := hideIt (((HK5.out.alloc _).grown hg (Or.inl rfl)).setCell (p := ⟨bx, 0, none⟩) (Or.inr rfl) (.slice (some ⟨g, 0, none⟩) (k0 + 1) l.length)); have hx7 := hB7.cell; clear ho hg hB7 H5)
      have hk0 := HK0.out
      refine ⟨HK7.out, ?_⟩
      have hfin := H7.out
      show Boxed _ g bx l.length (prB m c (pre ++ [x])).length ((prB m c (pre ++ [x])).map bv)
      rw [HSN.out, List.length_append, List.map_append, ← hk0]
      simpa using hfin
  case done =>
    intro D W hD hKW hI hDf
    rw [prB_all] at hI
    have hlen := HSL.out
    rw [hlen] at hI
    have hcell := hI.cell
    have HO := hideIt hI.own
    have HBE := hideIt (HBW.out.trans (hKW.below (B := b) (by have := HBW.out.size; have := HBS.out; omega) (by have := Q4.out; intro q hq hh; rcases hh with rfl | rfl <;> omega)))
    have HDF := hideIt hDf
    have HD := hideIt (show bx + 4 ≤ D by have := Q4.out; omega)
    have HGD := hideIt (own_lt hI.own)
    clear hI hlen hKW hD hDf
    go_wp2_with fail
    refine ⟨by simp, .inl ⟨_, _, rfl, run_takeDeferred HDF.out, ?_⟩⟩
    refine ⟨_, results_tmp rfl _ _ _, g, rfl, by have := Q4.out; have := HBS.out; omega, own_at HO.out (World.putObj_heap_other (by have := Q4.out; have := HD.out; omega)), by rw [HBS.out]; exact HBE.out.trans (below_putObj W (by have := Q4.out; have := HD.out; omega) _)⟩
  case stop =>
    intro D c' pre W _ _ _ h _
    exact h.elim
end
section
open Go.RowKit Go.Shelf
set_option linter.unusedVariables false
def xrS (a b : List UInt8) : List UInt8 := if a.length = b.length then xr a b else []
def xrE (a b : List UInt8) : Int := if a.length = b.length then 0 else 1
/-- What Scale answers. -/
def scR (m c : Int) (l : List UInt8) : List UInt8 := if vd m c = true ∧ l.length % (m.toNat / 8) = 0 then sc m.toNat c.toNat l else []
def scE (m c : Int) (l : List UInt8) : Int := if vd m c = true ∧ l.length % (m.toNat / 8) = 0 then 0 else 1
theorem brow_of_own {w : World} {base g n k : Nat} {l : List UInt8} (h : w.ownsRow base 5 1 (.slice (some ⟨g, 0, none⟩) n k) n (l.map bv)) : BRow w g l := by
  have hl : l.length = n := by have := h.1; rw [List.length_map, Nat.mul_one] at this; exact this
  rcases h.2 with ⟨h0, _⟩ | ⟨g2, cap, cur, hv, hb, hg, h1, h2, h3, h4⟩
  · cases h0
  · injection hv with h5 h6 h7
    injection h5 with h5
    injection h5 with h5
    subst h5
    have hc : cur.toList = l.map bv ++ cur.toList.drop n := by rw [← h4, Nat.mul_one, List.take_append_drop]
    have hblk : Blk w g 5 (l.map bv ++ cur.toList.drop n) := by
      unfold Blk
      rw [← hc, hg]
    exact ⟨hblk.lt, fun i hi => row_byte hblk i hi, fun i _ => hblk.free i⟩
end
section
open Go.RowKit Go.Shelf
set_option linter.unusedVariables false
/-- A string as a cell. -/
abbrev sv (l : List UInt8) : Value := .string (str l)
theorem Sl.strs {w : World} {B : Nat} {A : Option Addr} {us : List (List UInt8)} (h : Sl w B A 1 us.length (us.map sv)) (h0 : 0 < us.length) :
    ∃ b off, A = some ⟨b, off, none⟩ ∧ b < B ∧ ∀ k (hk : k < us.length), w.cell? ⟨b, off + k, none⟩ = some (.string (str us[k])) := by
  obtain ⟨b, off, e, hb, hc⟩ := h.2 (by rw [List.length_map]; exact h0)
  refine ⟨b, off, e, hb, fun k hk => hc k _ ?_⟩
  rw [List.getElem?_map, List.getElem?_eq_getElem hk]
  rfl
theorem Sl.nums {w : World} {B : Nat} {A : Option Addr} {cs : List Int} (h : Sl w B A 1 cs.length (cs.map iv)) (h0 : 0 < cs.length) :
    ∃ b off, A = some ⟨b, off, none⟩ ∧ b < B ∧ ∀ k (hk : k < cs.length), w.cell? ⟨b, off + k, none⟩ = some (.int .i64 cs[k]) := by
  obtain ⟨b, off, e, hb, hc⟩ := h.2 (by rw [List.length_map]; exact h0)
  refine ⟨b, off, e, hb, fun k hk => hc k _ ?_⟩
  rw [List.getElem?_map, List.getElem?_eq_getElem hk]
  rfl
/-- The length of the first unit. -/
def ul (us : List (List UInt8)) : Nat := (us.headD []).length
theorem ul_zero (us : List (List UInt8)) (h : 0 < us.length) : us[0].length = ul us := by
  cases us with
  | nil => simp at h
  | cons u r => rfl
/-- Has a combination a result? -/
def Gd (m : Int) (cs : List Int) (us : List (List UInt8)) : Prop := 0 < cs.length ∧ cs.length = us.length ∧ (∀ c ∈ cs, vd m c = true) ∧ (∀ u ∈ us, u.length = ul us) ∧ ul us % (m.toNat / 8) = 0
instance (m : Int) (cs : List Int) (us : List (List UInt8)) : Decidable (Gd m cs us) := by unfold Gd; infer_instance
set_option maxHeartbeats 1000000 in
set_option maxRecDepth 100000 in
theorem combinable_any (m : Int) (A : Option Addr) (ca : Nat) (cs : List Int) (D : Option Addr) (cd : Nat) (us : List (List UInt8)) (w : World) (hT : Tabs w) (hl : cs.length ≤ 100000)
    (hc : Sl w w.heap.size A 1 cs.length (cs.map iv)) (hu : Sl w w.heap.size D 1 us.length (us.map sv)) :
    Calls Tryd.prog 63 #[.int .i64 m, .slice A cs.length ca, .slice D us.length cd] w fun e w' => e = .returned (.bool (decide (Gd m cs us))) ∧ Below w.heap.size w w' := by
  by_cases h0 : cs.length = 0
  · rw [decide_eq_false (fun h => by have := h.1; omega)]
    have hq := int_eqlT 3 (a := (cs.length : Int)) (b := 0) (by omega)
    clear hT hc hu hl h0
    generalize cs.length = n at *
    generalize us.length = k at *
    go_enter Tryd.func63, Tryd.ntmps63
    go_wp2_with fail
    go_ret
    exact ⟨rfl, Below.refl _ _⟩
  have hq := int_eqlF 3 (a := (cs.length : Int)) (b := 0) (by omega)
  by_cases h1 : cs.length = us.length
  · have hq2 := neqF 3 us.length
    have h2 : 0 < us.length := by omega
    obtain ⟨bc, oc, rfl, hbc, hcc⟩ := hc.nums (by omega)
    obtain ⟨bu, ou, rfl, hbu, hcu⟩ := hu.strs h2
    rw [h1] at hq hl ⊢
    have HT := hideIt hT
    have HCC := hideIt hcc
    have HCU := hideIt hcu
    have HBC := hideIt hbc
    have HBU := hideIt hbu
    have HN := hideIt h1
    have HL := hideIt hl
    obtain ⟨n, hn⟩ : ∃ n, n = us.length := ⟨_, rfl⟩
    rw [← hn] at h2 hq hq2 ⊢
    have HNN := hideIt hn
    have HP := hideIt h2
    obtain ⟨bb, hbb⟩ : ∃ bb, bb = decide (Gd m cs us) := ⟨_, rfl⟩
    rw [← hbb]
    have HZ := hideIt hbb
    clear hbb hT hcc hcu hbc hbu h1 hl hn h2 hc hu h0
    go_enter Tryd.func63, Tryd.ntmps63
    go_wp2_with fail
    go_loopg [21] n (fun g s21 wr => ∃ k : Nat, k + g = n ∧ s21 = .int .i64 (k : Int) ∧ Aside (Below w.heap.size w wr ∧ (∀ c ∈ cs.take k, vd m c = true) ∧ (∀ u ∈ us.take k, u.length = ul us)))
    case atStart => exact ⟨0, by omega, rfl, Below.refl _ _, by simp, by simp⟩
    case round =>
      obtain ⟨k, hk, rfl, HI⟩ := hrel
      by_cases hlt : k < n
      · have hkc : k < cs.length := by rw [HN.out, ← HNN.out]; exact hlt
        have hku : k < us.length := by rw [← HNN.out]; exact hlt
        have h0u : 0 < us.length := by rw [← HNN.out]; exact HP.out
        have hc1 := (HI.out.1.cell (p := ⟨bc, oc + k, none⟩) HBC.out).trans (HCC.out k hkc)
        have hc2 := (HI.out.1.cell (p := ⟨bu, ou + k, none⟩) HBU.out).trans (HCU.out k hku)
        have hc3 : wr.cell? ⟨bu, ou, none⟩ = some (.string (str us[0])) := (HI.out.1.cell (p := ⟨bu, ou + 0, none⟩) HBU.out).trans (HCU.out 0 h0u)
        have hn0 : (0 : Int) < (us.length : Int) := by omega
        rw [← HNN.out] at hn0
        have hT1 := HT.out.keep HI.out.1
        have HS1 := hideIt (take_snoc cs k hkc)
        have HS2 := hideIt (take_snoc us k hku)
        have hm1 : cs[k] ∈ cs := List.getElem_mem hkc
        have hm2 : us[k] ∈ us := List.getElem_mem hku
        have hsz := str_size us[k]
        have hsz0 := str_size us[0]
        rw [ul_zero us h0u] at hsz0
        have hinc := inc_c 3 k (by have := HL.out; have := HNN.out; omega)
        have hki : (k : Int) < (n : Int) := by omega
        have HV := hideIt (fun j => valid_dr m cs[k] wr hT1 j)
        generalize hcv : cs[k] = c at *
        generalize huv : us[k] = u at *
        have HM1 := hideIt hm1
        have HM2 := hideIt hm2
        generalize str u = su at *
        generalize str us[0] = s0 at *
        clear hcv huv hm1 hm2 hkc hku h0u hT1
        by_cases hv : vd m c = true
        · rw [hv] at HV
          by_cases hlen : u.length = ul us
          · have hnq := neqF 3 (ul us)
            rw [← hlen] at hnq hsz0
            have HLN := hideIt hlen
            have HVD := hideIt hv
            clear hlen hv
            go_wp2_with fail
            go_quiet ((go_at_call 80; refine (HV.out _).mono ?_; rintro e w' ⟨rfl, hw⟩; exact ⟨rfl, _, hw.symm⟩))
            go_wp2_with fail
            go_roundg (gk - 1)
            case measure => omega
            case rel =>
              refine ⟨k + 1, by omega, by go_num, below_drewN HI.out.1 _, ?_, ?_⟩
              · rw [HS1.out]
                intro c' hc'
                rcases List.mem_append.1 hc' with h | h
                · exact HI.out.2.1 c' h
                · rw [List.mem_singleton] at h; rw [h]; exact HVD.out
              · rw [HS2.out]
                intro c' hc'
                rcases List.mem_append.1 hc' with h | h
                · exact HI.out.2.2 c' h
                · rw [List.mem_singleton] at h; rw [h]; exact HLN.out
          · have hnq := neqT 3 hlen
            have HE := hideIt (HZ.out.trans (decide_eq_false (fun h : Gd m cs us => hlen (h.2.2.2.1 u HM2.out))))
            clear hlen hv
            go_wp2_with fail
            go_quiet ((go_at_call 80; refine (HV.out _).mono ?_; rintro e w' ⟨rfl, hw⟩; exact ⟨rfl, _, hw.symm⟩))
            go_wp2_with fail
            go_ret
            exact ⟨by rw [HE.out]; rfl, below_drewN HI.out.1 _⟩
        · have HE := hideIt (HZ.out.trans (decide_eq_false (fun h : Gd m cs us => hv (h.2.2.1 c HM1.out))))
          rw [Bool.eq_false_iff.2 hv] at HV
          clear hv
          go_wp2_with fail
          go_quiet ((go_at_call 80; refine (HV.out _).mono ?_; rintro e w' ⟨rfl, hw⟩; exact ⟨rfl, _, hw.symm⟩))
          go_wp2_with fail
          go_ret
          exact ⟨by rw [HE.out]; rfl, below_drewN HI.out.1 _⟩
      · obtain rfl : k = n := by omega
        have hki : ¬ (k : Int) < (k : Int) := by omega
        have h0u : 0 < us.length := by rw [← HNN.out]; exact HP.out
        have hc3 : wr.cell? ⟨bu, ou, none⟩ = some (.string (str us[0])) := (HI.out.1.cell (p := ⟨bu, ou + 0, none⟩) HBU.out).trans (HCU.out 0 h0u)
        have hn0 : (0 : Int) < (us.length : Int) := by omega
        rw [← HNN.out] at hn0
        have hall1 : ∀ c ∈ cs, vd m c = true := by
          have h := HI.out.2.1
          rw [List.take_of_length_le (by rw [HN.out, ← HNN.out]; omega)] at h
          exact h
        have hall2 : ∀ u ∈ us, u.length = ul us := by
          have h := HI.out.2.2
          rw [List.take_of_length_le (by rw [← HNN.out]; omega)] at h
          exact h
        have hc0 : 0 < cs.length := by rw [HN.out]; exact h0u
        have hv0 := hall1 cs[0] (List.getElem_mem hc0)
        obtain ⟨mm, x, rfl, hx0, hm, _⟩ := vd_spec hv0
        have HW := hideIt (fun W => whole_any mm us[0] hm W)
        rw [ul_zero us h0u] at HW
        have hg : decide (Gd (mm : Int) cs us) = decide (ul us % (mm / 8) = 0) := by
          apply decide_eq_decide.2
          exact ⟨fun h => h.2.2.2.2, fun h => ⟨hc0, HN.out, hall1, hall2, h⟩⟩
        rw [← hg, ← HZ.out] at HW
        generalize str us[0] = s0 at *
        clear hx0 hv0
        clear hg hall1 hall2 hc0 hm h0u
        go_wp2_with (go_at_call 82; refine (HW.out _).mono ?_; rintro e w' ⟨rfl, rfl⟩)
        go_ret
        exact ⟨rfl, HI.out.1⟩
  · have hq2 := neqT 3 h1
    rw [decide_eq_false (fun h => h1 h.2.1)]
    clear hT hc hu hl h0 h1
    generalize cs.length = n at *
    generalize us.length = k at *
    go_enter Tryd.func63, Tryd.ntmps63
    go_wp2_with fail
    go_ret
    exact ⟨rfl, Below.refl _ _⟩
end
section
open Go.RowKit Go.Shelf
set_option linter.unusedVariables false
theorem addb_n (n : Nat) (a b : List UInt8) (ha : a.length = n) (hb : b.length = n) (hl : n ≤ 100000) (g g2 c c2 : Nat) (w : World) (hr : BRow w g a) (hs : BRow w g2 b) (hne : g2 ≠ g) :
    Calls Tryd.prog 64 #[.slice (some ⟨g, 0, none⟩) n c, .slice (some ⟨g2, 0, none⟩) n c2] w fun e w' => e = .returned (.tuple #[]) ∧ BRow w' g (xr a b) ∧ Keeps (fun k => k = g) w w' := by
  have h := addb_any a b (ha.trans hb.symm) (by omega) g c w hr (some ⟨g2, 0, none⟩) c2 hs.sl (fun k o h => by injection h with h; injection h with h; rw [← h]; exact hne)
  rw [ha, hb] at h
  exact h
theorem cmbF_snoc (m c : Nat) (u : List UInt8) : ∀ (l : List (Nat × List UInt8)) (acc : List UInt8), cmbF m acc (l ++ [(c, u)]) = xr (cmbF m acc l) (sc m c u)
  | [], _ => rfl
  | (c', u') :: l, acc => by
    show cmbF m (xr acc (sc m c' u')) (l ++ [(c, u)]) = _
    rw [cmbF_snoc m c u l]
    rfl
/-- Coefficients and units in pairs. -/
def prs (cs : List Int) (us : List (List UInt8)) : List (Nat × List UInt8) := (cs.map Int.toNat).zip us
theorem prs_len (cs : List Int) (us : List (List UInt8)) (h : cs.length = us.length) : (prs cs us).length = us.length := by
  unfold prs; rw [List.length_zip, List.length_map, h, Nat.min_self]
theorem prs_at (cs : List Int) (us : List (List UInt8)) (h : cs.length = us.length) (j : Nat) (hj : j < us.length) : (prs cs us).take (j + 1) = (prs cs us).take j ++ [((cs[j]'(by omega)).toNat, us[j])] := by
  rw [take_snoc _ j (by rw [prs_len cs us h]; exact hj)]
  congr 2
  unfold prs
  rw [List.getElem_zip, List.getElem_map]
/-- The combination of the first j units. -/
def cmbK (m : Nat) (cs : List Int) (us : List (List UInt8)) (j : Nat) : List UInt8 := cmbF m (List.replicate (ul us) 0) ((prs cs us).take j)
theorem cmbK_zero (m : Nat) (cs : List Int) (us : List (List UInt8)) : cmbK m cs us 0 = List.replicate (ul us) 0 := rfl
theorem cmbK_next (m : Nat) (cs : List Int) (us : List (List UInt8)) (h : cs.length = us.length) (j : Nat) (hj : j < us.length) : cmbK m cs us (j + 1) = xr (cmbK m cs us j) (sc m (cs[j]'(by omega)).toNat us[j]) := by
  unfold cmbK
  rw [prs_at cs us h j hj, cmbF_snoc]
theorem cmbK_len {m : Nat} (hm : Fm m) (cs : List Int) (us : List (List UInt8)) (hu : ∀ u ∈ us, u.length = ul us) (hw : ul us % (m / 8) = 0) (j : Nat) : (cmbK m cs us j).length = ul us := by
  unfold cmbK
  rw [cmb_len hm _ _ (by unfold whl; rw [List.length_replicate]; exact hw) (fun p hp => by
    rw [List.length_replicate]
    exact hu p.2 (List.of_mem_zip (show (p.1, p.2) ∈ (cs.map Int.toNat).zip us from List.mem_of_mem_take hp)).2), List.length_replicate]
/-- What Combine answers. -/
def cbS (m : Int) (cs : List Int) (us : List (List UInt8)) : List UInt8 := if Gd m cs us then cmbK m.toNat cs us us.length else []
def cbE (m : Int) (cs : List Int) (us : List (List UInt8)) : Int := if Gd m cs us then 0 else 1
theorem zeros_bv (n : Nat) : List.replicate n (Value.int .u8 0) = (List.replicate n (0 : UInt8)).map bv := by
  rw [List.map_replicate]; rfl
set_option maxHeartbeats 1000000 in
set_option maxRecDepth 100000 in
theorem combine_any (m : Int) (A : Option Addr) (ca : Nat) (cs : List Int) (D : Option Addr) (cd : Nat) (us : List (List UInt8)) (w : World) (hT : Tabs w) (hl : cs.length ≤ 100000) (hlu : ul us ≤ 100000)
    (hc : Sl w w.heap.size A 1 cs.length (cs.map iv)) (hu : Sl w w.heap.size D 1 us.length (us.map sv)) :
    Calls Tryd.prog 50 #[.int .i64 m, .slice A cs.length ca, .slice D us.length cd] w fun e w' => e = .returned (.tuple #[.string (str (cbS m cs us)), .int .i64 (cbE m cs us)]) ∧ Below w.heap.size w w' := by
  have HC := hideIt (combinable_any m A ca cs D cd us w hT hl hc hu)
  by_cases hg : Gd m cs us
  · rw [cbS, cbE, if_pos hg, if_pos hg]
    rw [decide_eq_true hg] at HC
    obtain ⟨h0, h1, hv, hul, hwh⟩ := hg
    obtain ⟨k, x0, rfl, hx0, hm, _⟩ := vd_spec (hv cs[0] (List.getElem_mem h0))
    rw [Int.toNat_natCast] at hwh ⊢
    have h2 : 0 < us.length := by omega
    obtain ⟨bc, oc, rfl, hbc, hcc⟩ := hc.nums h0
    obtain ⟨bu, ou, rfl, hbu, hcu⟩ := hu.strs h2
    rw [h1] at HC ⊢
    obtain ⟨i0, hi, hz0, hz1, hz2⟩ := info_parts (show (Tryd.prog.info? 5).map (fun i => (i.zero, i.size, i.bytes)) = some (some (Value.int .u8 0), 1, 1) by kernel_rfl)
    have HI0 := hideIt hi
    have HZ0 := hideIt hz0
    have HZ1 := hideIt hz1
    have HZ2 := hideIt hz2
    have HT := hideIt hT
    have HCC := hideIt hcc
    have HCU := hideIt hcu
    have HBC := hideIt hbc
    have HBU := hideIt hbu
    have HN := hideIt h1
    have HL := hideIt hl
    have HM := hideIt hm
    have HV := hideIt hv
    have HUL := hideIt hul
    have HWH := hideIt hwh
    have HLU := hideIt hlu
    have hc0 : ∀ W, Below w.heap.size w W → W.cell? ⟨bu, ou, none⟩ = some (.string (str us[0])) := fun W hW => (hW.cell (p := ⟨bu, ou + 0, none⟩) hbu).trans (hcu 0 h2)
    have HC0 := hideIt hc0
    have hsz0 := str_size us[0]
    rw [ul_zero us h2] at hsz0
    generalize str us[0] = s0 at *
    clear hx0
    obtain ⟨n, hn⟩ : ∃ n, n = us.length := ⟨_, rfl⟩
    have hn0 : (0 : Int) < (n : Int) := by omega
    rw [← hn] at HC ⊢
    have HNN := hideIt hn
    obtain ⟨q, hq⟩ : ∃ q, q = ul us := ⟨_, rfl⟩
    rw [← hq] at hsz0
    have HQ := hideIt hq
    obtain ⟨z, hz⟩ : ∃ z, z = str (cmbK k cs us n) := ⟨_, rfl⟩
    rw [← hz]
    have HZ := hideIt hz
    clear hz hT hcc hcu hbc hbu h1 hl hn h2 hc hu h0 hm hv hul hwh hi hz0 hz1 hz2 hc0 hq hlu
    go_enter Tryd.func50, Tryd.ntmps50
    go_wp2_with (first
      | (go_at_call 63; refine HC.out.mono ?_; rintro e w1 ⟨rfl, hb⟩; have HB1 := hideIt hb; have hcell := HC0.out w1 hb; clear hb)
      | ((with_reducible refine at_make ?_); refine wpList_make_full w1 rfl (.tmp 19) (.tmp 19) 86 rfl w1.heap.size 5 i0 (.int .u8 0) 1 Tryd.underlying86 HI0.out HZ0.out HZ1.out .i64 .i64 (q : Int) (q : Int) q rfl rfl rfl rfl (by rw [HZ2.out]; have := HLU.out; have := HQ.out; omega) (by have := HLU.out; have := HQ.out; unfold maxLen; omega) (Nat.le_refl _) ?_; intro w2 hown2 hgr2; have HO2 := hideIt hown2; have HG2 := hideIt ((Below.refl w1.heap.size w1).grown hgr2 (Nat.le_refl _) (by simp)); clear hown2 hgr2))
    have HR2 := hideIt (brow_of_own (l := List.replicate q 0) (by have h := HO2.out; rw [Nat.mul_one, show (madeCells (Value.int .u8 0).cells q).toList = List.replicate q (.int .u8 0) from toList_madeCells_one _ q, zeros_bv] at h; exact h))
    obtain ⟨g, hg⟩ : ∃ g, g = w1.heap.size := ⟨_, rfl⟩
    rw [← hg] at HR2 ⊢
    have HGG := hideIt (show w.heap.size ≤ g by rw [hg]; exact HB1.out.size)
    have HB2 := hideIt (HB1.out.trans (HG2.out.mono HB1.out.size))
    clear hg HO2 HG2 HB1 hcell HC0 hsz0 HC
    go_loopg [23] n (fun gg s23 wr => ∃ j : Nat, j + gg = n ∧ s23 = .int .i64 (j : Int) ∧ Aside (Below w.heap.size w wr ∧ BRow wr g (cmbK k cs us j)))
    case atStart => exact ⟨0, by omega, rfl, HB2.out, by rw [cmbK_zero, ← HQ.out]; exact HR2.out⟩
    case round =>
      obtain ⟨j, hj, rfl, HA⟩ := hrel
      by_cases hlt : j < n
      · have hju : j < us.length := by rw [← HNN.out]; exact hlt
        have hjc : j < cs.length := by rw [HN.out]; exact hju
        have hc1 := (HA.out.1.cell (p := ⟨bc, oc + j, none⟩) HBC.out).trans (HCC.out j hjc)
        have hc2 := (HA.out.1.cell (p := ⟨bu, ou + j, none⟩) HBU.out).trans (HCU.out j hju)
        have hnx := cmbK_next k cs us HN.out j hju
        have hlen := cmbK_len HM.out cs us HUL.out HWH.out j
        have hul := HUL.out us[j] (List.getElem_mem hju)
        have hvj := HV.out cs[j] (List.getElem_mem hjc)
        generalize cs[j] = c at *
        generalize us[j] = u at *
        obtain ⟨k2, x, hk2, rfl, _, hx⟩ := vd_spec hvj
        obtain rfl : k = k2 := by omega
        have hwu : whl k u := by unfold whl; rw [hul]; exact HWH.out
        have hsl := sc_len HM.out x u hwu
        rw [Int.toNat_natCast] at hnx
        have HP := hideIt (products_any k x u HM.out hx hwu (by rw [hul]; exact HLU.out) wr (HT.out.keep HA.out.1))
        have HAD := hideIt (fun W g2 c2 (h1 : BRow W g (cmbK k cs us j)) (h2 : BRow W g2 (sc k x u)) (h3 : g2 ≠ g) => addb_n q (cmbK k cs us j) (sc k x u) (hlen.trans HQ.out.symm) (hsl.trans (hul.trans HQ.out.symm)) (by rw [HQ.out]; exact HLU.out) g g2 q c2 W h1 h2 h3)
        rw [hul, ← HQ.out] at HP
        have HNX := hideIt hnx
        have hinc := inc_c 3 j (by have := HL.out; have := HN.out; have := HNN.out; omega)
        have hji : (j : Int) < (n : Int) := by omega
        generalize str u = su at *
        clear hnx hlen hul hwu hsl hx hju hjc hk2 hvj
        go_wp2_with (first
          | (go_at_call 65; refine HP.out.mono ?_; rintro e w3 ⟨g2, rfl, hg2, ho, hb⟩; have HO3 := hideIt (brow_of_own ho); have HB3 := hideIt hb; have HG2 := hideIt hg2; clear hg2 ho hb)
          | (go_at_call 64; refine (HAD.out w3 g2 q (HA.out.2.kept HB3.out HA.out.2.lt) HO3.out (by have := HA.out.2.lt; have := HG2.out; omega)).mono ?_; rintro e w4 ⟨rfl, hr, hk⟩; have HR4 := hideIt hr; have HK4 := hideIt hk; clear hr hk))
        go_roundg (gk - 1)
        case measure => omega
        case rel =>
          refine ⟨j + 1, by omega, by go_num, ?_, by rw [HNX.out]; exact HR4.out⟩
          have h5 := HA.out.1.trans (HB3.out.mono HA.out.1.size)
          exact h5.trans (HK4.out.below h5.size (fun kk hk he => by have := HGG.out; omega))
      · obtain rfl : j = n := by omega
        have hji : ¬ (j : Int) < (j : Int) := by omega
        have hcs := conv_bytes (P := Tryd.prog) (c := q) Tryd.underlying86 Tryd.underlying5 Tryd.underlying9 HA.out.2.sl
        rw [cmbK_len HM.out cs us HUL.out HWH.out j, ← HQ.out] at hcs
        change (convert 86 9 (.slice (some ⟨g, 0, none⟩) q q)).run Tryd.prog wr = .ok (.string (str (cmbK k cs us j))) wr at hcs
        rw [← HZ.out] at hcs
        go_wp2_with fail
        go_ret2
        exact ⟨rfl, HA.out.1⟩
  · rw [cbS, cbE, if_neg hg, if_neg hg]
    rw [decide_eq_false hg] at HC
    clear hg hT hc hu hl hlu
    generalize cs.length = n at *
    generalize us.length = k at *
    go_enter Tryd.func50, Tryd.ntmps50
    go_wp2_with (go_at_call 63; refine HC.out.mono ?_; rintro e w1 ⟨rfl, hb⟩; have HB := hideIt hb; clear hb)
    go_ret2
    exact ⟨rfl, HB.out⟩
end
end

section
section
open Go.RowKit Go.Shelf
set_option linter.unusedVariables false
theorem xr_take_next (a b : List UInt8) (h : a.length = b.length) (k : Nat) (hk : k < a.length) : (xr a b).take (k + 1) = (xr a b).take k ++ [a[k] ^^^ b[k]'(by omega)] := by
  rw [take_snoc (xr a b) k (by rw [xr_len a b h]; exact hk)]
  congr 2
  unfold xr
  rw [List.getElem_zipWith]
theorem conv_own {w : World} {base n c : Nat} {A : Option Addr} {l : List UInt8} (hl : l.length = n) (h : w.ownsRow base 5 1 (.slice A n c) n (l.map bv)) : (convert 86 9 (.slice A n c)).run Tryd.prog w = .ok (.string (str l)) w := by
  subst hl
  exact conv_bytes (P := Tryd.prog) (c := c) Tryd.underlying86 Tryd.underlying5 Tryd.underlying9 (Sl.of_own h)
set_option maxHeartbeats 1000000 in
set_option maxRecDepth 100000 in
theorem rxor_any (a b : List UInt8) (hl : a.length ≤ 100000) (w : World) :
    Calls Tryd.prog 67 #[.string (str a), .string (str b)] w fun e w' => e = .returned (.tuple #[.string (str (xrS a b)), .int .i64 (xrE a b)]) ∧ Below w.heap.size w w' := by
  have hsa := str_size a
  have hsb := str_size b
  by_cases h : a.length = b.length
  · rw [xrS, xrE, if_pos h, if_pos h]
    obtain ⟨i0, hi, hz0, hz1, hzb⟩ := info_parts (show (Tryd.prog.info? 5).map (fun i => (i.zero, i.size, i.bytes)) = some (some (Value.int .u8 0), 1, 1) by kernel_rfl)
    have hq := neqF 3 b.length
    have HIA := hideIt (fun i hi W => str_at (P := Tryd.prog) (T := 9) Tryd.underlying9 a i hi W)
    have HIB := hideIt (fun i hi W => str_at (P := Tryd.prog) (T := 9) Tryd.underlying9 b i hi W)
    have HLE := hideIt (xr_len a b h)
    have HH := hideIt h
    have HL := hideIt hl
    rw [h] at hsa
    obtain ⟨n, hn⟩ : ∃ n, n = b.length := ⟨_, rfl⟩
    rw [← hn] at hsa hsb hq
    have HN := hideIt hn
    clear h hl hn
    generalize str a = s at *
    generalize str b = t at *
    obtain ⟨z, hz⟩ : ∃ z, z = str (xr a b) := ⟨_, rfl⟩
    rw [← hz]
    have HZ := hideIt hz
    clear hz
    go_enter Tryd.func67, Tryd.ntmps67
    go_wp2_with fail
    go_loopg [6, 7] n (fun g s6 s7 wr => ∃ (k : Nat) (A : Option Addr) (c : Nat), g + k = n ∧ s6 = .slice A k c ∧ s7 = .int .i64 (k : Int) ∧
      Aside (wr.ownsRow w.heap.size 5 1 (.slice A k c) k (((xr a b).take k).map bv) ∧ Below w.heap.size w wr))
    case atStart => exact ⟨0, none, 0, rfl, rfl, rfl, World.ownsRow_nil _ _ _ _, Below.refl _ _⟩
    case round =>
      obtain ⟨k, A, c, hg, rfl, rfl, HA⟩ := hrel
      by_cases hk : k < n
      · have hka : k < a.length := by rw [HH.out, ← HN.out]; exact hk
        have hkb : k < b.length := by rw [← HN.out]; exact hk
        have HNX := hideIt (xr_take_next a b HH.out k hka)
        have hixa := fun W => HIA.out k hka W
        have hixb := fun W => HIB.out k hkb W
        have hxor := xor_c 5 a[k] b[k]
        have hinc := inc_c 3 k (by have := HL.out; omega)
        have hki : (k : Int) < (n : Int) := by omega
        have hk1 : k < 100000 := by have := HL.out; omega
        generalize a[k] = u at *
        generalize b[k] = v at *
        clear hka hkb
        generalize u ^^^ v = y at *
        go_wp2_with fail
        refine loads_begin_n 11 [] rfl (by kernel_rfl) ?_
        refine wpAnyL_move (oi := ⟨some 19, _, _, _, _, _⟩) 0 ?_ rfl (by kernel_rfl) (by kernel_rfl) (by kernel_rfl) (by kernel_rfl) (fun _ _ _ h => h) (by kernel_rfl) ?_ (Hooks.nil _ _) ?_
        rotate_left
        · intro W'; go_simp; first | done | with_reducible rfl
        try simp only [Act.put]
        try simp only [List.setIfInBounds_toArray]
        try simp only [List.set_cons_succ]
        try simp only [List.set_cons_zero]
        refine wpAnyL_move (oi := ⟨some 20, _, _, _, _, _⟩) 1 ?_ rfl (by kernel_rfl) (by kernel_rfl) (by kernel_rfl) (by kernel_rfl) (fun _ _ _ h => h) (by kernel_rfl) ?_ (Hooks.nil _ _) ?_
        rotate_left
        · intro W'; go_simp; first | done | with_reducible rfl
        try simp only [Act.put]
        try simp only [List.setIfInBounds_toArray]
        try simp only [List.set_cons_succ]
        try simp only [List.set_cons_zero]
        refine wpAnyL_move (oi := ⟨some 21, _, _, _, _, _⟩) 2 ?_ rfl (by kernel_rfl) (by kernel_rfl) (by kernel_rfl) (by kernel_rfl) (fun _ _ _ h => h) (by kernel_rfl) ?_ (Hooks.nil _ _) ?_
        rotate_left
        · intro W'; go_simp; first | done | with_reducible rfl
        try simp only [Act.put]
        try simp only [List.setIfInBounds_toArray]
        try simp only [List.set_cons_succ]
        try simp only [List.set_cons_zero]
        refine wpAnyL_move (oi := ⟨some 22, _, _, _, _, _⟩) 3 ?_ rfl (by kernel_rfl) (by kernel_rfl) (by kernel_rfl) (by kernel_rfl) (fun _ _ _ h => h) (by kernel_rfl) ?_ (Hooks.nil _ _) ?_
        rotate_left
        · intro W'; go_simp; first | done | with_reducible rfl
        try simp only [Act.put]
        try simp only [List.setIfInBounds_toArray]
        try simp only [List.set_cons_succ]
        try simp only [List.set_cons_zero]
        refine wpAnyL_move (oi := ⟨some 23, _, _, _, _, _⟩) 4 ?_ rfl (by kernel_rfl) (by kernel_rfl) (by kernel_rfl) (by kernel_rfl) (fun _ _ _ h => h) (by kernel_rfl) ?_ (Hooks.nil _ _) ?_
        rotate_left
        · intro W'; go_simp; first | done | with_reducible rfl
        try simp only [Act.put]
        try simp only [List.setIfInBounds_toArray]
        try simp only [List.set_cons_succ]
        try simp only [List.set_cons_zero]
        refine wpAnyL_move (oi := ⟨some 24, _, _, _, _, _⟩) 5 ?_ rfl (by kernel_rfl) (by kernel_rfl) (by kernel_rfl) (by kernel_rfl) (fun _ _ _ h => h) (by kernel_rfl) ?_ (Hooks.nil _ _) ?_
        rotate_left
        · intro W'; go_simp; first | done | with_reducible rfl
        try simp only [Act.put]
        try simp only [List.setIfInBounds_toArray]
        try simp only [List.set_cons_succ]
        try simp only [List.set_cons_zero]
        refine wpAnyL_move (oi := ⟨some 25, _, _, _, _, _⟩) 6 ?_ rfl (by kernel_rfl) (by kernel_rfl) (by kernel_rfl) (by kernel_rfl) (fun _ _ _ h => h) (by kernel_rfl) ?_ (Hooks.nil _ _) ?_
        rotate_left
        · intro W'; go_simp; first | done | with_reducible rfl
        try simp only [Act.put]
        try simp only [List.setIfInBounds_toArray]
        try simp only [List.set_cons_succ]
        try simp only [List.set_cons_zero]
        refine wpAnyL_move (oi := ⟨some 26, _, _, _, _, _⟩) 7 ?_ rfl (by kernel_rfl) (by kernel_rfl) (by kernel_rfl) (by kernel_rfl) (fun _ _ _ h => h) (by kernel_rfl) ?_ (Hooks.nil _ _) ?_
        rotate_left
        · intro W'; go_simp; first | done | with_reducible rfl
        try simp only [Act.put]
        try simp only [List.setIfInBounds_toArray]
        try simp only [List.set_cons_succ]
        try simp only [List.set_cons_zero]
        try simp only [Act.put]
        try simp only [List.setIfInBounds_toArray]
        try simp only [List.set_cons_succ]
        try simp only [List.set_cons_zero]
        obtain ⟨w2, hw2⟩ : ∃ W, W = wr.drew := ⟨_, rfl⟩
        have HO := hideIt (show w2.ownsRow w.heap.size 5 1 (.slice A k c) k (((xr a b).take k).map bv) by rw [hw2]; exact HA.out.1)
        have HB := hideIt (show Below w.heap.size w w2 by rw [hw2]; exact HA.out.2.drew)
        rw [← hw2]
        clear hw2
        refine wpAnyL_one (o := ⟨some 27, _, _, _, _, _⟩) 8 (by kernel_rfl) rfl (fun K hK => ?_)
        go_wp2_with fail
        refine hK _ _ (Hooks.nil _ _) ?_
        clear hK K
        refine wpAnyL_one (o := ⟨some 28, _, _, _, _, _⟩) 9 (by kernel_rfl) rfl (fun K hK => ?_)
        go_wp2_with ((with_reducible refine at_append ?_); refine wpList_app rfl (.tmp 19) (.tmp 27) 86 rfl w.heap.size 5 i0 (.int .u8 0) 1 1 Tryd.underlying86 hi hz0 hz1 hzb rfl (by decide) _ k (((xr a b).take k).map bv) rfl (own_kept HO.out (below_new w2 _)) _ _ 1 _ [bv y] rfl (sl_one w2 _ _) (ones_one rfl) (by unfold maxLen; omega) (by omega) (Nat.le_trans HB.out.size (below_new w2 _).size) ?_; intro v3 w3 ho3 hb3; have HO3 := own_is (n' := k + 1) (xs' := ((xr a b).take (k + 1)).map bv) ho3 rfl (by rw [HNX.out, List.map_append]; rfl); clear ho3; obtain ⟨A3, c3, rfl, q3, q4⟩ := own_form HO3.out; have HB3 := hideIt ((HB.out.trans ((below_new w2 _).mono HB.out.size)).trans hb3); clear hb3)
        refine hK _ _ (Hooks.nil _ _) ?_
        clear hK K
        refine loads_tail 10 (by kernel_rfl) (by kernel_rfl) (by kernel_rfl) (by kernel_rfl) ?_
        simp only [List.drop_succ_cons, List.drop_zero]
        go_wp2_with fail
        go_roundg (gk - 1)
        case measure => omega
        case rel => exact ⟨k + 1, A3, c3, by omega, rfl, by go_num, HO3.out, HB3.out⟩
      · have hki : ¬ (k : Int) < (n : Int) := by omega
        obtain rfl : k = n := by omega
        have hxl : (xr a b).length = k := by rw [HLE.out, HH.out, ← HN.out]
        have hcs := conv_own hxl (by have h := HA.out.1; rw [List.take_of_length_le (Nat.le_of_eq hxl)] at h; exact h)
        clear hxl
        rw [← HZ.out] at hcs
        clear hi hz0 hz1 hzb
        go_wp2_with fail
        go_ret2
        exact ⟨rfl, HA.out.2⟩
  · rw [xrS, xrE, if_neg h, if_neg h]
    have hq := neqT 3 h
    generalize str a = s at *
    generalize str b = t at *
    generalize a.length = n at *
    generalize b.length = k at *
    clear hl h
    go_enter Tryd.func67, Tryd.ntmps67
    go_wp2_with fail
    go_ret2
    exact ⟨rfl, Below.refl _ _⟩
theorem sl_two (w : World) (t : TypeId) (u v : Value) : Sl (w.alloc (.cells #[u, v] t)) (w.heap.size + 1) (some ⟨w.heap.size, 0, none⟩) 1 2 [u, v] :=
  ⟨rfl, fun _ => ⟨w.heap.size, 0, rfl, Nat.lt_succ_self _, fun j x hj => by rw [show (w.alloc (.cells #[u, v] t)).cell? ⟨w.heap.size, 0 + j, none⟩ = [u, v][0 + j]? from (Blk.new w t [u, v]).cell _, Nat.zero_add]; exact hj⟩⟩
theorem ones_two {u v : Value} (h : u.oneCell' = true) (h2 : v.oneCell' = true) : ∀ x ∈ [u, v], x.oneCell' = true := fun x hx => by
  rcases List.mem_cons.1 hx with rfl | hx
  · exact h
  · rw [List.mem_singleton] at hx; subst hx; exact h2
theorem ofNat_mod (p : Nat) : UInt8.ofNat (p % 256) = UInt8.ofNat p := by
  apply UInt8.toNat_inj.1
  rw [UInt8.toNat_ofNat', UInt8.toNat_ofNat']
  omega
theorem sc8_next (c : Nat) (l : List UInt8) (k : Nat) (hk : k < l.length) : (sc 8 c l).take (k + 1) = (sc 8 c l).take k ++ [UInt8.ofNat (mul 8 l[k].toNat c)] := by
  rw [sc8_eq, take_snoc _ k (by rw [List.length_map]; exact hk), List.getElem_map]
theorem sc16_next (c : Nat) (l : List UInt8) (h : whl 16 l) : ∀ j u v, l[2 * j]? = some u → l[2 * j + 1]? = some v → (sc 16 c l).take (2 * j + 2) = (sc 16 c l).take (2 * j) ++ [UInt8.ofNat (mul 16 (256 * u.toNat + v.toNat) c / 256), UInt8.ofNat (mul 16 (256 * u.toNat + v.toNat) c)] := by
  revert h
  refine pairs (P := fun l => ∀ j u v, l[2 * j]? = some u → l[2 * j + 1]? = some v → (sc 16 c l).take (2 * j + 2) = (sc 16 c l).take (2 * j) ++ [UInt8.ofNat (mul 16 (256 * u.toNat + v.toNat) c / 256), UInt8.ofNat (mul 16 (256 * u.toNat + v.toNat) c)]) ?_ ?_ l
  · intro j x y hx _
    simp at hx
  · intro u v l _ ih j x y hx hy
    cases j with
    | zero =>
      simp only [Nat.mul_zero, Nat.zero_add, List.getElem?_cons_zero, List.getElem?_cons_succ, Option.some.injEq] at hx hy
      rw [sc16_cons, hx, hy]
      rfl
    | succ j =>
      rw [show 2 * (j + 1) = 2 * j + 1 + 1 by omega, List.getElem?_cons_succ, List.getElem?_cons_succ] at hx
      rw [show 2 * (j + 1) + 1 = 2 * j + 1 + 1 + 1 by omega, List.getElem?_cons_succ, List.getElem?_cons_succ] at hy
      have h2 := ih j x y hx hy
      rw [sc16_cons, show 2 * (j + 1) + 2 = 2 * j + 2 + 1 + 1 by omega, show 2 * (j + 1) = 2 * j + 1 + 1 by omega, List.take_succ_cons, List.take_succ_cons, List.take_succ_cons, List.take_succ_cons, h2]
      rfl
theorem rem2_one (t : TypeId) (n : Nat) (h : n % 2 = 1) : binOp .rem t (.int .i64 (n : Int)) (.int .i64 2) = pure (.int .i64 1) := by
  have := nrem t n 2 (by decide)
  rw [h] at this
  exact this
theorem rem2_zero (t : TypeId) (n : Nat) (h : n % 2 = 0) : binOp .rem t (.int .i64 (n : Int)) (.int .i64 2) = pure (.int .i64 0) := by
  have := nrem t n 2 (by decide)
  rw [h] at this
  exact this
set_option maxHeartbeats 1000000 in
set_option maxRecDepth 100000 in
theorem rscale8 (c : Nat) (l : List UInt8) (hc : c < 2 ^ 8) (hl : l.length ≤ 100000) (w : World) :
    Calls Tryd.prog 66 #[.int .i64 8, .int .i64 (c : Int), .string (str l)] w fun e w' => e = .returned (.tuple #[.string (str (sc 8 c l)), .int .i64 0]) ∧ Below w.heap.size w w' := by
  have hm : Fm 8 := Or.inl rfl
  have HV : Hid (∀ W, Calls Tryd.prog 52 #[.int .i64 8, .int .i64 (c : Int)] W fun e w' => e = .returned (.bool true) ∧ W = w') := hideIt (fun W => by
    have h := rvalid_any 8 c W
    rw [show vd 8 c = true from vd_true hm hc] at h
    exact h)
  obtain ⟨i0, hi, hz0, hz1, hzb⟩ := info_parts (show (Tryd.prog.info? 5).map (fun i => (i.zero, i.size, i.bytes)) = some (some (Value.int .u8 0), 1, 1) by kernel_rfl)
  have hsz := str_size l
  have HIX := hideIt (fun i hi W => str_at (P := Tryd.prog) (T := 9) Tryd.underlying9 l i hi W)
  have hquo : binOp .quo 3 (.int .i64 8) (.int .i64 8) = pure (.int .i64 1) := nquo 3 8 8 (by decide) (by decide)
  have HTI : Hid (∀ (u : UInt8) (W : World), Calls Tryd.prog 79 #[.int .i64 8, .int .i64 (c : Int), .int .i64 ((u.toNat : Nat) : Int)] W fun e w' => e = .returned (.int .i64 ((mul 8 u.toNat c : Nat) : Int)) ∧ W = w') := hideIt (fun u W => by
    have h := tim_any 8 c u.toNat hm hc u.toNat_lt W
    rw [mul_comm hm hc u.toNat_lt] at h
    exact h)
  have HSL := hideIt (sc_len hm c l (whl8 l))
  have HL := hideIt hl
  obtain ⟨n, hn⟩ : ∃ n, n = l.length := ⟨_, rfl⟩
  rw [← hn] at hsz
  have HN := hideIt hn
  generalize str l = s at *
  obtain ⟨z, hz⟩ : ∃ z, z = str (sc 8 c l) := ⟨_, rfl⟩
  rw [← hz]
  have HZ := hideIt hz
  clear hz hn hl hc hm
  go_enter Tryd.func66, Tryd.ntmps66
  go_wp2_with (go_at_call 52; refine (HV.out _).mono ?_; rintro e w' ⟨rfl, rfl⟩)
  clear HV
  go_loopg [9, 10] n (fun g s9 s10 wr => ∃ (k : Nat) (A : Option Addr) (ca : Nat), g + k = n ∧ s9 = .slice A k ca ∧ s10 = .int .i64 (k : Int) ∧
    Aside (wr.ownsRow w.heap.size 5 1 (.slice A k ca) k (((sc 8 c l).take k).map bv) ∧ Below w.heap.size w wr))
  case atStart => exact ⟨0, none, 0, rfl, rfl, rfl, World.ownsRow_nil _ _ _ _, Below.refl _ _⟩
  case round =>
    obtain ⟨k, A, ca, hg, rfl, rfl, HA⟩ := hrel
    by_cases hk : k < n
    · have hkl : k < l.length := by rw [← HN.out]; exact hk
      have HNX := hideIt (sc8_next c l k hkl)
      have hix := fun W => HIX.out k hkl W
      have hinc := inc_c 3 k (by have := HL.out; omega)
      have hki : (k : Int) < (n : Int) := by omega
      have hk1 : k < 100000 := by have := HL.out; omega
      generalize l[k] = u at *
      have hcv := fun W => conv_u8 u W
      have hcq := fun W => conv_byte (mul 8 u.toNat c) W
      have HT1 := hideIt (HTI.out u)
      clear hkl
      generalize mul 8 u.toNat c = q at *
      generalize u.toNat = un at *
      generalize UInt8.ofNat q = y at *
      go_wp2_with (first
        | (go_at_call 79; refine (HT1.out _).mono ?_; rintro e w' ⟨rfl, rfl⟩)
        | ((with_reducible refine at_append ?_); refine wpList_app rfl (.tmp 37) (.tmp 46) 86 rfl w.heap.size 5 i0 (.int .u8 0) 1 1 Tryd.underlying86 hi hz0 hz1 hzb rfl (by decide) _ k (((sc 8 c l).take k).map bv) rfl (own_kept HA.out.1 (below_new wr _)) _ _ 1 _ [bv y] rfl (sl_one wr _ _) (ones_one rfl) (by unfold maxLen; omega) (by omega) (Nat.le_trans HA.out.2.size (below_new wr _).size) ?_; intro v3 w3 ho3 hb3; have HO3 := own_is (n' := k + 1) (xs' := ((sc 8 c l).take (k + 1)).map bv) ho3 rfl (by rw [HNX.out, List.map_append]; rfl); clear ho3; obtain ⟨A3, c3, rfl, q3, q4⟩ := own_form HO3.out; have HB3 := hideIt ((HA.out.2.trans ((below_new wr _).mono HA.out.2.size)).trans hb3); clear hb3))
      go_roundg (gk - 1)
      case measure => omega
      case rel => exact ⟨k + 1, A3, c3, by omega, rfl, by go_num, HO3.out, HB3.out⟩
    · have hki : ¬ (k : Int) < (n : Int) := by omega
      obtain rfl : k = n := by omega
      have hxl : (sc 8 c l).length = k := by rw [HSL.out, ← HN.out]
      have hcs := conv_own hxl (by have h := HA.out.1; rw [List.take_of_length_le (Nat.le_of_eq hxl)] at h; exact h)
      rw [← HZ.out] at hcs
      clear hxl hi hz0 hz1 hzb
      go_wp2_with fail
      go_ret2
      exact ⟨rfl, HA.out.2⟩
set_option maxHeartbeats 1000000 in
set_option maxRecDepth 100000 in
theorem rscale16 (c : Nat) (l : List UInt8) (hc : c < 2 ^ 16) (hw : l.length % 2 = 0) (hl : l.length ≤ 100000) (w : World) :
    Calls Tryd.prog 66 #[.int .i64 16, .int .i64 (c : Int), .string (str l)] w fun e w' => e = .returned (.tuple #[.string (str (sc 16 c l)), .int .i64 0]) ∧ Below w.heap.size w w' := by
  have hm : Fm 16 := Or.inr rfl
  have hwh : whl 16 l := hw
  have HV : Hid (∀ W, Calls Tryd.prog 52 #[.int .i64 16, .int .i64 (c : Int)] W fun e w' => e = .returned (.bool true) ∧ W = w') := hideIt (fun W => by
    have h := rvalid_any 16 c W
    rw [show vd 16 c = true from vd_true hm hc] at h
    exact h)
  obtain ⟨i0, hi, hz0, hz1, hzb⟩ := info_parts (show (Tryd.prog.info? 5).map (fun i => (i.zero, i.size, i.bytes)) = some (some (Value.int .u8 0), 1, 1) by kernel_rfl)
  have hsz := str_size l
  have hr2 := rem2_zero 3 l.length hw
  have HIX := hideIt (fun i hi W => str_at (P := Tryd.prog) (T := 9) Tryd.underlying9 l i hi W)
  have hquo : binOp .quo 3 (.int .i64 16) (.int .i64 8) = pure (.int .i64 2) := nquo 3 16 8 (by decide) (by decide)
  have HTI : Hid (∀ (u v : UInt8) (W : World), Calls Tryd.prog 79 #[.int .i64 16, .int .i64 (c : Int), .int .i64 ((256 * u.toNat + v.toNat : Nat) : Int)] W fun e w' => e = .returned (.int .i64 ((mul 16 (256 * u.toNat + v.toNat) c : Nat) : Int)) ∧ W = w') := hideIt (fun u v W => by
    have h := tim_any 16 c (256 * u.toNat + v.toNat) hm hc (sym_lt u v) W
    rw [mul_comm hm hc (sym_lt u v)] at h
    exact h)
  have HPL := hideIt (fun (u v : UInt8) => mul_lt hm c (sym_lt u v))
  have HSL := hideIt (sc_len hm c l hwh)
  have HNXT := hideIt (sc16_next c l hwh)
  have HL := hideIt hl
  have HE2 := hideIt hw
  obtain ⟨n, hn⟩ : ∃ n, n = l.length := ⟨_, rfl⟩
  rw [← hn] at hsz hr2
  have HN := hideIt hn
  generalize str l = s at *
  obtain ⟨z, hz⟩ : ∃ z, z = str (sc 16 c l) := ⟨_, rfl⟩
  rw [← hz]
  have HZ := hideIt hz
  clear hz hn hl hc hm hw hwh
  go_enter Tryd.func66, Tryd.ntmps66
  go_wp2_with (go_at_call 52; refine (HV.out _).mono ?_; rintro e w' ⟨rfl, rfl⟩)
  clear HV hr2
  go_loopg [9, 10] n (fun g s9 s10 wr => ∃ (k j : Nat) (A : Option Addr) (ca : Nat), g + k = n ∧ k = 2 * j ∧ s9 = .slice A k ca ∧ s10 = .int .i64 (k : Int) ∧
    Aside (wr.ownsRow w.heap.size 5 1 (.slice A k ca) k (((sc 16 c l).take k).map bv) ∧ Below w.heap.size w wr))
  case atStart => exact ⟨0, 0, none, 0, rfl, rfl, rfl, rfl, World.ownsRow_nil _ _ _ _, Below.refl _ _⟩
  case round =>
    obtain ⟨k, j, A, ca, hg, hkj, rfl, rfl, HA⟩ := hrel
    by_cases hk : k < n
    · have hkl : k < l.length := by rw [← HN.out]; exact hk
      have hkl1 : k + 1 < l.length := by have := HE2.out; omega
      have hnx := HNXT.out j l[k] l[k + 1] (by rw [← hkj]; exact List.getElem?_eq_getElem hkl) (by rw [← hkj]; exact List.getElem?_eq_getElem hkl1)
      rw [← hkj] at hnx
      have hix0 := fun W => HIX.out k hkl W
      have hix1 := fun W => HIX.out (k + 1) hkl1 W
      have hinc := inc_c 3 k (by have := HL.out; omega)
      have hadd2 : binOp .add 3 (.int .i64 (k : Int)) (.int .i64 2) = pure (.int .i64 ((k + 2 : Nat) : Int)) := nadd 3 k 2 (by have := HL.out; omega)
      have hki : (k : Int) < (n : Int) := by omega
      have hki1 : ((k + 1 : Nat) : Int) < (n : Int) := by rw [HN.out]; omega
      have hk1 : k < 100000 := by have := HL.out; omega
      have HJ := hideIt (show k + 2 = 2 * (j + 1) ∧ k + 2 ≤ n by rw [HN.out]; omega)
      generalize l[k] = u at *
      generalize l[k + 1] = v at *
      have hcv0 := fun W => conv_u8 u W
      have hcv1 := fun W => conv_u8 v W
      have hmul : binOp .mul 3 (.int .i64 256) (.int .i64 ((u.toNat : Nat) : Int)) = pure (.int .i64 ((256 * u.toNat : Nat) : Int)) := nmul 3 256 u.toNat (by have := u.toNat_lt; omega)
      have hadd := nadd 3 (256 * u.toNat) v.toNat (by have := u.toNat_lt; have := v.toNat_lt; omega)
      have HT1 := hideIt (HTI.out u v)
      have hpl := HPL.out u v
      generalize 256 * u.toNat + v.toNat = sy1 at *
      generalize 256 * u.toNat = u256 at *
      obtain ⟨q, hq⟩ : ∃ q, q = mul 16 sy1 c := ⟨_, rfl⟩
      rw [← hq] at hnx HT1 hpl
      have hqu : binOp .quo 3 (.int .i64 (q : Int)) (.int .i64 256) = pure (.int .i64 ((q / 256 : Nat) : Int)) := nquo 3 q 256 (by decide) (by omega)
      have hqr : binOp .rem 3 (.int .i64 (q : Int)) (.int .i64 256) = pure (.int .i64 ((q % 256 : Nat) : Int)) := nrem 3 q 256 (by decide)
      have hcq0 := fun W => conv_byte (q / 256) W
      have hcq1 := fun W => conv_byte (q % 256) W
      rw [ofNat_mod] at hcq1
      have HNX := hideIt hnx
      clear hkl hkl1 hnx hpl hq hkj
      generalize u.toNat = un at *
      generalize v.toNat = vn at *
      generalize UInt8.ofNat (q / 256) = y1 at *
      generalize UInt8.ofNat q = y2 at *
      generalize q / 256 = q1 at *
      generalize q % 256 = q2 at *
      generalize hk11 : k + 1 = k1 at *
      clear hk11
      go_wp2_with fail
      go_quiet ((go_at_call 79; refine (HT1.out _).mono ?_; rintro e w' ⟨rfl, hw⟩; exact ⟨rfl, _, hw.symm⟩))
      obtain ⟨w2, hw2⟩ : ∃ W, W = wr.drewN nq := ⟨_, rfl⟩
      rw [← hw2]
      have HB := hideIt (show Below w.heap.size w w2 by rw [hw2]; exact below_drewN HA.out.2 _)
      have HO := hideIt (show w2.ownsRow w.heap.size 5 1 (.slice A k ca) k (((sc 16 c l).take k).map bv) by rw [hw2]; exact own_kept HA.out.1 (below_drewN (Below.refl _ _) _))
      clear hw2
      go_wp2_with ((with_reducible refine at_append ?_); refine wpList_app rfl (.tmp 62) (.tmp 69) 86 rfl w.heap.size 5 i0 (.int .u8 0) 1 1 Tryd.underlying86 hi hz0 hz1 hzb rfl (by decide) _ k (((sc 16 c l).take k).map bv) rfl (own_kept HO.out (below_new w2 _)) _ _ 2 _ [bv y1, bv y2] rfl (sl_two w2 _ _ _) (ones_two rfl rfl) (by unfold maxLen; omega) (by omega) (Nat.le_trans HB.out.size (below_new w2 _).size) ?_; intro v3 w3 ho3 hb3; have HO3 := own_is (n' := k + 2) (xs' := ((sc 16 c l).take (k + 2)).map bv) ho3 rfl (by rw [HNX.out, List.map_append]; rfl); clear ho3; obtain ⟨A3, c3, rfl, q3, q4⟩ := own_form HO3.out; have HB3 := hideIt ((HB.out.trans ((below_new w2 _).mono HB.out.size)).trans hb3); clear hb3)
      go_roundg (gk - 2)
      case measure => omega
      case rel => exact ⟨k + 2, j + 1, A3, c3, by have := HJ.out.2; omega, HJ.out.1, rfl, by go_num, HO3.out, HB3.out⟩
    · clear hkj
      have hki : ¬ (k : Int) < (n : Int) := by omega
      obtain rfl : k = n := by omega
      have hxl : (sc 16 c l).length = k := by rw [HSL.out, ← HN.out]
      have hcs := conv_own hxl (by have h := HA.out.1; rw [List.take_of_length_le (Nat.le_of_eq hxl)] at h; exact h)
      rw [← HZ.out] at hcs
      clear hxl hi hz0 hz1 hzb
      go_wp2_with fail
      go_ret2
      exact ⟨rfl, HA.out.2⟩
end
section
open Go.RowKit Go.Shelf
set_option linter.unusedVariables false
/-- A region that draws its order, and whose callees leave what lies below B as it was: one walk. -/
theorem wp_region_quiet_below {P : Program} {id : Nat} {Q : Exit → Act → World → Prop} {a : Act} {w w0 : World} {B : Nat} {l : List Oper} (hm : P.follows .mixedOrders = true) (hB : Region.lexB .any l.toArray = true) (hC : Below B w0 w)
    (h : wpQuiet P l.toArray (fun w' => Below B w0 w') (fun a' => ∀ w', Below B w0 w' → Q .normal a' w') l a) : (Code.region id l.toArray true).wp P Q a w :=
  wp_region_quiet (C := fun w' => Below B w0 w') hm hB hC.drew (by simpa using h)
theorem quiet_run {P : Program} {o : Oper} {a : Act} {C : World → Prop} {K : Act → Prop} (v : Value) (h : ∀ W, C W → (execOp a.eval o).run P W = .ok (.value v) W) (hk : K (a.put o.dst v)) : o.quiet P a C K :=
  ⟨v, fun W hW => by unfold Oper.quietAt; rw [h W hW]; exact ⟨rfl, rfl⟩, hk⟩
set_option maxHeartbeats 400000 in
theorem rscale_any (m c : Int) (l : List UInt8) (hl : l.length ≤ 100000) (w : World) :
    Calls Tryd.prog 66 #[.int .i64 m, .int .i64 c, .string (str l)] w fun e w' => e = .returned (.tuple #[.string (str (scR m c l)), .int .i64 (scE m c l)]) ∧ Below w.heap.size w w' := by
  by_cases hv : vd m c = true
  · obtain ⟨k, x, rfl, rfl, hm, hx⟩ := vd_spec hv
    by_cases hw : l.length % (k / 8) = 0
    · rw [scR, scE, if_pos ⟨hv, hw⟩, if_pos ⟨hv, hw⟩, Int.toNat_natCast, Int.toNat_natCast]
      rcases hm with rfl | rfl
      · exact rscale8 x l hx hl w
      · exact rscale16 x l hx hw hl w
    · rw [scR, scE, if_neg (fun h => hw h.2), if_neg (fun h => hw h.2)]
      have HV := hideIt (fun W => rvalid_any k x W)
      rw [hv] at HV
      have hsz := str_size l
      rcases hm with rfl | rfl
      · omega
      · have hr2 := rem2_one 3 l.length (by omega)
        clear hv hw hx hl
        generalize str l = s at *
        generalize l.length = n at *
        change Hid (∀ W, Calls Tryd.prog 52 #[.int .i64 16, .int .i64 (x : Int)] W fun e w' => e = .returned (.bool true) ∧ W = w') at HV
        show Calls Tryd.prog 66 #[.int .i64 16, .int .i64 (x : Int), .string s] w _
        go_enter Tryd.func66, Tryd.ntmps66
        go_wp2_with (go_at_call 52; refine (HV.out _).mono ?_; rintro e w' ⟨rfl, rfl⟩)
        go_ret2
        exact ⟨rfl, Below.refl _ _⟩
  · rw [scR, scE, if_neg (fun h => hv h.1), if_neg (fun h => hv h.1)]
    have HV := hideIt (fun W => rvalid_any m c W)
    rw [Bool.eq_false_iff.2 hv] at HV
    clear hv hl
    generalize str l = s at *
    go_enter Tryd.func66, Tryd.ntmps66
    go_wp2_with (go_at_call 52; refine (HV.out _).mono ?_; rintro e w' ⟨rfl, rfl⟩)
    go_ret2
    exact ⟨rfl, Below.refl _ _⟩
/-- Are the first j coefficients and units good? -/
def GdK (m : Int) (cs : List Int) (us : List (List UInt8)) (j : Nat) : Prop := (∀ c ∈ cs.take j, vd m c = true) ∧ (∀ u ∈ us.take j, u.length = ul us) ∧ (0 < j → ul us % (m.toNat / 8) = 0)
theorem prs_mem (cs : List Int) (us : List (List UInt8)) (j : Nat) (p : Nat × List UInt8) (h : p ∈ (prs cs us).take j) : p.2 ∈ us.take j := by
  unfold prs at h
  rw [List.zip, List.take_zipWith] at h
  exact (List.of_mem_zip (show (p.1, p.2) ∈ ((cs.map Int.toNat).take j).zip (us.take j) from h)).2
theorem cmbK_lenK {m : Int} (cs : List Int) (us : List (List UInt8)) (h : cs.length = us.length) (j : Nat) (hj : j ≤ us.length) (hg : GdK m cs us j) : (cmbK m.toNat cs us j).length = ul us := by
  rcases Nat.eq_zero_or_pos j with rfl | h0
  · rw [cmbK_zero, List.length_replicate]
  · have hc : cs[0]'(by omega) ∈ cs.take j := by
      have h3 := List.getElem_mem (l := cs.take j) (n := 0) (by rw [List.length_take]; omega)
      rwa [List.getElem_take] at h3
    obtain ⟨k, x, rfl, _, hm, _⟩ := vd_spec (hg.1 _ hc)
    unfold cmbK
    rw [Int.toNat_natCast]
    have hw := hg.2.2 h0
    rw [Int.toNat_natCast] at hw
    rw [cmb_len hm _ _ (by unfold whl; rw [List.length_replicate]; exact hw) (fun p hp => by
      rw [List.length_replicate]
      exact hg.2.1 p.2 (prs_mem cs us j p hp)), List.length_replicate]
theorem GdK_next {m : Int} {cs : List Int} {us : List (List UInt8)} {j : Nat} (hg : GdK m cs us j) (h1 : j < cs.length) (h2 : j < us.length) (hv : vd m cs[j] = true) (hl : us[j].length = ul us) (hw : us[j].length % (m.toNat / 8) = 0) : GdK m cs us (j + 1) := by
  refine ⟨?_, ?_, fun _ => by rw [← hl]; exact hw⟩
  · rw [take_snoc cs j h1]
    intro c hc
    rcases List.mem_append.1 hc with h | h
    · exact hg.1 c h
    · rw [List.mem_singleton] at h; rw [h]; exact hv
  · rw [take_snoc us j h2]
    intro c hc
    rcases List.mem_append.1 hc with h | h
    · exact hg.2.1 c h
    · rw [List.mem_singleton] at h; rw [h]; exact hl
theorem GdK_all {m : Int} {cs : List Int} {us : List (List UInt8)} (h : cs.length = us.length) (h0 : 0 < us.length) (hg : GdK m cs us us.length) : Gd m cs us := by
  obtain ⟨a, b, c⟩ := hg
  rw [List.take_of_length_le (by omega)] at a
  rw [List.take_of_length_le (by omega)] at b
  exact ⟨by omega, h, a, b, c h0⟩
set_option maxHeartbeats 1000000 in
set_option maxRecDepth 100000 in
theorem rcombine_any (m : Int) (A : Option Addr) (ca : Nat) (cs : List Int) (D : Option Addr) (cd : Nat) (us : List (List UInt8)) (w : World) (hl : cs.length ≤ 100000) (hlu : ∀ u ∈ us, u.length ≤ 100000)
    (hc : Sl w w.heap.size A 1 cs.length (cs.map iv)) (hu : Sl w w.heap.size D 1 us.length (us.map sv)) :
    Calls Tryd.prog 51 #[.int .i64 m, .slice A cs.length ca, .slice D us.length cd] w fun e w' => e = .returned (.tuple #[.string (str (cbS m cs us)), .int .i64 (cbE m cs us)]) ∧ Below w.heap.size w w' := by
  by_cases h0 : cs.length = 0
  · rw [cbS, cbE, if_neg (fun h => by have := h.1; omega), if_neg (fun h => by have := h.1; omega)]
    have hq := int_eqlT 3 (a := (cs.length : Int)) (b := 0) (by omega)
    clear hc hu hl hlu h0
    generalize cs.length = n at *
    generalize us.length = k at *
    go_enter Tryd.func51, Tryd.ntmps51
    go_wp2_with fail
    go_ret2
    exact ⟨rfl, Below.refl _ _⟩
  have hq := int_eqlF 3 (a := (cs.length : Int)) (b := 0) (by omega)
  by_cases h1 : cs.length = us.length
  · have hq2 := neqF 3 us.length
    have h2 : 0 < us.length := by omega
    obtain ⟨bc, oc, rfl, hbc, hcc⟩ := hc.nums (by omega)
    obtain ⟨bu, ou, rfl, hbu, hcu⟩ := hu.strs h2
    rw [h1] at hq hl ⊢
    obtain ⟨i0, hi, hz0, hz1, hz2⟩ := info_parts (show (Tryd.prog.info? 5).map (fun i => (i.zero, i.size, i.bytes)) = some (some (Value.int .u8 0), 1, 1) by kernel_rfl)
    have HI0 := hideIt hi
    have HZ0 := hideIt hz0
    have HZ1 := hideIt hz1
    have HZ2 := hideIt hz2
    have HCC := hideIt hcc
    have HCU := hideIt hcu
    have HBC := hideIt hbc
    have HBU := hideIt hbu
    have HN := hideIt h1
    have HL := hideIt hl
    have HLU := hideIt hlu
    have hcell : w.cell? ⟨bu, ou, none⟩ = some (.string (str us[0])) := hcu 0 h2
    have hsz0 := str_size us[0]
    rw [ul_zero us h2] at hsz0
    have HQ1 := hideIt (show ul us ≤ 100000 by rw [← ul_zero us h2]; exact hlu _ (List.getElem_mem h2))
    generalize str us[0] = s0 at *
    obtain ⟨n, hn⟩ : ∃ n, n = us.length := ⟨_, rfl⟩
    have hn0 : (0 : Int) < (n : Int) := by omega
    rw [← hn] at hq hq2 ⊢
    have HNN := hideIt hn
    obtain ⟨q, hq3⟩ : ∃ q, q = ul us := ⟨_, rfl⟩
    rw [← hq3] at hsz0
    have HQ := hideIt hq3
    obtain ⟨z, hz⟩ : ∃ z, z = str (cbS m cs us) := ⟨_, rfl⟩
    obtain ⟨ze, hze⟩ : ∃ ze, ze = cbE m cs us := ⟨_, rfl⟩
    rw [← hz, ← hze]
    have HBAD := hideIt (show ¬ Gd m cs us → z = str [] ∧ ze = 1 from fun h => by rw [hz, hze, cbS, cbE, if_neg h, if_neg h]; exact ⟨rfl, rfl⟩)
    have HGOOD := hideIt (show Gd m cs us → z = str (cmbK m.toNat cs us n) ∧ ze = 0 from fun h => by rw [hz, hze, cbS, cbE, if_pos h, if_pos h, hn]; exact ⟨rfl, rfl⟩)
    clear hz hze hcc hcu hbc hbu h1 hl hlu hn h2 hc hu h0 hi hz0 hz1 hz2 hq3
    go_enter Tryd.func51, Tryd.ntmps51
    go_wp2_with ((with_reducible refine at_make ?_); refine wpList_make_full w rfl (.tmp 27) (.tmp 27) 86 rfl w.heap.size 5 i0 (.int .u8 0) 1 Tryd.underlying86 HI0.out HZ0.out HZ1.out .i64 .i64 (q : Int) (q : Int) q rfl rfl rfl rfl (by rw [HZ2.out]; have := HQ1.out; have := HQ.out; omega) (by have := HQ1.out; have := HQ.out; unfold maxLen; omega) (Nat.le_refl _) ?_; intro w2 hown2 hgr2; rw [Nat.mul_one, show (madeCells (Value.int .u8 0).cells q).toList = List.replicate q (.int .u8 0) from toList_madeCells_one _ q, zeros_bv] at hown2; have HB2 := hideIt ((Below.refl w.heap.size w).grown hgr2 (Nat.le_refl _) (by simp)); have hcs := conv_own (by rw [List.length_replicate]) hown2; clear hown2 hgr2)
    clear hcell hsz0 hcs
    go_loopg [8, 9] n (fun gg s8 s9 wr => ∃ j : Nat, j + gg = n ∧ s8 = .string (str (cmbK m.toNat cs us j)) ∧ s9 = .int .i64 (j : Int) ∧ Aside (Below w.heap.size w wr ∧ GdK m cs us j))
    case atStart => exact ⟨0, by omega, by rw [cmbK_zero, ← HQ.out], rfl, HB2.out, by simp, by simp, fun h => by omega⟩
    case round =>
      obtain ⟨j, hj, rfl, rfl, HA⟩ := hrel
      by_cases hlt : j < n
      · have hju : j < us.length := by rw [← HNN.out]; exact hlt
        have hjc : j < cs.length := by rw [HN.out]; exact hju
        have HC1 := hideIt (show ∀ W, Below wr.heap.size wr W → W.cell? ⟨bc, oc + j, none⟩ = some (.int .i64 cs[j]) from fun W hW => ((HA.out.1.trans (hW.mono HA.out.1.size)).cell (p := ⟨bc, oc + j, none⟩) HBC.out).trans (HCC.out j hjc))
        have HC2 := hideIt (show ∀ W, Below wr.heap.size wr W → W.cell? ⟨bu, ou + j, none⟩ = some (.string (str us[j])) from fun W hW => ((HA.out.1.trans (hW.mono HA.out.1.size)).cell (p := ⟨bu, ou + j, none⟩) HBU.out).trans (HCU.out j hju))
        have hnx := cmbK_next m.toNat cs us HN.out j hju
        have hlen := cmbK_lenK cs us HN.out j (by omega) HA.out.2
        have hlu := HLU.out us[j] (List.getElem_mem hju)
        have HS := hideIt (fun W (hW : Below wr.heap.size wr W) => rscale_any m cs[j] us[j] hlu W)
        have HX := hideIt (fun W => rxor_any (cmbK m.toNat cs us j) (scR m cs[j] us[j]) (by rw [hlen]; exact HQ1.out) W)
        have hinc := inc_c 3 j (by have := HL.out; have := HNN.out; omega)
        have hji : (j : Int) < (n : Int) := by omega
        by_cases hok : vd m cs[j] = true ∧ us[j].length % (m.toNat / 8) = 0
        · rw [scR, scE, if_pos hok, if_pos hok] at HS
          rw [scR, if_pos hok] at HX
          have hsl : (sc m.toNat cs[j].toNat us[j]).length = us[j].length := by
            obtain ⟨k, x, hk, _, hm, _⟩ := vd_spec hok.1
            rw [hk, Int.toNat_natCast] at hok ⊢
            exact sc_len hm _ _ hok.2
          by_cases hle : us[j].length = ul us
          · rw [xrS, xrE, if_pos (by rw [hlen, hsl, hle]), if_pos (by rw [hlen, hsl, hle]), ← hnx] at HX
            have HG := hideIt (GdK_next HA.out.2 hjc hju hok.1 hle hok.2)
            clear hsl hok hle hnx hlen hlu
            obtain ⟨o2, ho2⟩ : ∃ o2, o2 = str (cmbK m.toNat cs us (j + 1)) := ⟨_, rfl⟩
            rw [← ho2] at HX
            have HO2 := hideIt ho2
            clear ho2
            generalize str (sc m.toNat cs[j].toNat us[j]) = x at *
            generalize str (cmbK m.toNat cs us j) = o1 at *
            generalize str us[j] = su at *
            generalize cs[j] = c at *
            clear hju hjc
            go_wp2_with fail
            refine wp_region_quiet_below (by kernel_rfl) (by kernel_rfl) (Below.refl wr.heap.size wr) ?_
            try simp only [Act.put]
            try simp only [List.setIfInBounds_toArray]
            try simp only [List.set_cons_succ]
            try simp only [List.set_cons_zero]
            go_big_quiet_step ((first | (intro _; rfl) | (intro _; exact ⟨rfl, rfl⟩)))
            go_big_quiet_step ((first | (intro _; rfl) | (intro _; exact ⟨rfl, rfl⟩)))
            go_big_quiet_step ((first | (intro _; rfl) | (intro _; exact ⟨rfl, rfl⟩)))
            go_big_quiet_step ((first | (intro _; rfl) | (intro _; exact ⟨rfl, rfl⟩)))
            go_big_quiet_want
            refine quiet_run (.int .i64 c) (fun W hW => by simp [execOp, HC1.out W hW, Result.andThen, go_sem]) ?_
            go_big_quiet_on
            try simp only [Act.put]
            try simp only [List.setIfInBounds_toArray]
            try simp only [List.set_cons_succ]
            try simp only [List.set_cons_zero]
            go_big_quiet_step ((first | (intro _; rfl) | (intro _; exact ⟨rfl, rfl⟩)))
            go_big_quiet_step ((first | (intro _; rfl) | (intro _; exact ⟨rfl, rfl⟩)))
            go_big_quiet_step ((first | (intro _; rfl) | (intro _; exact ⟨rfl, rfl⟩)))
            go_big_quiet_want
            refine quiet_run (.string su) (fun W hW => by simp [execOp, HC2.out W hW, Result.andThen, go_sem]) ?_
            go_big_quiet_on
            try simp only [Act.put]
            try simp only [List.setIfInBounds_toArray]
            try simp only [List.set_cons_succ]
            try simp only [List.set_cons_zero]
            go_big_quiet_step ((intro hb; refine (HS.out _ hb).mono ?_; rintro x wc ⟨rfl, hb2⟩; exact ⟨rfl, hb.trans (hb2.mono hb.size)⟩))
            repeat (go_big_quiet_step ((first | (intro _; rfl) | (intro _; exact ⟨rfl, rfl⟩))))
            refine wpQuiet_nil ?_
            intro wc BC
            go_wp2_with (go_at_call 67; refine (HX.out _).mono ?_; rintro e w5 ⟨rfl, hb⟩; have HB5 := hideIt hb; clear hb)
            go_roundg (gk - 1)
            case measure => omega
            case rel => exact ⟨j + 1, by omega, by rw [HO2.out], by go_num, (HA.out.1.trans (BC.mono HA.out.1.size)).trans (HB5.out.mono (by have := HA.out.1.size; have := BC.size; omega)), HG.out⟩
          · rw [xrS, xrE, if_neg (fun h => hle (by rw [← hsl, ← h, hlen])), if_neg (fun h => hle (by rw [← hsl, ← h, hlen]))] at HX
            have HE := hideIt (HBAD.out (fun h => hle (h.2.2.2.1 _ (List.getElem_mem hju))))
            clear hsl hok hle hnx hlen hlu
            generalize str (sc m.toNat cs[j].toNat us[j]) = x at *
            generalize str (cmbK m.toNat cs us j) = o1 at *
            generalize str us[j] = su at *
            generalize cs[j] = c at *
            clear hju hjc
            go_wp2_with fail
            refine wp_region_quiet_below (by kernel_rfl) (by kernel_rfl) (Below.refl wr.heap.size wr) ?_
            try simp only [Act.put]
            try simp only [List.setIfInBounds_toArray]
            try simp only [List.set_cons_succ]
            try simp only [List.set_cons_zero]
            go_big_quiet_step ((first | (intro _; rfl) | (intro _; exact ⟨rfl, rfl⟩)))
            go_big_quiet_step ((first | (intro _; rfl) | (intro _; exact ⟨rfl, rfl⟩)))
            go_big_quiet_step ((first | (intro _; rfl) | (intro _; exact ⟨rfl, rfl⟩)))
            go_big_quiet_step ((first | (intro _; rfl) | (intro _; exact ⟨rfl, rfl⟩)))
            go_big_quiet_want
            refine quiet_run (.int .i64 c) (fun W hW => by simp [execOp, HC1.out W hW, Result.andThen, go_sem]) ?_
            go_big_quiet_on
            try simp only [Act.put]
            try simp only [List.setIfInBounds_toArray]
            try simp only [List.set_cons_succ]
            try simp only [List.set_cons_zero]
            go_big_quiet_step ((first | (intro _; rfl) | (intro _; exact ⟨rfl, rfl⟩)))
            go_big_quiet_step ((first | (intro _; rfl) | (intro _; exact ⟨rfl, rfl⟩)))
            go_big_quiet_step ((first | (intro _; rfl) | (intro _; exact ⟨rfl, rfl⟩)))
            go_big_quiet_want
            refine quiet_run (.string su) (fun W hW => by simp [execOp, HC2.out W hW, Result.andThen, go_sem]) ?_
            go_big_quiet_on
            try simp only [Act.put]
            try simp only [List.setIfInBounds_toArray]
            try simp only [List.set_cons_succ]
            try simp only [List.set_cons_zero]
            go_big_quiet_step ((intro hb; refine (HS.out _ hb).mono ?_; rintro x wc ⟨rfl, hb2⟩; exact ⟨rfl, hb.trans (hb2.mono hb.size)⟩))
            repeat (go_big_quiet_step ((first | (intro _; rfl) | (intro _; exact ⟨rfl, rfl⟩))))
            refine wpQuiet_nil ?_
            intro wc BC
            go_wp2_with (go_at_call 67; refine (HX.out _).mono ?_; rintro e w5 ⟨rfl, hb⟩; have HB5 := hideIt hb; clear hb)
            go_ret2
            exact ⟨by rw [HE.out.1, HE.out.2]; rfl, (HA.out.1.trans (BC.mono HA.out.1.size)).trans (HB5.out.mono (by have := HA.out.1.size; have := BC.size; omega))⟩
        · rw [scR, scE, if_neg hok, if_neg hok] at HS
          have HE := hideIt (HBAD.out (fun h => hok ⟨h.2.2.1 _ (List.getElem_mem hjc), by rw [h.2.2.2.1 _ (List.getElem_mem hju)]; exact h.2.2.2.2⟩))
          clear hok hnx hlen hlu HX
          generalize str (cmbK m.toNat cs us j) = o1 at *
          generalize str us[j] = su at *
          generalize cs[j] = c at *
          clear hju hjc
          go_wp2_with fail
          refine wp_region_quiet_below (by kernel_rfl) (by kernel_rfl) (Below.refl wr.heap.size wr) ?_
          try simp only [Act.put]
          try simp only [List.setIfInBounds_toArray]
          try simp only [List.set_cons_succ]
          try simp only [List.set_cons_zero]
          go_big_quiet_step ((first | (intro _; rfl) | (intro _; exact ⟨rfl, rfl⟩)))
          go_big_quiet_step ((first | (intro _; rfl) | (intro _; exact ⟨rfl, rfl⟩)))
          go_big_quiet_step ((first | (intro _; rfl) | (intro _; exact ⟨rfl, rfl⟩)))
          go_big_quiet_step ((first | (intro _; rfl) | (intro _; exact ⟨rfl, rfl⟩)))
          go_big_quiet_want
          refine quiet_run (.int .i64 c) (fun W hW => by simp [execOp, HC1.out W hW, Result.andThen, go_sem]) ?_
          go_big_quiet_on
          try simp only [Act.put]
          try simp only [List.setIfInBounds_toArray]
          try simp only [List.set_cons_succ]
          try simp only [List.set_cons_zero]
          go_big_quiet_step ((first | (intro _; rfl) | (intro _; exact ⟨rfl, rfl⟩)))
          go_big_quiet_step ((first | (intro _; rfl) | (intro _; exact ⟨rfl, rfl⟩)))
          go_big_quiet_step ((first | (intro _; rfl) | (intro _; exact ⟨rfl, rfl⟩)))
          go_big_quiet_want
          refine quiet_run (.string su) (fun W hW => by simp [execOp, HC2.out W hW, Result.andThen, go_sem]) ?_
          go_big_quiet_on
          try simp only [Act.put]
          try simp only [List.setIfInBounds_toArray]
          try simp only [List.set_cons_succ]
          try simp only [List.set_cons_zero]
          go_big_quiet_step ((intro hb; refine (HS.out _ hb).mono ?_; rintro x wc ⟨rfl, hb2⟩; exact ⟨rfl, hb.trans (hb2.mono hb.size)⟩))
          repeat (go_big_quiet_step ((first | (intro _; rfl) | (intro _; exact ⟨rfl, rfl⟩))))
          refine wpQuiet_nil ?_
          intro wc BC
          go_wp2_with fail
          go_ret2
          exact ⟨by rw [HE.out.1, HE.out.2]; rfl, HA.out.1.trans (BC.mono HA.out.1.size)⟩
      · obtain rfl : j = n := by omega
        have hji : ¬ (j : Int) < (j : Int) := by omega
        have HE := hideIt (HGOOD.out (GdK_all HN.out (by rw [← HNN.out]; omega) (by rw [← HNN.out]; exact HA.out.2)))
        generalize str (cmbK m.toNat cs us j) = o1 at *
        go_wp2_with fail
        go_ret2
        exact ⟨by rw [HE.out.1, HE.out.2]; rfl, HA.out.1⟩
  · have hq2 := neqT 3 h1
    rw [cbS, cbE, if_neg (fun h => h1 h.2.1), if_neg (fun h => h1 h.2.1)]
    clear hc hu hl hlu h0 h1
    generalize cs.length = n at *
    generalize us.length = k at *
    go_enter Tryd.func51, Tryd.ntmps51
    go_wp2_with fail
    go_ret2
    exact ⟨rfl, Below.refl _ _⟩
end
end

section
set_option linter.unusedVariables false
set_option linter.unusedSimpArgs false
/-- The sum of the first n values. -/
def sm : Nat → (Nat → Nat) → Nat
  | 0, _ => 0
  | n + 1, f => sm n f ^^^ f n
theorem sm_congr : ∀ {n : Nat} {f g : Nat → Nat}, (∀ i, i < n → f i = g i) → sm n f = sm n g
  | 0, _, _, _ => rfl
  | n + 1, f, g, h => by
    show sm n f ^^^ f n = sm n g ^^^ g n
    rw [sm_congr (fun i hi => h i (by omega)), h n (by omega)]
theorem sm_zero : ∀ {n : Nat} {f : Nat → Nat}, (∀ i, i < n → f i = 0) → sm n f = 0
  | 0, _, _ => rfl
  | n + 1, f, h => by
    show sm n f ^^^ f n = 0
    rw [sm_zero (fun i hi => h i (by omega)), h n (by omega)]; rfl
theorem sm_xor : ∀ (n : Nat) (f g : Nat → Nat), sm n (fun i => f i ^^^ g i) = sm n f ^^^ sm n g
  | 0, _, _ => (xs 0).symm
  | n + 1, f, g => by
    show sm n (fun i => f i ^^^ g i) ^^^ (f n ^^^ g n) = (sm n f ^^^ f n) ^^^ (sm n g ^^^ g n)
    rw [sm_xor n f g, xx]
theorem sm_lt {m : Nat} : ∀ {n : Nat} {f : Nat → Nat}, (∀ i, i < n → f i < 2 ^ m) → sm n f < 2 ^ m
  | 0, _, _ => Nat.two_pow_pos m
  | n + 1, f, h => Nat.xor_lt_two_pow (sm_lt fun i hi => h i (by omega)) (h n (by omega))
theorem sm_mulR (m c : Nat) : ∀ (n : Nat) (f : Nat → Nat), mul m c (sm n f) = sm n (fun i => mul m c (f i))
  | 0, _ => mul_zeroR m c
  | n + 1, f => by
    show mul m c (sm n f ^^^ f n) = sm n (fun i => mul m c (f i)) ^^^ mul m c (f n)
    rw [mulR, sm_mulR m c n f]
theorem sm_mulL (m c : Nat) : ∀ (n : Nat) (f : Nat → Nat), mul m (sm n f) c = sm n (fun i => mul m (f i) c)
  | 0, _ => mul_zeroL m c
  | n + 1, f => by
    show mul m (sm n f ^^^ f n) c = sm n (fun i => mul m (f i) c) ^^^ mul m (f n) c
    rw [mulL, sm_mulL m c n f]
theorem sm_swap (k : Nat) : ∀ (n : Nat) (f : Nat → Nat → Nat), sm n (fun i => sm k (fun j => f i j)) = sm k (fun j => sm n (fun i => f i j))
  | 0, f => (sm_zero fun _ _ => rfl).symm
  | n + 1, f => by
    show sm n (fun i => sm k (fun j => f i j)) ^^^ sm k (fun j => f n j) = sm k (fun j => sm n (fun i => f i j) ^^^ f n j)
    rw [sm_swap k n f, sm_xor]
theorem sm_one : ∀ {n : Nat} {f : Nat → Nat} {j : Nat}, j < n → (∀ i, i < n → i ≠ j → f i = 0) → sm n f = f j
  | 0, _, _, h, _ => absurd h (Nat.not_lt_zero _)
  | n + 1, f, j, h, hz => by
    show sm n f ^^^ f n = f j
    by_cases e : j = n
    · subst e
      rw [sm_zero fun i hi => hz i (by omega) (by omega), zx]
    · rw [sm_one (by omega) (fun i hi hne => hz i (by omega) hne), hz n (by omega) (by omega), xz]
/-- Matrices: valid everywhere. -/
abbrev Mx := Nat → Nat → Nat
def Vm (m : Nat) (A : Mx) : Prop := ∀ i j, A i j < 2 ^ m
def Vv (m : Nat) (x : Nat → Nat) : Prop := ∀ i, x i < 2 ^ m
def tr (A : Mx) : Mx := fun i j => A j i
def idm : Mx := fun i j => if i = j then 1 else 0
section
variable {m : Nat} (hm : Fm m)
include hm
theorem idm_v : Vm m idm := fun i j => by unfold idm; split; exact fm_one hm; exact Nat.two_pow_pos m
end
/-- The first row from i on with an element but 0 in this column. -/
def fpv (M : Mx) (col : Nat) : Nat → Nat → Nat
  | 0, i => i
  | n + 1, i => if M i col = 0 then fpv M col n (i + 1) else i
theorem fpv_le (M : Mx) (col : Nat) : ∀ n i, i ≤ fpv M col n i ∧ fpv M col n i ≤ i + n
  | 0, i => ⟨Nat.le_refl _, Nat.le_refl _⟩
  | n + 1, i => by
    show i ≤ (if M i col = 0 then fpv M col n (i + 1) else i) ∧ (if M i col = 0 then fpv M col n (i + 1) else i) ≤ i + (n + 1)
    have := fpv_le M col n (i + 1)
    split <;> omega
theorem fpv_zero (M : Mx) (col : Nat) : ∀ n i k, i ≤ k → k < fpv M col n i → M k col = 0
  | 0, i, k, h1, h2 => absurd h2 (by show ¬ k < i; omega)
  | n + 1, i, k, h1, h2 => by
    have h2 : k < (if M i col = 0 then fpv M col n (i + 1) else i) := h2
    split at h2
    · rename_i h
      by_cases e : k = i
      · rw [e]; exact h
      · exact fpv_zero M col n (i + 1) k (by omega) h2
    · omega
theorem fpv_ne (M : Mx) (col : Nat) : ∀ n i, fpv M col n i < i + n → M (fpv M col n i) col ≠ 0
  | 0, i, h => absurd h (by show ¬ i < i + 0; omega)
  | n + 1, i, h => by
    have h : (if M i col = 0 then fpv M col n (i + 1) else i) < i + (n + 1) := h
    show M (if M i col = 0 then fpv M col n (i + 1) else i) col ≠ 0
    split
    · rename_i h0
      rw [if_pos h0] at h
      exact fpv_ne M col n (i + 1) (by omega)
    · rename_i h0
      exact h0
/-- The pivot's row: R if there is none. -/
def prow (M : Mx) (R col top : Nat) : Nat := fpv M col (R - top) top
theorem prow_le {M : Mx} {R col top : Nat} (h : top ≤ R) : top ≤ prow M R col top ∧ prow M R col top ≤ R := by
  have := fpv_le M col (R - top) top
  unfold prow; omega
theorem prow_zero {M : Mx} {R col top : Nat} (k : Nat) (h1 : top ≤ k) (h2 : k < prow M R col top) : M k col = 0 := fpv_zero M col _ _ k h1 h2
theorem prow_ne {M : Mx} {R col top : Nat} (h : top ≤ R) (h2 : prow M R col top < R) : M (prow M R col top) col ≠ 0 := fpv_ne M col _ _ (by unfold prow at h2; omega)
def swp (M : Mx) (a b : Nat) : Mx := fun i => if i = a then M b else if i = b then M a else M i
/-- One column's work on the rows that have been swapped. -/
def clr (m : Nat) (N : Mx) (top col : Nat) : Mx := fun i j => if i = top then mul m (N top j) (inv m (N top col)) else N i j ^^^ mul m (mul m (N top j) (inv m (N top col))) (N i col)
def stp (m R col : Nat) (s : Mx × List Nat) : Mx × List Nat :=
  if prow s.1 R col s.2.length < R then (clr m (swp s.1 s.2.length (prow s.1 R col s.2.length)) s.2.length col, s.2 ++ [col]) else s
/-- Elimination in the first columns. -/
def red (m R : Nat) (A : Mx) : Nat → Mx × List Nat
  | 0 => (A, [])
  | c + 1 => stp m R c (red m R A c)
theorem swp_v {m : Nat} {M : Mx} (h : Vm m M) (a b : Nat) : Vm m (swp M a b) := fun i j => by
  unfold swp; split
  · exact h _ _
  · split <;> exact h _ _
theorem clr_v {m : Nat} (hm : Fm m) {M : Mx} (h : Vm m M) (t c : Nat) : Vm m (clr m M t c) := fun i j => by
  unfold clr; split
  · exact mul_lt hm _ (h _ _)
  · exact Nat.xor_lt_two_pow (h _ _) (mul_lt hm _ (mul_lt hm _ (h _ _)))
theorem inv_ne {m : Nat} (hm : Fm m) {a : Nat} (ha : a < 2 ^ m) (h0 : a ≠ 0) : inv m a ≠ 0 := pw_ne hm ha h0 _
/-- A row times a vector. -/
def dot (m C : Nat) (r x : Nat → Nat) : Nat := sm C fun j => mul m (r j) (x j)
section
variable {m : Nat} (hm : Fm m)
include hm
theorem dot_lt {C : Nat} {r x : Nat → Nat} (hr : Vv m r) : dot m C r x < 2 ^ m := sm_lt fun j _ => mul_lt hm _ (hr j)
omit hm in
theorem dot_scale {C : Nat} {r x : Nat → Nat} {c : Nat} : dot m C (fun j => mul m (r j) c) x = mul m (dot m C r x) c := by
  unfold dot
  rw [sm_mulL]
  exact sm_congr fun j _ => mul_right m (r j) c (x j)
omit hm in
theorem dot_add (C : Nat) (r s x : Nat → Nat) : dot m C (fun j => r j ^^^ s j) x = dot m C r x ^^^ dot m C s x := by
  unfold dot
  rw [← sm_xor]
  exact sm_congr fun j _ => mulL m _ _ _
omit hm in
theorem dot_clr {C : Nat} {N : Mx} {x : Nat → Nat} (top col i : Nat) :
    dot m C (clr m N top col i) x = if i = top then mul m (dot m C (N top) x) (inv m (N top col)) else dot m C (N i) x ^^^ mul m (mul m (dot m C (N top) x) (inv m (N top col))) (N i col) := by
  have hs := dot_scale (m := m) (C := C) (r := N top) (x := x) (c := inv m (N top col))
  by_cases e : i = top
  · have h1 : clr m N top col i = fun j => mul m (N top j) (inv m (N top col)) := by unfold clr; funext j; rw [if_pos e]
    rw [if_pos e, ← hs, h1]
  · rw [if_neg e]
    have h1 : clr m N top col i = fun j => N i j ^^^ mul m (mul m (N top j) (inv m (N top col))) (N i col) := by unfold clr; funext j; rw [if_neg e]
    rw [h1, dot_add, dot_scale (r := fun j => mul m (N top j) (inv m (N top col))), hs]
end
/-- The vectors that a matrix takes to 0. -/
def Ker (m R C : Nat) (M : Mx) (x : Nat → Nat) : Prop := ∀ i, i < R → dot m C (M i) x = 0
theorem ker_swp {m R C : Nat} {M : Mx} {x : Nat → Nat} {a b : Nat} (ha : a < R) (hb : b < R) : Ker m R C (swp M a b) x ↔ Ker m R C M x := by
  constructor
  · intro h i hi
    by_cases e1 : i = a
    · subst e1
      have := h b hb
      unfold swp at this
      by_cases e : b = i
      · rw [if_pos e, e] at this; exact this
      · rw [if_neg e, if_pos rfl] at this; exact this
    · by_cases e2 : i = b
      · subst e2
        have := h a ha
        unfold swp at this
        rw [if_pos rfl] at this; exact this
      · have := h i hi
        unfold swp at this
        rw [if_neg e1, if_neg e2] at this; exact this
  · intro h i hi
    unfold swp
    by_cases e1 : i = a
    · rw [if_pos e1]; exact h b hb
    · rw [if_neg e1]
      by_cases e2 : i = b
      · rw [if_pos e2]; exact h a ha
      · rw [if_neg e2]; exact h i hi
section
variable {m : Nat} (hm : Fm m)
include hm
theorem ker_clr {R C : Nat} {N : Mx} (hN : Vm m N) {x : Nat → Nat} {top col : Nat} (ht : top < R) (h0 : N top col ≠ 0) : Ker m R C (clr m N top col) x ↔ Ker m R C N x := by
  constructor
  · intro h
    have h1 := h top ht
    rw [dot_clr, if_pos rfl] at h1
    have h2 : dot m C (N top) x = 0 := by
      by_cases e : dot m C (N top) x = 0
      · exact e
      · exact absurd h1 (mul_ne hm (dot_lt hm (hN top)) (inv_lt hm _) e (inv_ne hm (hN _ _) h0))
    intro i hi
    by_cases e : i = top
    · rw [e]; exact h2
    · have h3 := h i hi
      rw [dot_clr, if_neg e, h2, mul_zeroL, mul_zeroL, xz] at h3
      exact h3
  · intro h i hi
    rw [dot_clr, h top ht, mul_zeroL, mul_zeroL, xz]
    split
    · rfl
    · exact h i hi
end
/-- What elimination keeps. -/
structure Rd (m R : Nat) (A : Mx) (c : Nat) (M : Mx) (pv : List Nat) : Prop where
  v : Vm m M
  len : pv.length ≤ R
  lt : ∀ k, k < pv.length → pv.getD k 0 < c
  mono : ∀ k l, k < l → l < pv.length → pv.getD k 0 < pv.getD l 0
  one : ∀ k, k < pv.length → ∀ i, i < R → M i (pv.getD k 0) = if i = k then 1 else 0
  zero : ∀ i, pv.length ≤ i → i < R → ∀ j, j < c → M i j = 0
  ker : ∀ C x, Vv m x → (Ker m R C M x ↔ Ker m R C A x)
  full : pv.length = c ∨ ∃ j, j < c ∧ ∀ k, k < pv.length → pv.getD k 0 ≠ j
theorem getD_snoc_lt {l : List Nat} {x k : Nat} (h : k < l.length) : (l ++ [x]).getD k 0 = l.getD k 0 := by
  simp [List.getD_eq_getElem?_getD, List.getElem?_append_left h]
theorem getD_snoc_eq {l : List Nat} {x k : Nat} (h : k = l.length) : (l ++ [x]).getD k 0 = x := by
  subst h; simp [List.getD_eq_getElem?_getD]
theorem red_rd {m : Nat} (hm : Fm m) (R : Nat) {A : Mx} (hA : Vm m A) : ∀ c, Rd m R A c (red m R A c).1 (red m R A c).2
  | 0 => ⟨hA, Nat.zero_le _, fun k h => absurd h (Nat.not_lt_zero _), fun k l _ h => absurd h (Nat.not_lt_zero _), fun k h => absurd h (Nat.not_lt_zero _), fun _ _ _ j h => absurd h (Nat.not_lt_zero _), fun _ _ _ => Iff.rfl, .inl rfl⟩
  | c + 1 => by
    have ih := red_rd hm R hA c
    show Rd m R A (c + 1) (stp m R c (red m R A c)).1 (stp m R c (red m R A c)).2
    unfold stp
    generalize hs : red m R A c = s at ih ⊢
    clear hs
    obtain ⟨M, pv⟩ := s
    simp only at ih ⊢
    have hple := prow_le (M := M) (col := c) ih.len
    split
    · rename_i hp
      have hne := prow_ne ih.len hp
      generalize prow M R c pv.length = p at *
      obtain ⟨q, hq⟩ : ∃ q, q = pv.length := ⟨_, rfl⟩
      have hqR : q < R := by omega
      have hN0 : ∀ k, k < q → ∀ i, i < R → swp M q p i (pv.getD k 0) = if i = k then 1 else 0 := fun k hk i hi => by
        unfold swp
        by_cases e1 : i = q
        · rw [if_pos e1, ih.one k (by omega) p hp, if_neg (by omega), if_neg (by omega)]
        · rw [if_neg e1]
          by_cases e2 : i = p
          · rw [if_pos e2, ih.one k (by omega) q hqR, if_neg (by omega), if_neg (by omega)]
          · rw [if_neg e2, ih.one k (by omega) i hi]
      have hz : ∀ i, q ≤ i → i < R → ∀ j, j < c → swp M q p i j = 0 := fun i h1 h2 j hj => by
        unfold swp
        split
        · exact ih.zero p (by omega) hp j hj
        · split
          · exact ih.zero q (by omega) hqR j hj
          · exact ih.zero i (by omega) h2 j hj
      have hN := swp_v ih.v q p
      have hnt : swp M q p q c ≠ 0 := by unfold swp; rw [if_pos rfl]; exact hne
      have hker : ∀ C x, Vv m x → (Ker m R C (swp M q p) x ↔ Ker m R C A x) := fun C x hx => (ker_swp hqR hp).trans (ih.ker C x hx)
      rw [← hq]
      try simp only
      generalize swp M q p = N at *
      have hone : ∀ i, i < R → clr m N q c i c = if i = q then 1 else 0 := fun i hi => by
        unfold clr
        rw [mul_inv hm (hN q c) hnt, mul_oneL hm (hN i c), xs]
      refine ⟨clr_v hm hN q c, by rw [List.length_append, ← hq]; simp; omega, fun k hk => ?_, fun k l hkl hl => ?_, fun k hk i hi => ?_, fun i h1 h2 j hj => ?_, fun C x hx => (ker_clr hm hN hqR hnt).trans (hker C x hx), ?_⟩
      · rw [List.length_append, ← hq] at hk
        simp only [List.length_singleton] at hk
        by_cases e : k < q
        · rw [getD_snoc_lt (by omega)]
          have := ih.lt k (by omega)
          omega
        · rw [getD_snoc_eq (by omega)]; omega
      · rw [List.length_append, ← hq] at hl
        simp only [List.length_singleton] at hl
        rw [getD_snoc_lt (by omega)]
        by_cases e : l < q
        · rw [getD_snoc_lt (by omega)]; exact ih.mono k l hkl (by omega)
        · rw [getD_snoc_eq (by omega)]; exact ih.lt k (by omega)
      · rw [List.length_append, ← hq] at hk
        simp only [List.length_singleton] at hk
        by_cases e : k < q
        · rw [getD_snoc_lt (by omega)]
          unfold clr
          rw [hN0 k e q hqR, if_neg (show ¬ q = k by omega), mul_zeroL, mul_zeroL, xz, hN0 k e i hi]
          split
          · rw [if_neg (by omega)]
          · rfl
        · rw [getD_snoc_eq (by omega), hone i hi]
          obtain rfl : k = q := by omega
          rfl
      · rw [List.length_append, ← hq] at h1
        simp only [List.length_singleton] at h1
        by_cases e : j = c
        · rw [e, hone i h2, if_neg (by omega)]
        · unfold clr
          rw [if_neg (by omega), hz q (by omega) hqR j (by omega), mul_zeroL, mul_zeroL, xz, hz i (by omega) h2 j (by omega)]
      · rcases ih.full with h | ⟨j, h1, h2⟩
        · left; rw [List.length_append, ← hq]; simp; omega
        · right
          refine ⟨j, by omega, fun k hk => ?_⟩
          rw [List.length_append, ← hq] at hk
          simp only [List.length_singleton] at hk
          by_cases e : k < q
          · rw [getD_snoc_lt (by omega)]; exact h2 k (by omega)
          · rw [getD_snoc_eq (by omega)]; omega
    · rename_i hp
      have hpR : prow M R c pv.length = R := by omega
      refine ⟨ih.v, ih.len, fun k hk => Nat.lt_succ_of_lt (ih.lt k hk), ih.mono, ih.one, fun i h1 h2 j hj => ?_, ih.ker, ?_⟩
      · by_cases e : j = c
        · rw [e]; exact prow_zero i h1 (by rw [hpR]; exact h2)
        · exact ih.zero i h1 h2 j (by omega)
      · right
        exact ⟨c, by omega, fun k hk => Nat.ne_of_lt (ih.lt k hk)⟩
section
variable {m : Nat} (hm : Fm m)
include hm
/-- A vector with one 1. -/
theorem dot_unit {C : Nat} {r : Nat → Nat} {t : Nat} (ht : t < C) : dot m C r (fun x => if x = t then 1 else 0) = r t := by
  unfold dot
  have h : (sm C fun j => mul m (r j) (if j = t then 1 else 0)) = mul m (r t) (if t = t then 1 else 0) := sm_one (f := fun j => mul m (r j) (if j = t then 1 else 0)) ht (fun i _ hne => by show mul m (r i) (if i = t then 1 else 0) = 0; rw [if_neg hne, mul_zeroR])
  rw [if_pos rfl, mul_oneR hm] at h
  exact h
omit hm in
theorem dot_addR (C : Nat) (r x y : Nat → Nat) : dot m C r (fun j => x j ^^^ y j) = dot m C r x ^^^ dot m C r y := by
  unfold dot
  rw [← sm_xor]
  exact sm_congr fun j _ => mulR m _ _ _
/-- A vector that stands at these places. -/
def put (m n : Nat) (p : Nat → Nat) (y : Nat → Nat) : Nat → Nat := fun x => sm n fun k => mul m (y k) (if x = p k then 1 else 0)
omit hm in
theorem dot_put (hm : Fm m) {C n : Nat} {r p y : Nat → Nat} (hr : Vv m r) (hy : Vv m y) (hp : ∀ k, k < n → p k < C) : dot m C r (put m n p y) = sm n fun k => mul m (r (p k)) (y k) := by
  unfold dot put
  have e1 : ∀ j, mul m (r j) (sm n fun k => mul m (y k) (if j = p k then 1 else 0)) = sm n fun k => mul m (mul m (r j) (if j = p k then 1 else 0)) (y k) := fun j => by
    rw [sm_mulR]
    refine sm_congr fun k _ => ?_
    have h1 : (if j = p k then 1 else 0) < 2 ^ m := by split; exact fm_one hm; exact Nat.two_pow_pos m
    rw [mul_comm hm (hy k) h1, mul_assoc hm (hr j) h1 (hy k)]
  rw [sm_congr fun j _ => e1 j, sm_swap]
  refine sm_congr fun k hk => ?_
  rw [sm_one (hp k hk) (fun i _ hne => by rw [if_neg hne, mul_zeroR, mul_zeroL]), if_pos rfl, mul_oneR hm]
omit hm in
theorem put_v (hm : Fm m) {n : Nat} {p y : Nat → Nat} (hy : Vv m y) : Vv m (put m n p y) := fun x => sm_lt fun k _ => mul_lt hm _ (hy k)
/-- More columns than rows: some vector but 0 goes to 0. -/
theorem ker_ex {R C : Nat} (hRC : R < C) {A : Mx} (hA : Vm m A) : ∃ x, Vv m x ∧ (∃ j, j < C ∧ x j ≠ 0) ∧ Ker m R C A x := by
  have H := red_rd hm R hA C
  generalize (red m R A C).1 = M at *
  generalize (red m R A C).2 = pv at *
  rcases H.full with h | ⟨j, hj, hn⟩
  · have := H.len; omega
  have hy : Vv m (fun k => M k j) := fun k => H.v k j
  have hu : Vv m (fun x => if x = j then 1 else 0) := fun x => by
    show (if x = j then 1 else 0) < 2 ^ m
    split; exact fm_one hm; exact Nat.two_pow_pos m
  have hx : Vv m (fun x => (if x = j then 1 else 0) ^^^ put m pv.length (fun k => pv.getD k 0) (fun k => M k j) x) := fun x => Nat.xor_lt_two_pow (hu x) (put_v hm hy x)
  refine ⟨_, hx, ⟨j, hj, ?_⟩, (H.ker C _ hx).1 fun t ht => ?_⟩
  · show (if j = j then 1 else 0) ^^^ put m pv.length (fun k => pv.getD k 0) (fun k => M k j) j ≠ 0
    rw [if_pos rfl]
    unfold put
    rw [sm_zero (fun k hk => by rw [if_neg (Ne.symm (hn k hk)), mul_zeroR])]
    decide
  · rw [dot_addR, dot_unit hm hj, dot_put hm (H.v t) hy H.lt]
    by_cases e : t < pv.length
    · rw [sm_one e (fun k hk hne => by rw [H.one k hk t ht, if_neg (Ne.symm hne), mul_zeroL]), H.one t e t ht, if_pos rfl, mul_oneL hm (H.v t j), xs]
    · rw [H.zero t (by omega) ht j hj, sm_zero (fun k hk => by rw [H.one k hk t ht, if_neg (by omega), mul_zeroL]), xs]
end
end

section
open Go.RowKit
set_option linter.unusedVariables false
set_option linter.unusedSimpArgs false
/-- A matrix as it comes. -/
structure Mt where
  F : Int
  R : Int
  C : Int
  l : List Int
abbrev mtV (F R C : Int) (s : Value) : Value := .agg #[.int .i64 F, .int .i64 R, .int .i64 C, s]
/-- The cells of a struct's box. -/
abbrev mtC (F R C : Int) (s : Value) : List Value := [.int .i64 F, .int .i64 R, .int .i64 C, s]
/-- May a matrix have n rows? -/
def isz (n : Int) : Bool := decide (0 ≤ n ∧ n ≤ 32)
theorem isz_spec {n : Int} (h : isz n = true) : ∃ k : Nat, n = (k : Int) ∧ k ≤ 32 := by
  unfold isz at h
  have := of_decide_eq_true h
  exact ⟨n.toNat, by omega, by omega⟩
theorem isz_nat {n : Nat} (h : n ≤ 32) : isz (n : Int) = true := by unfold isz; apply decide_eq_true; omega
def Mt.f (a : Mt) (k : Nat) : Nat := (a.l.getD k 0).toNat
/-- A list of natural numbers as integers. -/
def nl (n : Nat) (f : Nat → Nat) : List Int := (List.range n).map fun k => (f k : Int)
theorem nl_len (n : Nat) (f : Nat → Nat) : (nl n f).length = n := by unfold nl; simp
theorem nl_at {n : Nat} (f : Nat → Nat) {k : Nat} (hk : k < n) : (nl n f)[k]? = some (f k : Int) := by unfold nl; simp [hk]
theorem nl_get {n : Nat} (f : Nat → Nat) (k : Nat) (h : k < (nl n f).length) : (nl n f)[k] = (f k : Int) := by
  have h2 := nl_at f (show k < n by rw [nl_len] at h; exact h)
  rw [List.getElem?_eq_getElem h] at h2
  exact Option.some.inj h2
theorem nl_congr {n : Nat} {f g : Nat → Nat} (h : ∀ k, k < n → f k = g k) : nl n f = nl n g := by
  unfold nl
  apply List.map_congr_left
  intro k hk
  rw [h k (List.mem_range.1 hk)]
/-- The matrix with these elements. -/
def mkM (m R C : Nat) (A : Mx) : Mt := ⟨(m : Int), (R : Int), (C : Int), nl (R * C) fun k => A (k / C) (k % C)⟩
def zeroM : Mt := ⟨0, 0, 0, []⟩
theorem ix_lt {i j R C : Nat} (hi : i < R) (hj : j < C) : i * C + j < R * C := by
  have : (i + 1) * C ≤ R * C := Nat.mul_le_mul_right _ hi
  rw [Nat.add_mul] at this
  omega
theorem ix_div {i j C : Nat} (hj : j < C) : (i * C + j) / C = i := by
  rw [Nat.mul_comm, Nat.mul_add_div (by omega), Nat.div_eq_of_lt hj, Nat.add_zero]
theorem ix_mod {i j C : Nat} (hj : j < C) : (i * C + j) % C = j := by
  rw [Nat.mul_comm, Nat.mul_add_mod, Nat.mod_eq_of_lt hj]
theorem ix_of {k R C : Nat} (hk : k < R * C) : k / C < R ∧ k % C < C ∧ k = k / C * C + k % C := by
  have hC : 0 < C := by rcases Nat.eq_zero_or_pos C with h | h; · subst h; simp at hk
                        · exact h
  refine ⟨by rw [Nat.div_lt_iff_lt_mul hC]; exact hk, Nat.mod_lt _ hC, ?_⟩
  rw [Nat.mul_comm]; exact (Nat.div_add_mod k C).symm
/-- Cells of integers. -/
theorem iv_one (l : List Int) (u : Value) (h : u ∈ l.map iv) : u.oneCell' = true := by
  obtain ⟨b, _, rfl⟩ := List.mem_map.1 h
  rfl
theorem iv_at {n : Nat} {f : Nat → Nat} {k : Nat} (hk : k < n) : ((nl n f).map iv)[k]? = some (.int .i64 (f k : Int)) := by
  rw [List.getElem?_map, nl_at f hk]; rfl
theorem set_nl {n : Nat} (f : Nat → Nat) (i x : Nat) (hi : i < n) : ((nl n f).map iv).set i (.int .i64 (x : Int)) = (nl n fun k => if k = i then x else f k).map iv := by
  apply List.ext_getElem
  · simp [nl_len]
  · intro k h1 h2
    rw [List.getElem_set]
    simp only [List.length_set, List.length_map, nl_len] at h1
    rw [List.getElem_map, List.getElem_map, nl_get, nl_get]
    by_cases e : k = i
    · rw [if_pos e.symm, if_pos e]
    · rw [if_neg (Ne.symm e), if_neg e]
theorem zeros_nl (n : Nat) : List.replicate n (Value.int .i64 0) = (nl n fun _ => 0).map iv := by
  apply List.ext_getElem
  · simp [nl_len]
  · intro k h1 h2
    rw [List.getElem_replicate, List.getElem_map, nl_get]
    rfl
theorem results_two {P : Program} {fn : Func} {p t : Tmp} {T : TypeId} (h : fn.results = #[.cell p T, .tmp t]) (tmps : Array Value) (w : World) (g : Nat) (ty : TypeId) (cs : List Value) (d : TypeDesc)
    (hp : tmps.getD p undef = .pointer (some ⟨g, 0, none⟩)) (hg : Blk w g ty cs) (hu : P.underlying T = some d) (hd : d.isRow = true) (hi : (P.info? T).map (·.size) = some cs.length) :
    (results fn tmps).run P w = .ok (.tuple #[.agg cs.toArray, tmps.getD t undef]) w := by
  have hl := run_loadVar_mid (P := P) w g 0 T cs d (fun j v hv => by rw [hg.cell, Nat.zero_add]; exact hv) hu hd hi
  have ha : ∀ W, (asAddr (.pointer (some ⟨g, 0, none⟩))).run P W = .ok ⟨g, 0, none⟩ W := fun _ => rfl
  simp only [results, h]
  simp only [List.mapM_cons, List.mapM_nil, hp, bind_pure_comp, map_pure, Array.mapM_eq_mapM_toList]
  simp [Sem.run_bind, ha, hl, Result.andThen]
end

section
section
open Go.RowKit
set_option linter.unusedVariables false
set_option maxHeartbeats 400000 in
theorem isz_any (n : Int) (w : World) : Calls Tryd.prog 107 #[.int .i64 n] w fun e w' => e = .returned (.bool (isz n)) ∧ w = w' := by
  unfold isz
  by_cases h0 : 0 ≤ n
  · by_cases h1 : n ≤ 32
    · rw [decide_eq_true ⟨h0, h1⟩]
      go_enter Tryd.func107, Tryd.ntmps107
      go_wp2_with fail
      go_ret
      exact ⟨rfl, rfl⟩
    · rw [decide_eq_false (fun h => h1 h.2)]
      go_enter Tryd.func107, Tryd.ntmps107
      go_wp2_with fail
      go_ret
      exact ⟨rfl, rfl⟩
  · rw [decide_eq_false (fun h => h0 h.1)]
    go_enter Tryd.func107, Tryd.ntmps107
    go_wp2_with fail
    go_ret
    exact ⟨rfl, rfl⟩
end
section
open Go.RowKit
set_option linter.unusedVariables false
theorem own_blk {w : World} {base n g : Nat} {e : TypeId} {xs : List Value} (h : w.ownsRow base e 1 (.slice (some ⟨g, 0, none⟩) n n) n xs) : Blk w g e xs ∧ base ≤ g := by
  rcases h.2 with ⟨h0, _⟩ | ⟨k, cap, cur, hv, hb, hg, h1, h2, h3, h4⟩
  · cases h0
  · injection hv with e1 e2 e3
    injection e1 with e1
    injection e1 with e1
    subst e1 e3
    refine ⟨?_, hb⟩
    have : cur.toList = xs := by
      rw [← h4, List.take_of_length_le]
      rw [Array.length_toList, h3]; exact Nat.le_refl _
    unfold Blk
    rw [← this, hg]
/-- 'make([]int, n)': a block of zeros. -/
theorem wpList_zeros (w : World) {ops : Array Oper} {rest : List Oper} {o : Oper} {a : Act} {Q : Exit → Act → World → Prop} (hg : o.guard = none) (l c : Operand) (hop : o.op = Op.makeSlice 36 l c)
    (n : Nat) (hl : a.eval l = .int .i64 (n : Int)) (hc : a.eval c = .int .i64 (n : Int)) (hn : n ≤ 100000)
    (hK : ∀ w', Hid (Blk w' w.heap.size 3 ((nl n fun _ => 0).map iv)) → Hid (Below w.heap.size w w') → wpList Tryd.prog ops Q rest (a.put o.dst (.slice (some ⟨w.heap.size, 0, none⟩) n n)) w') :
    wpList Tryd.prog ops Q (o :: rest) a w := by
  obtain ⟨i0, hi, hz0, hz1, hz2⟩ := info_parts (show (Tryd.prog.info? 3).map (fun i => (i.zero, i.size, i.bytes)) = some (some (Value.int .i64 0), 1, 8) by kernel_rfl)
  refine wpList_make_full w hg l c 36 hop w.heap.size 3 i0 (.int .i64 0) 1 Tryd.underlying36 hi hz0 hz1 .i64 .i64 (n : Int) (n : Int) n hl hc rfl rfl (by rw [hz2]; omega) (by unfold maxLen; omega) (Nat.le_refl _) ?_
  intro w2 hown hgr
  have hb := (own_blk hown).1
  rw [Nat.mul_one, show (madeCells (Value.int .i64 0).cells n).toList = List.replicate n (.int .i64 0) from toList_madeCells_one _ n, zeros_nl] at hb
  exact hK w2 hb ((Below.refl w.heap.size w).grown hgr (Nat.le_refl _) (by simp))
theorem World.size_alloc (w : World) (o : Obj) : (w.alloc o).heap.size = w.heap.size + 1 := by simp
theorem isz4 : (Tryd.prog.info? 98).map (·.size) = some 4 := by kernel_rfl
theorem mt_one (F R C : Int) {s : Value} (h : s.oneCell' = true) : ∀ u ∈ mtC F R C s, u.oneCell' = true := by
  intro u hu
  simp only [List.mem_cons, List.not_mem_nil, or_false] at hu
  rcases hu with rfl | rfl | rfl | rfl <;> first | rfl | exact h
set_option maxHeartbeats 1000000 in
theorem zeros_any (m : Int) (R C : Nat) (hR : R ≤ 40) (hC : C ≤ 40) (w : World) :
    Calls Tryd.prog 108 #[.int .i64 m, .int .i64 (R : Int), .int .i64 (C : Int)] w fun e w' => ∃ g, e = .returned (mtV m R C (.slice (some ⟨g, 0, none⟩) (R * C) (R * C))) ∧ w.heap.size ≤ g ∧ Blk w' g 3 ((nl (R * C) fun _ => 0).map iv) ∧ Below w.heap.size w w' := by
  have hrk : R * C ≤ 40 * 40 := Nat.mul_le_mul hR hC
  have hmul := nmul 3 R C (by omega)
  obtain ⟨n, hn⟩ : ∃ n, n = R * C := ⟨_, rfl⟩
  rw [← hn] at hrk hmul ⊢
  clear hn
  have HB0 := hideIt (Blk.new w 98 (mtC 0 0 0 (.slice none 0 0)))
  have HW0 := hideIt (below_new w (.cells (mtC 0 0 0 (.slice none 0 0)).toArray 98))
  go_enter Tryd.func108, Tryd.ntmps108
  go_wp2_with (first
    | ((with_reducible refine at_make ?_); refine wpList_zeros _ rfl (.tmp 12) (.tmp 12) rfl n rfl rfl (by omega) ?_; intro w2 HB2 HW2)
    | ((with_reducible refine at_store ?_); refine wpList_put rfl 98 (.tmp 6) (.tmp 14) rfl w.heap.size (mtC m R C (.slice (some ⟨w.heap.size + 1, 0, none⟩) n n)) (mtC 0 0 0 (.slice none 0 0)) 98 rfl rfl (HB0.out.kept HW2.out HB0.out.lt) isz4 rfl (mt_one _ _ _ rfl) ?_; intro w3 ht3 hb3; have HT3 := hideIt ht3; have HB3 := hideIt hb3; clear ht3 hb3))
  have h2 := HB2.out
  rw [World.size_alloc] at h2
  exact bodyPost_ret (ret_blk rfl HB3.out _ rfl Tryd.underlying98 rfl isz4) rfl ⟨w.heap.size + 1, rfl, by omega, HT3.out.blk h2 (by omega), HT3.out.below (HW0.out.trans (HW2.out.mono HW0.out.size)) (Nat.le_refl _)⟩
/-- Where row i of a matrix begins. -/
def rowA (A : Option Addr) (c k : Nat) : Option Addr := if c = k then A else A.map (·.add k)
theorem cut_is (A : Option Addr) {n c p q : Nat} (hk : p ≤ q) (hn : q ≤ n) (hc : n ≤ c) (W : World) :
    (Instr.sliceAt 36 (.slice A n c) (some (.int .i64 (p : Int))) (some (.int .i64 (q : Int))) none).run Tryd.prog W = .ok (.slice (rowA A c p) (q - p) (c - p)) W := by
  have hs : ∀ W, (sizeOf 3).run Tryd.prog W = .ok 1 W := fun W => by kernel_rfl
  have hel : Tryd.prog.elem 36 = 3 := by simp [Program.elem, Tryd.underlying36]
  rw [run_sliceAt_slice W _ _ _ _ _ (by rw [hel]; exact Tryd.underlying36), run_slice_lh W _ A n c (by rw [hel]; exact Tryd.underlying36) .i64 .i64 p q (by omega) (by omega) (by omega), hel, hs]
  simp only [Result.andThen, sliced, Int.toNat_natCast, Nat.mul_one, rowA]
theorem sl_row {w : World} {B : Nat} {A : Option Addr} {n c : Nat} {xs : List Value} (h : Sl w B A 1 n xs) {p q : Nat} (hk : p ≤ q) (hn : q ≤ n) (hc : n ≤ c) : Sl w B (rowA A c p) 1 (q - p) ((xs.drop p).take (q - p)) := by
  have h2 := (h.drop (k := p) (cap := c) (by omega) hc).take (k := q - p) (by omega)
  rw [Nat.mul_one, Nat.mul_one] at h2
  exact h2
set_option maxHeartbeats 1000000 in
theorem row_any (F : Int) (R C : Nat) (A : Option Addr) (n c i : Nat) (hi : i < R) (hR : R ≤ 40) (hC : C ≤ 40) (hn : R * C ≤ n) (hc : n ≤ c) (w : World) :
    Calls Tryd.prog 109 #[mtV F R C (.slice A n c), .int .i64 (i : Int)] w fun e w' => e = .returned (.slice (rowA A c (i * C)) C (c - i * C)) ∧ Below w.heap.size w w' := by
  obtain ⟨i1, hi1⟩ : ∃ i1, i1 = i + 1 := ⟨_, rfl⟩
  have hle : i1 * C ≤ R * C := Nat.mul_le_mul_right _ (by omega)
  have hle2 : R * C ≤ 40 * 40 := Nat.mul_le_mul hR hC
  have hpq : i1 * C = i * C + C := by rw [hi1, Nat.add_mul, Nat.one_mul]
  have hmul := nmul 3 i C (by omega)
  have hinc := inc_c 3 i (by omega)
  rw [← hi1] at hinc
  have hmul2 := nmul 3 i1 C (by omega)
  have hcut := cut_is A (n := n) (c := c) (p := i * C) (q := i1 * C) (by omega) (by omega) hc
  rw [show i1 * C - i * C = C by omega] at hcut
  generalize i1 * C = q at *
  generalize i * C = p at *
  clear hle hle2 hpq hi1 hi
  go_enter Tryd.func109, Tryd.ntmps109
  go_wp2_with fail
  go_ret
  exact ⟨rfl, below_new w _⟩
end
section
open Go.RowKit
set_option linter.unusedVariables false
/-- Cells that S does not name are as they were; no block has turned its kind. -/
structure Sel (S : Nat → Nat → Prop) (w w' : World) : Prop where
  os : w'.os = w.os
  tape : w'.tape = w.tape
  output : w'.output = w.output
  size : w.heap.size ≤ w'.heap.size
  cell : ∀ k o, k < w.heap.size → ¬ S k o → w'.cell? ⟨k, o, none⟩ = w.cell? ⟨k, o, none⟩
  frozen : ∀ k o, k < w.heap.size → w'.frozen? ⟨k, o, none⟩ = w.frozen? ⟨k, o, none⟩
  block : ∀ k, k < w.heap.size → (∀ o, ¬ S k o) → w'.heap[k]? = w.heap[k]?
  kind : ∀ k t cs, Blk w k t cs → ∃ cs', cs'.length = cs.length ∧ Blk w' k t cs'
section
variable {S S' : Nat → Nat → Prop} {a b c : World}
theorem Sel.refl (S : Nat → Nat → Prop) (w : World) : Sel S w w := ⟨rfl, rfl, rfl, Nat.le_refl _, fun _ _ _ _ => rfl, fun _ _ _ => rfl, fun _ _ _ => rfl, fun _ _ cs h => ⟨cs, rfl, h⟩⟩
theorem Sel.trans (h : Sel S a b) (k : Sel S b c) : Sel S a c :=
  ⟨k.os.trans h.os, k.tape.trans h.tape, k.output.trans h.output, Nat.le_trans h.size k.size,
    fun i o hi hs => (k.cell i o (Nat.lt_of_lt_of_le hi h.size) hs).trans (h.cell i o hi hs), fun i o hi => (k.frozen i o (Nat.lt_of_lt_of_le hi h.size)).trans (h.frozen i o hi),
    fun i hi hs => (k.block i (Nat.lt_of_lt_of_le hi h.size) hs).trans (h.block i hi hs),
    fun i t cs hb => by
      obtain ⟨c1, h1, h2⟩ := h.kind i t cs hb
      obtain ⟨c2, h3, h4⟩ := k.kind i t c1 h2
      exact ⟨c2, h3.trans h1, h4⟩⟩
theorem Sel.wide (h : Sel S a b) (hs : ∀ k o, S k o → S' k o) : Sel S' a b :=
  ⟨h.os, h.tape, h.output, h.size, fun k o hk hn => h.cell k o hk (fun q => hn (hs k o q)), h.frozen, fun k hk hn => h.block k hk (fun o q => hn o (hs k o q)), h.kind⟩
theorem Sel.of_below (S : Nat → Nat → Prop) (h : Below a.heap.size a b) : Sel S a b :=
  ⟨h.os, h.tape, h.output, h.size, fun k o hk _ => h.cell (p := ⟨k, o, none⟩) hk, fun k o hk => h.frozen (p := ⟨k, o, none⟩) hk, fun k hk _ => h.block k hk, fun k t cs hb => ⟨cs, rfl, hb.kept h hb.lt⟩⟩
theorem Sel.below {B : Nat} (h : Sel S a b) (hB : B ≤ a.heap.size) (hs : ∀ k o, k < B → ¬ S k o) : Below B a b :=
  ⟨h.os, h.tape, h.output, h.size, fun k hk => h.block k (Nat.lt_of_lt_of_le hk hB) (fun o => hs k o hk)⟩
theorem Sel.setCell (h : Sel S a b) {k o : Nat} (hs : S k o) (u : Value) : Sel S a (b.setCell ⟨k, o, none⟩ u) := by
  refine h.trans ⟨rfl, rfl, rfl, by simp [World.setCell], fun i q hi hn => ?_, fun i q hi => World.frozen?_setCell _ _ _ _, fun i hi hn => heap_setCell_other _ _ _ _ (fun e => hn o (e ▸ hs)), fun i t cs hb => ?_⟩
  · exact World.cell?_setCell_other _ _ _ _ (by intro hh; injection hh with h1 h2; subst h1 h2; exact hn hs)
  · by_cases e : i = k
    · subst e
      exact ⟨cs.set o u, by simp, hb.store o u⟩
    · exact ⟨cs, rfl, hb.store_other e⟩
theorem Sel.blk (h : Sel S a b) {k : Nat} {t : TypeId} {cs : List Value} (hb : Blk a k t cs) (hs : ∀ o, ¬ S k o) : Blk b k t cs := (h.block k hb.lt hs).trans hb
/-- A block whose cells are known again. -/
theorem Sel.cells (h : Sel S a b) {k : Nat} {t : TypeId} {cs ds : List Value} (hb : Blk a k t cs) (hl : ds.length = cs.length) (hd : ∀ j u, ds[j]? = some u → b.cell? ⟨k, j, none⟩ = some u) : Blk b k t ds := by
  obtain ⟨c2, h1, h2⟩ := h.kind k t cs hb
  have : c2 = ds := by
    apply List.ext_getElem
    · omega
    · intro j h3 h4
      have h5 := hd j _ (List.getElem?_eq_getElem h4)
      rw [h2.cell, List.getElem?_eq_getElem h3] at h5
      exact Option.some.inj h5
  rw [← this]; exact h2
end
theorem Tabs.sel {S : Nat → Nat → Prop} {w w' : World} (h : Tabs w) (hs : Sel S w w') (hn : ∀ o, ¬ S 0 o) : Tabs w' :=
  ⟨Nat.lt_of_lt_of_le h.lo hs.size, fun j hj => (hs.cell _ j h.lo (hn j)).trans (h.tab j hj)⟩
/-- n integers at a place. -/
structure Ints (w : World) (A : Option Addr) (b o n : Nat) (f : Nat → Nat) : Prop where
  adr : 0 < n → A = some ⟨b, o, none⟩
  lt : 0 < n → b < w.heap.size
  cell : ∀ j, j < n → w.cell? ⟨b, o + j, none⟩ = some (.int .i64 (f j : Int))
theorem Ints.sel {S : Nat → Nat → Prop} {w w' : World} {A : Option Addr} {b o n : Nat} {f : Nat → Nat} (h : Ints w A b o n f) (hs : Sel S w w') (hn : ∀ j, j < n → ¬ S b (o + j)) : Ints w' A b o n f :=
  ⟨h.adr, fun h0 => Nat.lt_of_lt_of_le (h.lt h0) hs.size, fun j hj => (hs.cell b _ (h.lt (by omega)) (hn j hj)).trans (h.cell j hj)⟩
theorem Ints.below {B : Nat} {w w' : World} {A : Option Addr} {b o n : Nat} {f : Nat → Nat} (h : Ints w A b o n f) (hb : Below B w w') (hB : 0 < n → b < B) : Ints w' A b o n f :=
  ⟨h.adr, fun h0 => Nat.lt_of_lt_of_le (h.lt h0) hb.size, fun j hj => (hb.cell (p := ⟨b, o + j, none⟩) (hB (by omega))).trans (h.cell j hj)⟩
end
section
open Go.RowKit
set_option linter.unusedVariables false
/-- Where the rows lie. -/
structure RD where
  ad : Nat → Option Addr
  b : Nat → Nat
  o : Nat → Nat
  c : Nat → Nat
/-- R rows of n integers, under the slices of block g. -/
structure EM (w : World) (B g R n : Nat) (D : RD) (M : Mx) : Prop where
  glt : g < w.heap.size
  gB : B ≤ g
  hdr : ∀ i, i < R → w.cell? ⟨g, i, none⟩ = some (.slice (D.ad i) n (D.c i))
  hfr : ∀ i, i < R → w.frozen? ⟨g, i, none⟩ = false
  cap : ∀ i, i < R → n ≤ D.c i ∧ D.c i ≤ maxLen
  row : ∀ i, i < R → Ints w (D.ad i) (D.b i) (D.o i) n (M i)
  low : 0 < n → ∀ i, i < R → B ≤ D.b i ∧ D.b i ≠ g
  free : ∀ i, i < R → ∀ j, j < n → w.frozen? ⟨D.b i, D.o i + j, none⟩ = false
  apart : ∀ i k, i < R → k < R → i ≠ k → ∀ j l, j < n → l < n → ¬ (D.b i = D.b k ∧ D.o i + j = D.o k + l)
theorem EM.below {w w' : World} {B g R n : Nat} {D : RD} {M : Mx} (h : EM w B g R n D M) (hb : Below w.heap.size w w') : EM w' B g R n D M :=
  ⟨Nat.lt_of_lt_of_le h.glt hb.size, h.gB, fun i hi => (hb.cell (p := ⟨g, i, none⟩) h.glt).trans (h.hdr i hi), fun i hi => (hb.frozen (p := ⟨g, i, none⟩) h.glt).trans (h.hfr i hi), h.cap,
    fun i hi => (h.row i hi).below hb (h.row i hi).lt, h.low, fun i hi j hj => (hb.frozen (p := ⟨D.b i, D.o i + j, none⟩) ((h.row i hi).lt (by omega))).trans (h.free i hi j hj), h.apart⟩
theorem EM.congr {w : World} {B g R n : Nat} {D : RD} {M N : Mx} (h : EM w B g R n D M) (he : ∀ i j, i < R → j < n → M i j = N i j) : EM w B g R n D N :=
  ⟨h.glt, h.gB, h.hdr, h.hfr, h.cap, fun i hi => ⟨(h.row i hi).adr, (h.row i hi).lt, fun j hj => by rw [← he i j hi hj]; exact (h.row i hi).cell j hj⟩, h.low, h.free, h.apart⟩
def RD.swap (D : RD) (i k : Nat) : RD := ⟨fun x => D.ad (if x = i then k else if x = k then i else x), fun x => D.b (if x = i then k else if x = k then i else x), fun x => D.o (if x = i then k else if x = k then i else x), fun x => D.c (if x = i then k else if x = k then i else x)⟩
theorem swp_row (M : Mx) (i k x : Nat) : swp M i k x = M (if x = i then k else if x = k then i else x) := by
  unfold swp
  split
  · rfl
  · split <;> rfl
/-- The header with its slices swapped, all else as it was. -/
theorem EM.swapped {w w' : World} {B g R n : Nat} {D : RD} {M : Mx} (h : EM w B g R n D M) {i k : Nat} (hi : i < R) (hk : k < R) (hs : Sel (fun b _ => b = g) w w') (hc : ∀ x, x < R → w'.cell? ⟨g, x, none⟩ = some (.slice ((D.swap i k).ad x) n ((D.swap i k).c x))) :
    EM w' B g R n (D.swap i k) (swp M i k) := by
  have hx : ∀ x, x < R → (if x = i then k else if x = k then i else x) < R := fun x hx => by split; exact hk; split; exact hi; exact hx
  have hinj : ∀ x y, x ≠ y → (if x = i then k else if x = k then i else x) ≠ (if y = i then k else if y = k then i else y) := fun x y hne => by
    split <;> split <;> (try split) <;> (try split) <;> omega
  refine ⟨Nat.lt_of_lt_of_le h.glt hs.size, h.gB, hc, fun x hx => (hs.frozen g x h.glt).trans (h.hfr x hx), fun x hx' => h.cap _ (hx x hx'), fun x hx' => ?_, fun h0 x hx' => h.low h0 _ (hx x hx'), fun x hx' j hj => ?_, fun x y hx1 hy hne j l hj hl => h.apart _ _ (hx x hx1) (hx y hy) (hinj x y hne) j l hj hl⟩
  · rw [swp_row]
    have hr := h.row _ (hx x hx')
    exact hr.sel hs (fun j hj => (h.low (by omega) _ (hx x hx')).2)
  · have hr := h.row _ (hx x hx')
    exact (hs.frozen _ _ (hr.lt (by omega))).trans (h.free _ (hx x hx') j hj)
/-- One row's cells new, all else as it was. -/
theorem EM.added {w w' : World} {B g R n : Nat} {D : RD} {M : Mx} (h : EM w B g R n D M) {i : Nat} (hi : i < R) {f : Nat → Nat} (hI : Ints w' (D.ad i) (D.b i) (D.o i) n f) (hs : Sel (fun k q => k = D.b i ∧ D.o i ≤ q ∧ q < D.o i + n) w w') :
    EM w' B g R n D (fun r j => if r = i then f j else M r j) := by
  refine ⟨Nat.lt_of_lt_of_le h.glt hs.size, h.gB, fun r hr => (hs.cell g r h.glt (fun q => (h.low (by omega) i hi).2 q.1.symm)).trans (h.hdr r hr), fun r hr => (hs.frozen g r h.glt).trans (h.hfr r hr), h.cap, fun r hr => ?_, h.low, fun r hr j hj => (hs.frozen _ _ ((h.row r hr).lt (by omega))).trans (h.free r hr j hj), h.apart⟩
  by_cases e : r = i
  · subst e
    exact ⟨hI.adr, hI.lt, fun j hj => by show _ = some (Value.int .i64 ((if r = r then f j else M r j : Nat) : Int)); rw [if_pos rfl]; exact hI.cell j hj⟩
  · have h2 := (h.row r hr).sel hs (fun j hj q => h.apart r i hr hi e j (D.o r + j - D.o i) hj (by omega) ⟨q.1, by omega⟩)
    exact ⟨h2.adr, h2.lt, fun j hj => by show _ = some (Value.int .i64 ((if r = i then f j else M r j : Nat) : Int)); rw [if_neg e]; exact h2.cell j hj⟩
def RD.new (D : RD) (i g n : Nat) : RD := ⟨fun x => if x = i then some ⟨g, 0, none⟩ else D.ad x, fun x => if x = i then g else D.b x, fun x => if x = i then 0 else D.o x, fun x => if x = i then n else D.c x⟩
end
section
open Go.RowKit
set_option linter.unusedVariables false
theorem Sel.then {S S' : Nat → Nat → Prop} {a b c : World} (h : Sel S a b) (k : Sel S' b c) (hs : ∀ i o, i < a.heap.size → S' i o → S i o) : Sel S a c :=
  ⟨k.os.trans h.os, k.tape.trans h.tape, k.output.trans h.output, Nat.le_trans h.size k.size,
    fun i o hi hn => (k.cell i o (Nat.lt_of_lt_of_le hi h.size) (fun q => hn (hs i o hi q))).trans (h.cell i o hi hn), fun i o hi => (k.frozen i o (Nat.lt_of_lt_of_le hi h.size)).trans (h.frozen i o hi),
    fun i hi hn => (k.block i (Nat.lt_of_lt_of_le hi h.size) (fun o q => hn o (hs i o hi q))).trans (h.block i hi hn),
    fun i t cs hb => by
      obtain ⟨c1, h1, h2⟩ := h.kind i t cs hb
      obtain ⟨c2, h3, h4⟩ := k.kind i t c1 h2
      exact ⟨c2, h3.trans h1, h4⟩⟩
theorem Sel.later {S : Nat → Nat → Prop} {a b c : World} (h : Sel S a b) (k : Below a.heap.size b c) : Sel S a c :=
  ⟨k.os.trans h.os, k.tape.trans h.tape, k.output.trans h.output, Nat.le_trans h.size k.size,
    fun i o hi hn => (k.cell (p := ⟨i, o, none⟩) hi).trans (h.cell i o hi hn), fun i o hi => (k.frozen (p := ⟨i, o, none⟩) hi).trans (h.frozen i o hi),
    fun i hi hn => (k.block i hi).trans (h.block i hi hn),
    fun i t cs hb => by
      obtain ⟨c1, h1, h2⟩ := h.kind i t cs hb
      exact ⟨c1, h1, h2.kept k hb.lt⟩⟩
/-- The pivots as cells. -/
abbrev pvC (pv : List Nat) : List Value := (nl pv.length fun k => pv.getD k 0).map iv
theorem pvC_snoc (pv : List Nat) (c : Nat) : pvC (pv ++ [c]) = pvC pv ++ [.int .i64 (c : Int)] := by
  have h : (nl (pv ++ [c]).length fun k => (pv ++ [c]).getD k 0) = (nl pv.length fun k => pv.getD k 0) ++ [(c : Int)] := by
    apply List.ext_getElem
    · rw [nl_len, List.length_append, List.length_append, nl_len]; rfl
    · intro k h1 h2
      rw [nl_get]
      rw [nl_len, List.length_append] at h1
      simp only [List.length_singleton] at h1
      by_cases e : k < pv.length
      · rw [List.getElem_append_left (by rw [nl_len]; exact e), nl_get, getD_snoc_lt e]
      · rw [List.getElem_append_right (by rw [nl_len]; omega), getD_snoc_eq (by omega)]
        simp
  unfold pvC
  rw [h, List.map_append]
  rfl
end
section
open Go.RowKit
set_option linter.unusedVariables false
/-- The rows while the multiples are added. -/
def half (m : Nat) (N : Mx) (top col i : Nat) : Mx := fun r j => if r = top then mul m (N top j) (inv m (N top col)) else if r < i then N r j ^^^ mul m (mul m (N top j) (inv m (N top col))) (N r col) else N r j
theorem half_at {m : Nat} {N : Mx} {top col i : Nat} (h : i ≠ top) : half m N top col i i col = N i col := by
  unfold half
  rw [if_neg h, if_neg (by omega)]
theorem half_skip (m : Nat) (N : Mx) (top col : Nat) : half m N top col top = half m N top col (top + 1) := by
  funext r j
  unfold half
  by_cases e2 : r = top
  · rw [if_pos e2, if_pos e2]
  · rw [if_neg e2, if_neg e2]
    by_cases e3 : r < top
    · rw [if_pos e3, if_pos (by omega)]
    · rw [if_neg e3, if_neg (by omega)]
theorem half_all (m : Nat) (N : Mx) (top col R r j : Nat) (hr : r < R) : half m N top col R r j = clr m N top col r j := by
  unfold half clr
  by_cases e : r = top
  · rw [if_pos e, if_pos e]
  · rw [if_neg e, if_neg e, if_pos hr]
theorem half_v {m : Nat} (hm : Fm m) {N : Mx} (hN : Vm m N) (top col i : Nat) : Vm m (half m N top col i) := fun r j => by
  unfold half
  split
  · exact mul_lt hm _ (hN _ _)
  · split
    · exact Nat.xor_lt_two_pow (hN _ _) (mul_lt hm _ (mul_lt hm _ (hN _ _)))
    · exact hN _ _
theorem int_neqF6 (t : TypeId) {a b : Int} (h : a = b) : binOp .neq t (.int .i64 a) (.int .i64 b) = pure (.bool false) := by
  rw [binOp_neq, h]; simp
theorem int_neqT6 (t : TypeId) {a b : Int} (h : a ≠ b) : binOp .neq t (.int .i64 a) (.int .i64 b) = pure (.bool true) := by
  have h2 : (a != b) = true := by rw [bne_iff_ne]; exact h
  rw [binOp_neq, h2]
end
section
open Go.RowKit
set_option linter.unusedVariables false
/-- A matrix that comes back, and an error. -/
def MRes (w : World) (r : Mt × Int) (e : Ending) (w' : World) : Prop :=
  ∃ s, e = .returned (.tuple #[mtV r.1.F r.1.R r.1.C s, .int .i64 r.2]) ∧ w'.ownsRow w.heap.size 3 1 s r.1.l.length (r.1.l.map iv) ∧ Below w.heap.size w w'
/-- The elements as a row of numbers. -/
abbrev gl (C : Nat) (E : Mx) : Nat → Nat := fun k => E (k / C) (k % C)
theorem gl_at {C : Nat} (E : Mx) {i j : Nat} (hj : j < C) : gl C E (i * C + j) = E i j := by
  show E ((i * C + j) / C) ((i * C + j) % C) = _
  rw [ix_div hj, ix_mod hj]
theorem mk_len (m R C : Nat) (E : Mx) : (mkM m R C E).l.length = R * C := nl_len _ _
theorem Ints.congr {w : World} {A : Option Addr} {b o n : Nat} {f g : Nat → Nat} (h : Ints w A b o n f) (he : ∀ j, j < n → f j = g j) : Ints w A b o n g :=
  ⟨h.adr, h.lt, fun j hj => by rw [← he j hj]; exact h.cell j hj⟩
/-- A row of a matrix. -/
theorem Ints.row {w : World} {A : Option Addr} {b o R C c : Nat} {E : Mx} (h : Ints w A b o (R * C) (gl C E)) {i : Nat} (hi : i < R) (hc : R * C ≤ c) : Ints w (rowA A c (i * C)) b (o + i * C) C (E i) := by
  have hle : (i + 1) * C ≤ R * C := Nat.mul_le_mul_right _ hi
  rw [Nat.add_mul, Nat.one_mul] at hle
  refine ⟨fun h0 => ?_, fun h0 => h.lt (by omega), fun j hj => ?_⟩
  · unfold rowA
    rw [if_neg (by omega), h.adr (by omega)]
    simp [addr_add]
  · rw [Nat.add_assoc, h.cell (i * C + j) (by omega), gl_at E hj]
end
section
open Go.RowKit
set_option linter.unusedVariables false
def upd2 (M : Mx) (i j x : Nat) : Mx := fun r q => if r = i ∧ q = j then x else M r q
theorem gl_set {R C : Nat} (M : Mx) {i j : Nat} (x : Nat) (hi : i < R) (hj : j < C) : ((nl (R * C) (gl C M)).map iv).set (i * C + j) (.int .i64 (x : Int)) = (nl (R * C) (gl C (upd2 M i j x))).map iv := by
  rw [set_nl _ _ _ (ix_lt hi hj)]
  congr 1
  apply nl_congr
  intro k hk
  obtain ⟨h1, h2, h3⟩ := ix_of hk
  show (if k = i * C + j then x else M (k / C) (k % C)) = if k / C = i ∧ k % C = j then x else M (k / C) (k % C)
  by_cases e : k = i * C + j
  · rw [if_pos e, if_pos (by rw [e, ix_div hj, ix_mod hj]; exact ⟨rfl, rfl⟩)]
  · rw [if_neg e, if_neg (fun q => e (by rw [h3, q.1, q.2]))]
theorem gl_congr {R C : Nat} {M N : Mx} (h : ∀ i j, i < R → j < C → M i j = N i j) : (nl (R * C) (gl C M)).map iv = (nl (R * C) (gl C N)).map iv := by
  congr 1
  apply nl_congr
  intro k hk
  obtain ⟨h1, h2, _⟩ := ix_of hk
  exact h _ _ h1 h2
theorem row_own {g R C i : Nat} (hi : i < R) (h0 : 0 < C) : rowA (some ⟨g, 0, none⟩) (R * C) (i * C) = some ⟨g, i * C, none⟩ := by
  have hle : (i + 1) * C ≤ R * C := Nat.mul_le_mul_right _ hi
  rw [Nat.add_mul, Nat.one_mul] at hle
  unfold rowA
  rw [if_neg (by omega)]
  simp [addr_add]
theorem own_of_blk {w : World} {base g n : Nat} {e : TypeId} {xs : List Value} (h : Blk w g e xs) (hb : base ≤ g) (hl : xs.length = n) (hn : n ≤ maxLen) : w.ownsRow base e 1 (.slice (some ⟨g, 0, none⟩) n n) n xs :=
  ⟨by rw [hl, Nat.mul_one], .inr ⟨g, n, xs.toArray, rfl, hb, h, Nat.le_refl _, hn, by simp [hl], by rw [Nat.mul_one, ← hl]; simp⟩⟩
theorem Sel.at_ {w6 w : World} {gp : Nat} (h : Sel (fun k _ => k = gp) w6 w) {p : Nat} {t : TypeId} {cs : List Value} (hb : Blk w6 p t cs) (hne : p ≠ gp) : Blk w p t cs := h.blk hb (fun _ q => hne q)
/-- The world that a maker of a matrix works on: its box, its block of cells, the result's cell. -/
structure Mk (w0 w6 : World) (pr p6 gp m R C : Nat) (w : World) (M : Mx) : Prop where
  w06 : Below w0.heap.size w0 w6
  pr6 : Blk w6 pr 98 (mtC 0 0 0 (.slice none 0 0))
  b6 : Blk w6 p6 98 (mtC (m : Int) (R : Int) (C : Int) (.slice (some ⟨gp, 0, none⟩) (R * C) (R * C)))
  g6 : gp < w6.heap.size
  prl : w0.heap.size ≤ pr
  gl0 : w0.heap.size ≤ gp
  ne1 : pr ≠ gp
  ne2 : p6 ≠ gp
  sel : Sel (fun k _ => k = gp) w6 w
  cells : Blk w gp 3 ((nl (R * C) (gl C M)).map iv)
section
variable {w0 w6 : World} {pr p6 gp m R C : Nat} {w : World} {M : Mx}
theorem Mk.low (h : Mk w0 w6 pr p6 gp m R C w M) : Below w0.heap.size w0 w := h.w06.trans (h.sel.below h.w06.size (fun k o hk q => by have := h.gl0; omega))
theorem Mk.box (h : Mk w0 w6 pr p6 gp m R C w M) : Blk w p6 98 (mtC (m : Int) (R : Int) (C : Int) (.slice (some ⟨gp, 0, none⟩) (R * C) (R * C))) := h.sel.at_ h.b6 h.ne2
theorem Mk.res (h : Mk w0 w6 pr p6 gp m R C w M) : Blk w pr 98 (mtC 0 0 0 (.slice none 0 0)) := h.sel.at_ h.pr6 h.ne1
theorem Mk.next (h : Mk w0 w6 pr p6 gp m R C w M) {w' : World} {N : Mx} (hs : Sel (fun k _ => k = gp) w w') (hc : Blk w' gp 3 ((nl (R * C) (gl C N)).map iv)) : Mk w0 w6 pr p6 gp m R C w' N :=
  ⟨h.w06, h.pr6, h.b6, h.g6, h.prl, h.gl0, h.ne1, h.ne2, h.sel.trans hs, hc⟩
theorem Mk.below (h : Mk w0 w6 pr p6 gp m R C w M) {w' : World} (hb : Below w.heap.size w w') : Mk w0 w6 pr p6 gp m R C w' M := h.next (Sel.of_below _ hb) (h.cells.kept hb h.cells.lt)
theorem Mk.congr (h : Mk w0 w6 pr p6 gp m R C w M) {N : Mx} (he : ∀ i j, i < R → j < C → M i j = N i j) : Mk w0 w6 pr p6 gp m R C w N := ⟨h.w06, h.pr6, h.b6, h.g6, h.prl, h.gl0, h.ne1, h.ne2, h.sel, by rw [← gl_congr he]; exact h.cells⟩
/-- A store into the matrix. -/
theorem Mk.store (h : Mk w0 w6 pr p6 gp m R C w M) {i j x : Nat} (hi : i < R) (hj : j < C) : Mk w0 w6 pr p6 gp m R C (w.setCell ⟨gp, i * C + j, none⟩ (.int .i64 (x : Int))) (upd2 M i j x) :=
  h.next ((Sel.refl _ w).setCell (S := fun k _ => k = gp) rfl _) (by rw [← gl_set M x hi hj]; exact h.cells.store _ _)
theorem Mk.cell (h : Mk w0 w6 pr p6 gp m R C w M) {i j : Nat} (hi : i < R) (hj : j < C) : w.cell? ⟨gp, i * C + j, none⟩ = some (.int .i64 (M i j : Int)) ∧ w.frozen? ⟨gp, i * C + j, none⟩ = false := by
  refine ⟨?_, h.cells.free _⟩
  rw [h.cells.cell, iv_at (ix_lt hi hj), gl_at M hj]
theorem Mk.fin (h : Mk w0 w6 pr p6 gp m R C w M) (hR : R ≤ 40) (hC : C ≤ 40) {w' : World} (ht : Turned pr w w') : MRes w0 (mkM m R C M, 0) (.returned (.tuple #[mtV (m : Int) (R : Int) (C : Int) (.slice (some ⟨gp, 0, none⟩) (R * C) (R * C)), .int .i64 0])) w' := by
  have hle : R * C ≤ 40 * 40 := Nat.mul_le_mul hR hC
  refine ⟨.slice (some ⟨gp, 0, none⟩) (R * C) (R * C), rfl, ?_, ht.below h.low h.prl⟩
  show w'.ownsRow _ _ _ _ (mkM m R C M).l.length ((nl (R * C) (gl C M)).map iv)
  rw [mk_len]
  exact own_of_blk (ht.blk h.cells (Ne.symm h.ne1)) h.gl0 (by rw [List.length_map, nl_len]) (by unfold maxLen; omega)
end
theorem MRes.bad {w w' : World} (hb : Below w.heap.size w w') (x : Int) : MRes w (zeroM, x) (.returned (.tuple #[mtV 0 0 0 (.slice none 0 0), .int .i64 x])) w' := ⟨.slice none 0 0, rfl, World.ownsRow_nil _ _ _ _, hb⟩
/-- The first state: zeros. -/
theorem Mk.start {w0 w1 w5 w6 : World} {pr gp m R C : Nat} (h01 : Below w0.heap.size w0 w1) (hpr : Blk w1 pr 98 (mtC 0 0 0 (.slice none 0 0))) (hprl : w0.heap.size ≤ pr) (h15 : Below w1.heap.size w1 w5) (hg : w1.heap.size ≤ gp) (hc : Blk w5 gp 3 ((nl (R * C) fun _ => 0).map iv))
    (h6 : w6 = w5.alloc (.cells (mtC (m : Int) (R : Int) (C : Int) (.slice (some ⟨gp, 0, none⟩) (R * C) (R * C))).toArray 98)) : Mk w0 w6 pr w5.heap.size gp m R C w6 (fun _ _ => 0) := by
  have hz := h01.size
  have h1 := hpr.lt
  have h2 := hc.lt
  subst h6
  refine ⟨(h01.trans (h15.mono hz)).alloc (by have := h15.size; omega) _, (hpr.kept h15 h1).alloc _, Blk.new _ _ _, by simp; omega, hprl, by omega, by omega, by omega, Sel.refl _ _, hc.alloc _⟩
def MkE (w0 : World) (pr p6 gp m R C : Nat) (w : World) (M : Mx) : Prop := ∃ w6, Mk w0 w6 pr p6 gp m R C w M
/-- A row of the call's own matrix. -/
theorem row_mk {gp R C i : Nat} (m : Nat) (hi : i < R) (h0 : 0 < C) (hR : R ≤ 40) (hC : C ≤ 40) (W : World) :
    Calls Tryd.prog 109 #[mtV (m : Int) (R : Int) (C : Int) (.slice (some ⟨gp, 0, none⟩) (R * C) (R * C)), .int .i64 (i : Int)] W fun e w' => e = .returned (.slice (some ⟨gp, i * C, none⟩) C (R * C - i * C)) ∧ Below W.heap.size W w' := by
  have h := row_any (m : Int) R C (some ⟨gp, 0, none⟩) (R * C) (R * C) i hi hR hC (Nat.le_refl _) (Nat.le_refl _) W
  rw [row_own hi h0] at h
  exact h
theorem wpList_ldM {ops : Array Oper} {rest : List Oper} {o : Oper} {a : Act} {w : World} {Q : Exit → Act → World → Prop} (hgd : o.guard = none) (x : Operand) (ho : o.op = .load 98 x) (p : Nat) (F R C : Int) (s : Value) (hx : a.eval x = .pointer (some ⟨p, 0, none⟩))
    (hp : Blk w p 98 (mtC F R C s)) (h : wpList Tryd.prog ops Q rest (a.put o.dst (mtV F R C s)) w) : wpList Tryd.prog ops Q (o :: rest) a w :=
  wpList_get hgd _ x ho p (mtC F R C s) _ _ hx hp Tryd.underlying98 rfl isz4 h
theorem wpList_stM {ops : Array Oper} {rest : List Oper} {o : Oper} {a : Act} {w : World} {Q : Exit → Act → World → Prop} (hgd : o.guard = none) (x y : Operand) (ho : o.op = .store 98 x y) (p : Nat) (F R C F' R' C' : Int) (s s' : Value) (hs : s.oneCell' = true) (hx : a.eval x = .pointer (some ⟨p, 0, none⟩)) (hy : a.eval y = mtV F R C s)
    (hp : Blk w p 98 (mtC F' R' C' s')) (h : ∀ w', Hid (Turned p w w') → Hid (Blk w' p 98 (mtC F R C s)) → wpList Tryd.prog ops Q rest (a.put o.dst undef) w') : wpList Tryd.prog ops Q (o :: rest) a w :=
  wpList_put hgd _ x y ho p (mtC F R C s) (mtC F' R' C' s') 98 hx hy hp isz4 rfl (mt_one _ _ _ hs) (fun w' h1 h2 => h w' h1 h2)
end
section
open Go.RowKit
set_option linter.unusedVariables false
/-- What Identity answers. -/
def idM (m n : Int) : Mt × Int := if vd m 0 = true ∧ isz n = true then (mkM m.toNat n.toNat n.toNat idm, 0) else (zeroM, 1)
def idK (k : Nat) : Mx := fun i j => if i < k ∧ i = j then 1 else 0
theorem idK_next (k : Nat) : upd2 (idK k) k k 1 = idK (k + 1) := by
  funext i j
  unfold upd2 idK
  by_cases e : i = k ∧ j = k
  · rw [if_pos e, if_pos (by omega)]
  · rw [if_neg e]
    by_cases e2 : i < k ∧ i = j
    · rw [if_pos e2, if_pos (by omega)]
    · rw [if_neg e2, if_neg (by omega)]
theorem idK_all {n i j : Nat} (hi : i < n) : idK n i j = idm i j := by
  unfold idK idm
  by_cases e : i = j
  · rw [if_pos ⟨hi, e⟩, if_pos e]
  · rw [if_neg (fun q => e q.2), if_neg e]
set_option maxHeartbeats 1000000 in
set_option maxRecDepth 100000 in
theorem ident_any (m n : Int) (w : World) (hT : Tabs w) :
    Calls Tryd.prog 100 #[.int .i64 m, .int .i64 n] w (MRes w (idM m n)) := by
  have HV := hideIt (fun W (hW : Below w.heap.size w W) => valid_any m 0 W (hT.keep hW))
  have HZ := hideIt (fun W => isz_any n W)
  have HPR := hideIt (Blk.new w 98 (mtC 0 0 0 (.slice none 0 0)))
  obtain ⟨r, hr⟩ : ∃ r, r = idM m n := ⟨_, rfl⟩
  rw [← hr]
  have HR := hideIt hr
  clear hr hT
  by_cases h1 : vd m 0 = true
  · by_cases h2 : isz n = true
    · rw [h1] at HV
      rw [h2] at HZ
      have HR2 : Hid (r = (mkM m.toNat n.toNat n.toNat idm, 0)) := hideIt (by rw [HR.out]; unfold idM; rw [if_pos ⟨h1, h2⟩])
      obtain ⟨k, x, rfl, hx0, hk, _⟩ := vd_spec h1
      clear hx0
      obtain ⟨q, rfl, hq⟩ := isz_spec h2
      rw [Int.toNat_natCast, Int.toNat_natCast] at HR2
      have HZS := hideIt (fun W => zeros_any k q q (by omega) (by omega) W)
      clear h1 h2 HR
      go_enter Tryd.func100, Tryd.ntmps100
      go_wp2_with (first
        | (go_at_call 80; refine (HV.out _ (below_new w _)).mono ?_; rintro e w2 ⟨rfl, rfl⟩)
        | (go_at_call 107; refine (HZ.out _).mono ?_; rintro e w2 ⟨rfl, rfl⟩)
        | (go_at_call 108; refine (HZS.out _).mono ?_; rintro e w5 ⟨gp, rfl, hg, hc, hb5⟩; have HMK := hideIt (Mk.start (m := k) (below_new w _) HPR.out (Nat.le_refl _) hb5 hg hc rfl); clear hg hc hb5))
      obtain ⟨p6, hp6⟩ : ∃ p6, p6 = w5.heap.size := ⟨_, rfl⟩
      rw [← hp6] at HMK ⊢
      clear hp6 HV HZ HZS HPR
      have hqq : q * q ≤ 32 * 32 := Nat.mul_le_mul hq hq
      go_loopg [22] q (fun gk s22 wr => ∃ i : Nat, i + gk = q ∧ s22 = .int .i64 (i : Int) ∧ Aside (MkE w w.heap.size p6 gp k q q wr (idK i)))
      case atStart => exact ⟨0, by omega, rfl, _, HMK.out.congr (fun i j _ _ => by unfold idK; rw [if_neg (by omega)])⟩
      case round =>
        obtain ⟨i, hi, rfl, HI⟩ := hrel
        by_cases hlt : i < q
        · have hinc := inc_c 3 i (by omega)
          have hiq : (i : Int) < (q : Int) := by omega
          have HROW := hideIt (fun W => row_mk (gp := gp) (R := q) (C := q) (i := i) k hlt (by omega) (by omega) (by omega) W)
          obtain ⟨w6, hmk⟩ := HI.out
          have HM := hideIt hmk
          clear HI hmk HMK
          go_wp2_with (first
            | ((with_reducible refine at_load ?_); refine wpList_ldM rfl (.tmp 6) rfl p6 _ _ _ _ rfl HM.out.box ?_)
            | (go_at_call 109; refine (HROW.out _).mono ?_; rintro e w7 ⟨rfl, hb7⟩; have HM7 := hideIt (HM.out.below hb7); obtain ⟨hcell, hfr⟩ := HM7.out.cell (i := i) (j := i) hlt hlt; clear hb7))
          go_roundg (gk - 1)
          case measure => omega
          case rel => exact ⟨i + 1, by omega, by go_num, w6, by rw [← idK_next]; exact HM7.out.store (x := 1) hlt hlt⟩
        · have hiq : ¬ (i : Int) < (q : Int) := by omega
          obtain rfl : i = q := by omega
          obtain ⟨w6, hmk⟩ := HI.out
          have HM := hideIt (hmk.congr (fun r j hr hj => idK_all (j := j) hr))
          clear HI hmk HMK
          go_wp2_with (first
            | ((with_reducible refine at_load ?_); refine wpList_ldM rfl (.tmp 6) rfl p6 _ _ _ _ rfl HM.out.box ?_)
            | ((with_reducible refine at_store ?_); refine wpList_stM rfl (.tmp 4) (.tmp 31) rfl w.heap.size _ _ _ _ _ _ _ _ rfl rfl rfl HM.out.res ?_; intro w8 HT8 HB8))
          refine bodyPost_ret (results_two rfl _ _ w.heap.size _ _ _ rfl HB8.out Tryd.underlying98 rfl isz4) rfl ?_
          rw [HR2.out]
          exact HM.out.fin (by omega) (by omega) HT8.out
    · have HR2 : Hid (r = (zeroM, 1)) := hideIt (by rw [HR.out]; unfold idM; rw [if_neg (fun h => h2 h.2)])
      rw [h1] at HV
      rw [Bool.eq_false_iff.2 h2] at HZ
      clear h1 h2 HR
      go_enter Tryd.func100, Tryd.ntmps100
      go_wp2_with (first
        | (go_at_call 80; refine (HV.out _ (below_new w _)).mono ?_; rintro e w2 ⟨rfl, rfl⟩)
        | (go_at_call 107; refine (HZ.out _).mono ?_; rintro e w2 ⟨rfl, rfl⟩)
        | ((with_reducible refine at_store ?_); refine wpList_stM rfl (.tmp 4) (.tmp 16) rfl w.heap.size 0 0 0 0 0 0 (.slice none 0 0) (.slice none 0 0) rfl rfl rfl HPR.out ?_; intro w8 HT8 HB8))
      refine bodyPost_ret (results_two rfl _ _ w.heap.size _ _ _ rfl HB8.out Tryd.underlying98 rfl isz4) rfl ?_
      rw [HR2.out]
      exact MRes.bad (HT8.out.below (below_new w _) (Nat.le_refl _)) 1
  · have HR2 : Hid (r = (zeroM, 1)) := hideIt (by rw [HR.out]; unfold idM; rw [if_neg (fun h => h1 h.1)])
    rw [Bool.eq_false_iff.2 h1] at HV
    clear h1 HR
    go_enter Tryd.func100, Tryd.ntmps100
    go_wp2_with (first
        | (go_at_call 80; refine (HV.out _ (below_new w _)).mono ?_; rintro e w2 ⟨rfl, rfl⟩)
        | ((with_reducible refine at_store ?_); refine wpList_stM rfl (.tmp 4) (.tmp 16) rfl w.heap.size 0 0 0 0 0 0 (.slice none 0 0) (.slice none 0 0) rfl rfl rfl HPR.out ?_; intro w8 HT8 HB8))
    refine bodyPost_ret (results_two rfl _ _ w.heap.size _ _ _ rfl HB8.out Tryd.underlying98 rfl isz4) rfl ?_
    rw [HR2.out]
    exact MRes.bad (HT8.out.below (below_new w _) (Nat.le_refl _)) 1
end
end

section
set_option linter.unusedVariables false
set_option linter.unusedSimpArgs false
/-- the combination of p rows -/
def cb (m p : Nat) (V : Mx) (c : Nat → Nat) : Nat → Nat := fun j => sm p fun k => mul m (c k) (V k j)
def Dep (m n p : Nat) (V : Mx) (r : Nat → Nat) : Prop := ∃ c, Vv m c ∧ ∀ j, j < n → r j = cb m p V c j
def Ind (m n p : Nat) (V : Mx) : Prop := ∀ c, Vv m c → (∀ j, j < n → cb m p V c j = 0) → ∀ k, k < p → c k = 0
theorem cb_xor (m p : Nat) (V : Mx) (c d : Nat → Nat) (j : Nat) : cb m p V (fun k => c k ^^^ d k) j = cb m p V c j ^^^ cb m p V d j := by
  unfold cb; rw [← sm_xor]; exact sm_congr fun k _ => mulL m _ _ _
theorem vv_xor {m : Nat} {c d : Nat → Nat} (hc : Vv m c) (hd : Vv m d) : Vv m fun k => c k ^^^ d k := fun k => Nat.xor_lt_two_pow (hc k) (hd k)
theorem vv_zero (m : Nat) : Vv m fun _ => 0 := fun _ => Nat.two_pow_pos m
theorem cb_zero (m p : Nat) (V : Mx) (c : Nat → Nat) (h : ∀ k, k < p → c k = 0) (j : Nat) : cb m p V c j = 0 := sm_zero fun k hk => by rw [h k hk, mul_zeroL]
theorem cb_congr {m p : Nat} {V U : Mx} {c d : Nat → Nat} {j : Nat} (h : ∀ k, k < p → c k = d k) (hv : ∀ k, k < p → V k j = U k j) : cb m p V c j = cb m p U d j := sm_congr fun k hk => by rw [h k hk, hv k hk]
theorem Ind.uniq {m n p : Nat} {V : Mx} (h : Ind m n p V) {c d : Nat → Nat} (hc : Vv m c) (hd : Vv m d) (he : ∀ j, j < n → cb m p V c j = cb m p V d j) : ∀ k, k < p → c k = d k := fun k hk => by
  have := h (fun k => c k ^^^ d k) (vv_xor hc hd) (fun j hj => by rw [cb_xor, he j hj, Nat.xor_self]) k hk
  exact xe this
theorem Ind.congr {m n p : Nat} {V U : Mx} (h : Ind m n p V) (hv : ∀ k, k < p → ∀ j, j < n → V k j = U k j) : Ind m n p U := fun c hc h0 k hk =>
  h c hc (fun j hj => by rw [cb_congr (fun _ _ => rfl) (fun k hk => hv k hk j hj)]; exact h0 j hj) k hk
theorem Dep.congr {m n p : Nat} {V U : Mx} {r s : Nat → Nat} (h : Dep m n p V r) (hv : ∀ k, k < p → ∀ j, j < n → V k j = U k j) (hr : ∀ j, j < n → r j = s j) : Dep m n p U s := by
  obtain ⟨c, hc, h1⟩ := h
  exact ⟨c, hc, fun j hj => by rw [← hr j hj, h1 j hj]; exact cb_congr (fun _ _ => rfl) fun k hk => hv k hk j hj⟩
section
variable {m : Nat} (hm : Fm m)
include hm
theorem cb_mul {p : Nat} {V : Mx} {c : Nat → Nat} (hc : Vv m c) (hV : Vm m V) {a : Nat} (ha : a < 2 ^ m) (j : Nat) : cb m p V (fun k => mul m a (c k)) j = mul m a (cb m p V c j) := by
  unfold cb; rw [sm_mulR]; exact sm_congr fun k _ => mul_assoc hm ha (hc k) (hV k j)
theorem cb_unit {p : Nat} {V : Mx} (hV : Vm m V) {t : Nat} (ht : t < p) (j : Nat) : cb m p V (fun k => if k = t then 1 else 0) j = V t j := by
  unfold cb; rw [sm_one ht]
  · simp [mul_oneL hm (hV t j)]
  · intro i _ hne; simp [hne, mul_zeroL]
theorem unit_v (t : Nat) : Vv m fun k => if k = t then 1 else 0 := fun k => by
  show (if k = t then 1 else 0) < 2 ^ m
  split; exact fm_one hm; exact Nat.two_pow_pos m
theorem Dep.mem {n p : Nat} {V : Mx} (hV : Vm m V) {t : Nat} (ht : t < p) : Dep m n p V (V t) := ⟨fun k => if k = t then 1 else 0, unit_v hm t, fun j _ => (cb_unit hm hV ht j).symm⟩
theorem Dep.trans {n p q : Nat} {V U : Mx} (hU : Vm m U) {r : Nat → Nat} (h : Dep m n p V r) (hv : ∀ k, k < p → Dep m n q U (V k)) : Dep m n q U r := by
  obtain ⟨c, hc, h1⟩ := h
  have hx : ∃ X : Mx, Vm m X ∧ ∀ k, k < p → ∀ j, j < n → V k j = cb m q U (X k) j := by
    refine ⟨fun k => if h : k < p then (hv k h).choose else fun _ => 0, fun k i => ?_, fun k hk j hj => ?_⟩
    · by_cases h : k < p
      · simp only [h, dif_pos]; exact (hv k h).choose_spec.1 i
      · simp only [h, dif_neg, not_false_iff]; exact Nat.two_pow_pos m
    · simp only [hk, dif_pos]; exact (hv k hk).choose_spec.2 j hj
  obtain ⟨X, hX, hXe⟩ := hx
  refine ⟨fun l => sm p fun k => mul m (c k) (X k l), fun l => sm_lt fun k _ => mul_lt hm _ (hc k), fun j hj => ?_⟩
  rw [h1 j hj]
  unfold cb
  have e : ∀ k, k < p → mul m (c k) (V k j) = sm q fun l => mul m (mul m (c k) (X k l)) (U l j) := fun k hk => by
    rw [hXe k hk j hj]; unfold cb; rw [sm_mulR]
    exact sm_congr fun l _ => (mul_assoc hm (hc k) (hX k l) (hU l j)).symm
  rw [sm_congr e, sm_swap]
  exact sm_congr fun l _ => by rw [sm_mulL]
omit hm in
theorem Dep.more {n p : Nat} {V : Mx} {r : Nat → Nat} (h : Dep m n p V r) : Dep m n (p + 1) V r := by
  obtain ⟨c, hc, h1⟩ := h
  refine ⟨fun k => if k < p then c k else 0, fun k => ?_, fun j hj => ?_⟩
  · show (if k < p then c k else 0) < 2 ^ m
    split; exact hc k; exact Nat.two_pow_pos m
  · rw [h1 j hj]
    show _ = sm p _ ^^^ _
    simp only [Nat.lt_irrefl, if_false, mul_zeroL, Nat.xor_zero]
    exact sm_congr fun k hk => by simp [hk]
omit hm in
theorem Dep.add {n p : Nat} {V : Mx} {r s : Nat → Nat} (h : Dep m n p V r) (k : Dep m n p V s) : Dep m n p V fun j => r j ^^^ s j := by
  obtain ⟨c, hc, h1⟩ := h
  obtain ⟨d, hd, h2⟩ := k
  exact ⟨_, vv_xor hc hd, fun j hj => by show r j ^^^ s j = _; rw [cb_xor, h1 j hj, h2 j hj]⟩
theorem cb_ker {n p : Nat} {V : Mx} (hV : Vm m V) {x : Nat → Nat} (hx : Vv m x) : Ker m n p (tr V) x ↔ ∀ j, j < n → cb m p V x j = 0 := by
  unfold Ker
  have e : ∀ i, dot m p (tr V i) x = cb m p V x i := fun i => sm_congr fun k _ => mul_comm hm (hV k i) (hx k)
  simp only [e]
theorem Ind.le {n p : Nat} {V : Mx} (hV : Vm m V) (h : Ind m n p V) : p ≤ n := by
  refine Nat.le_of_not_lt fun hlt => ?_
  obtain ⟨x, hx, ⟨j, hj, h0⟩, hk⟩ := ker_ex hm hlt (A := tr V) (fun i j => hV j i)
  exact h0 (h x hx ((cb_ker hm hV hx).1 hk) j hj)
/-- one more row that does not depend on the others -/
theorem Ind.snoc {n p : Nat} {V : Mx} (hV : Vm m V) (h : Ind m n p V) (hd : ¬ Dep m n p V (V p)) : Ind m n (p + 1) V := fun c hc h0 => by
  by_cases hp : c p = 0
  · intro k hk
    by_cases hkp : k = p
    · rw [hkp]; exact hp
    · refine h c hc (fun j hj => ?_) k (by omega)
      have := h0 j hj
      unfold cb at this
      rw [show sm (p + 1) (fun k => mul m (c k) (V k j)) = sm p (fun k => mul m (c k) (V k j)) ^^^ mul m (c p) (V p j) from rfl, hp, mul_zeroL, Nat.xor_zero] at this
      exact this
  · refine absurd ⟨fun k => mul m (inv m (c p)) (c k), fun k => mul_lt hm _ (inv_lt hm _), fun j hj => ?_⟩ hd
    have := h0 j hj
    unfold cb at this
    rw [show sm (p + 1) (fun k => mul m (c k) (V k j)) = cb m p V c j ^^^ mul m (c p) (V p j) from rfl] at this
    rw [cb_mul hm hc hV (inv_lt hm _), xe this, ← mul_assoc hm (inv_lt hm _) (hc p) (hV p j), mul_comm hm (inv_lt hm _) (hc p), mul_inv hm (hc p) hp, mul_oneL hm (hV p j)]
omit hm in
theorem Ind.prefix_ {n p q : Nat} {V : Mx} (h : Ind m n p V) (hq : q ≤ p) : Ind m n q V := fun c hc h0 k hk => by
  have hs : ∀ j d, sm (q + d) (fun k => mul m (if k < q then c k else 0) (V k j)) = sm q fun k => mul m (c k) (V k j) := fun j d => by
    induction d with
    | zero => exact sm_congr fun k hk => by simp [show k < q from hk]
    | succ d ih =>
      show sm (q + d) _ ^^^ mul m (if q + d < q then c (q + d) else 0) (V (q + d) j) = _
      rw [ih, if_neg (by omega), mul_zeroL, Nat.xor_zero]
  have := h (fun k => if k < q then c k else 0) (fun k => by show (if k < q then c k else 0) < 2 ^ m; split; exact hc k; exact Nat.two_pow_pos m) (fun j hj => by
    have := hs j (p - q)
    rw [show q + (p - q) = p by omega] at this
    exact this.trans (h0 j hj)) k (by omega)
  simpa [hk] using this
theorem Ind.full {n : Nat} {V : Mx} (hV : Vm m V) (h : Ind m n n V) {r : Nat → Nat} (hr : Vv m r) : Dep m n n V r := Classical.byContradiction fun hd => by
  have h2 : Ind m n (n + 1) fun k => if k < n then V k else r := by
    refine Ind.snoc hm (fun k j => ?_) (h.congr fun k hk j _ => by simp [hk]) fun hd2 => hd (hd2.congr (fun k hk j _ => by simp [hk]) fun j _ => by simp)
    by_cases hk : k < n
    · simp only [hk, if_true]; exact hV k j
    · simp only [hk, if_false]; exact hr j
  have := h2.le hm (fun k j => by
    by_cases hk : k < n
    · simp only [hk, if_true]; exact hV k j
    · simp only [hk, if_false]; exact hr j)
  omega
/-- p independent rows that depend on q rows: p is at most q -/
theorem Ind.exchange {n p q : Nat} {V U : Mx} (hV : Vm m V) (hU : Vm m U) (h : Ind m n p V) (hd : ∀ k, k < p → Dep m n q U (V k)) : p ≤ q := by
  refine Nat.le_of_not_lt fun hlt => ?_
  have hx : ∃ X : Mx, Vm m X ∧ ∀ k, k < p → ∀ j, j < n → V k j = cb m q U (X k) j := by
    refine ⟨fun k => if h : k < p then (hd k h).choose else fun _ => 0, fun k i => ?_, fun k hk j hj => ?_⟩
    · by_cases h : k < p
      · simp only [h, dif_pos]; exact (hd k h).choose_spec.1 i
      · simp only [h, dif_neg, not_false_iff]; exact Nat.two_pow_pos m
    · simp only [hk, dif_pos]; exact (hd k hk).choose_spec.2 j hj
  obtain ⟨X, hX, hXe⟩ := hx
  obtain ⟨x, hx, ⟨t, ht, h0⟩, hk⟩ := ker_ex hm hlt (A := tr X) (fun i j => hX j i)
  have hk2 : ∀ l, l < q → (sm p fun k => mul m (x k) (X k l)) = 0 := fun l hl => (cb_ker (n := q) hm hX hx).1 hk l hl
  refine h0 (h x hx (fun j hj => ?_) t ht)
  unfold cb
  have e : ∀ k, k < p → mul m (x k) (V k j) = sm q fun l => mul m (mul m (x k) (X k l)) (U l j) := fun k hk => by
    rw [hXe k hk j hj]; unfold cb; rw [sm_mulR]
    exact sm_congr fun l _ => (mul_assoc hm (hx k) (hX k l) (hU l j)).symm
  rw [sm_congr e, sm_swap]
  refine sm_zero fun l hl => ?_
  rw [← sm_mulL, hk2 l hl, mul_zeroL]
end
/-- the rows of the units of a list -/
abbrev sel (G : Mx) (B : List Nat) : Mx := fun i => G (B.getD i 0)
open Classical in
/-- the basis of the present units among the first k -/
noncomputable def bas (m n : Nat) (G : Mx) (hv : Nat → Bool) : Nat → List Nat
  | 0 => []
  | k + 1 => if hv k = true ∧ ¬ Dep m n (bas m n G hv k).length (sel G (bas m n G hv k)) (G k) then bas m n G hv k ++ [k] else bas m n G hv k
section
variable {m n : Nat} {G : Mx} {hv : Nat → Bool}
theorem bas_abs {k : Nat} (h : ¬ hv k = true) : bas m n G hv (k + 1) = bas m n G hv k := by
  rw [bas]
  exact if_neg fun q => h q.1
theorem bas_dep {k : Nat} (h : Dep m n (bas m n G hv k).length (sel G (bas m n G hv k)) (G k)) : bas m n G hv (k + 1) = bas m n G hv k := by
  rw [bas]
  exact if_neg fun q => q.2 h
theorem bas_new {k : Nat} (h : hv k = true) (hd : ¬ Dep m n (bas m n G hv k).length (sel G (bas m n G hv k)) (G k)) : bas m n G hv (k + 1) = bas m n G hv k ++ [k] := by
  rw [bas]
  exact if_pos ⟨h, hd⟩
theorem bas_step (k : Nat) : bas m n G hv (k + 1) = bas m n G hv k ∨ (hv k = true ∧ ¬ Dep m n (bas m n G hv k).length (sel G (bas m n G hv k)) (G k) ∧ bas m n G hv (k + 1) = bas m n G hv k ++ [k]) := by
  by_cases h : hv k = true
  · by_cases hd : Dep m n (bas m n G hv k).length (sel G (bas m n G hv k)) (G k)
    · exact .inl (bas_dep hd)
    · exact .inr ⟨h, hd, bas_new h hd⟩
  · exact .inl (bas_abs h)
theorem bas_mem : ∀ (k : Nat) (x : Nat), x ∈ bas m n G hv k → x < k ∧ hv x = true
  | 0, x, h => by cases h
  | k + 1, x, h => by
    rcases bas_step (m := m) (n := n) (G := G) (hv := hv) k with e | ⟨h1, _, e⟩
    · rw [e] at h; exact ⟨Nat.lt_succ_of_lt (bas_mem k x h).1, (bas_mem k x h).2⟩
    · rw [e] at h
      rcases List.mem_append.1 h with h | h
      · exact ⟨Nat.lt_succ_of_lt (bas_mem k x h).1, (bas_mem k x h).2⟩
      · rw [List.mem_singleton.1 h]; exact ⟨Nat.lt_succ_self k, h1⟩
theorem bas_at {k i : Nat} (h : i < (bas m n G hv k).length) : (bas m n G hv k).getD i 0 < k ∧ hv ((bas m n G hv k).getD i 0) = true := by
  have : (bas m n G hv k).getD i 0 = (bas m n G hv k)[i] := by simp [List.getD_eq_getElem?_getD, h]
  rw [this]; exact bas_mem k _ (List.getElem_mem h)
theorem bas_inc : ∀ (k i l : Nat), i < l → l < (bas m n G hv k).length → (bas m n G hv k).getD i 0 < (bas m n G hv k).getD l 0
  | 0, i, l, _, h => absurd h (Nat.not_lt_zero l)
  | k + 1, i, l, hil, h => by
    rcases bas_step (m := m) (n := n) (G := G) (hv := hv) k with e | ⟨h1, _, e⟩
    · rw [e] at h ⊢; exact bas_inc k i l hil h
    · rw [e] at h ⊢
      simp only [List.length_append, List.length_singleton] at h
      by_cases hl : l < (bas m n G hv k).length
      · rw [getD_snoc_lt hl, getD_snoc_lt (by omega)]; exact bas_inc k i l hil hl
      · rw [getD_snoc_eq (k := l) (by omega), getD_snoc_lt (by omega)]; exact (bas_at (by omega)).1
theorem bas_count : ∀ k : Nat, (bas m n G hv k).length ≤ ((List.range k).filter hv).length
  | 0 => Nat.le_refl _
  | k + 1 => by
    have ih := bas_count k
    rw [List.range_succ, List.filter_append, List.length_append]
    rcases bas_step (m := m) (n := n) (G := G) (hv := hv) k with e | ⟨h1, _, e⟩
    · rw [e]; omega
    · rw [e]; simp [h1]; exact ih
theorem sel_snoc (B : List Nat) (k : Nat) : ∀ i, i < B.length → ∀ j, sel G B i j = sel G (B ++ [k]) i j := fun i hi j => by
  show G (B.getD i 0) j = G ((B ++ [k]).getD i 0) j
  rw [getD_snoc_lt hi]
variable (hm : Fm m) (hG : Vm m G)
include hm hG
theorem bas_ind : ∀ k : Nat, Ind m n (bas m n G hv k).length (sel G (bas m n G hv k))
  | 0 => fun c _ _ k hk => absurd hk (Nat.not_lt_zero k)
  | k + 1 => by
    rcases bas_step (m := m) (n := n) (G := G) (hv := hv) k with e | ⟨h1, hd, e⟩
    · rw [e]; exact bas_ind k
    · rw [e, List.length_append]
      refine Ind.snoc hm (fun i j => hG _ j) ((bas_ind k).congr fun i hi j _ => sel_snoc _ _ i hi j) fun h => hd (h.congr (fun i hi j _ => (sel_snoc _ _ i hi j).symm) fun j _ => ?_)
      show G ((bas m n G hv k ++ [k]).getD (bas m n G hv k).length 0) j = _
      rw [getD_snoc_eq rfl]
theorem bas_le (k : Nat) : (bas m n G hv k).length ≤ n := (bas_ind hm hG k).le hm fun i j => hG _ j
omit hm hG in
theorem bas_mono {k : Nat} {r : Nat → Nat} (h : Dep m n (bas m n G hv k).length (sel G (bas m n G hv k)) r) : Dep m n (bas m n G hv (k + 1)).length (sel G (bas m n G hv (k + 1))) r := by
  rcases bas_step (m := m) (n := n) (G := G) (hv := hv) k with e | ⟨h1, hd, e⟩
  · rw [e]; exact h
  · rw [e, List.length_append]
    exact (h.congr (fun i hi j _ => sel_snoc _ _ i hi j) fun _ _ => rfl).more
theorem bas_span : ∀ (k u : Nat), u < k → hv u = true → Dep m n (bas m n G hv k).length (sel G (bas m n G hv k)) (G u)
  | 0, u, h, _ => absurd h (Nat.not_lt_zero u)
  | k + 1, u, h, hu => by
    by_cases hk : u = k
    · subst hk
      by_cases hd : Dep m n (bas m n G hv u).length (sel G (bas m n G hv u)) (G u)
      · exact bas_mono hd
      · rw [bas_new hu hd, List.length_append]
        have := Dep.mem (n := n) (p := (bas m n G hv u).length + 1) hm (V := sel G (bas m n G hv u ++ [u])) (fun i j => hG _ j) (t := (bas m n G hv u).length) (Nat.lt_succ_self _)
        refine this.congr (fun _ _ _ _ => rfl) fun j _ => ?_
        show G ((bas m n G hv u ++ [u]).getD (bas m n G hv u).length 0) j = _
        rw [getD_snoc_eq rfl]
    · exact bas_mono (bas_span k u (by omega) hu)
theorem bas_full {k : Nat} (h : (bas m n G hv k).length = n) {r : Nat → Nat} (hr : Vv m r) : Dep m n (bas m n G hv k).length (sel G (bas m n G hv k)) r := by
  have hi := bas_ind (n := n) (hv := hv) hm hG k
  rw [h] at hi ⊢
  exact hi.full hm (fun i j => hG _ j) hr
theorem bas_stop {k : Nat} (h : (bas m n G hv k).length = n) : ∀ d, bas m n G hv (k + d) = bas m n G hv k
  | 0 => rfl
  | d + 1 => by
    have ih := bas_stop h d
    rw [← Nat.add_assoc, bas_dep, ih]
    rw [ih]
    exact bas_full hm hG h (fun j => hG _ j)
end
end

section
set_option linter.unusedVariables false
set_option linter.unusedSimpArgs false
/-- a row, reduced by the first i reduced rows -/
def rd (m : Nat) (Q : Mx) (pv : List Nat) (r : Nat → Nat) : Nat → Nat → Nat
  | 0 => r
  | i + 1 => fun j => rd m Q pv r i j ^^^ mul m (rd m Q pv r i (pv.getD i 0)) (Q i j)
/-- a row of the generator with room for coefficients -/
def pad (n : Nat) (r : Nat → Nat) : Nat → Nat := fun j => if j < n then r j else 0
structure Rdc (m n : Nat) (G : Mx) (B pv : List Nat) (Q : Mx) : Prop where
  len : pv.length = B.length
  pl : ∀ i, i < B.length → pv.getD i 0 < n
  one : ∀ i, i < B.length → Q i (pv.getD i 0) = 1
  low : ∀ i k, i < k → k < B.length → Q k (pv.getD i 0) = 0
  v : Vm m Q
  com : ∀ i, i < B.length → ∀ j, j < n → Q i j = cb m B.length (sel G B) (fun k => Q i (n + k)) j
  hi : ∀ i, i < B.length → ∀ k, B.length ≤ k → k < n → Q i (n + k) = 0
  spn : ∀ k, k < B.length → Dep m n B.length Q (sel G B k)
theorem rdc_nil (m n : Nat) (G Q : Mx) (hQ : Vm m Q) : Rdc m n G [] [] Q :=
  ⟨rfl, fun i h => absurd h (Nat.not_lt_zero i), fun i h => absurd h (Nat.not_lt_zero i), fun i k _ h => absurd h (Nat.not_lt_zero k), hQ, fun i h => absurd h (Nat.not_lt_zero i), fun i h => absurd h (Nat.not_lt_zero i), fun i h => absurd h (Nat.not_lt_zero i)⟩
section
variable {m n : Nat} {G : Mx} {B pv : List Nat} {Q : Mx} (hm : Fm m)
include hm
theorem rd_v {r : Nat → Nat} (hr : Vv m r) : ∀ i, Vv m (rd m Q pv r i)
  | 0 => hr
  | i + 1 => fun j => Nat.xor_lt_two_pow (rd_v hr i j) (mul_lt hm _ (rd_v hr i _))
omit hm in
theorem pad_v {r : Nat → Nat} (hr : Vv m r) : Vv m (pad n r) := fun j => by
  unfold pad; split; exact hr j; exact Nat.two_pow_pos m
theorem rd_zero (h : Rdc m n G B pv Q) {r : Nat → Nat} (hr : Vv m r) : ∀ i, i ≤ B.length → ∀ l, l < i → rd m Q pv r i (pv.getD l 0) = 0
  | 0, _, l, hl => absurd hl (Nat.not_lt_zero l)
  | i + 1, hi, l, hl => by
    show rd m Q pv r i _ ^^^ mul m _ _ = 0
    by_cases e : l = i
    · rw [e, h.one i (by omega), mul_oneR hm, Nat.xor_self]
    · rw [rd_zero h hr i (by omega) l (by omega), h.low l i (by omega) (by omega), mul_zeroR, Nat.xor_self]
theorem rd_com (h : Rdc m n G B pv Q) (hG : Vm m G) {u : Nat} : ∀ i, i ≤ B.length → ∀ j, j < n → rd m Q pv (pad n (G u)) i j = G u j ^^^ cb m B.length (sel G B) (fun k => rd m Q pv (pad n (G u)) i (n + k)) j
  | 0, _, j, hj => by
    rw [cb_zero]
    · show pad n (G u) j = _; simp [pad, hj]
    · intro k _; show (if n + k < n then _ else 0) = 0; rw [if_neg (by omega)]
  | i + 1, hi, j, hj => by
    have hv := rd_v (Q := Q) (pv := pv) hm (pad_v (n := n) (hG u)) i
    show rd m Q pv _ i j ^^^ mul m _ (Q i j) = _
    rw [rd_com h hG i (by omega) j hj, h.com i (by omega) j hj, ← cb_mul hm (fun k => h.v i (n + k)) (fun i j => hG _ j) (hv _), Nat.xor_assoc, ← cb_xor]
    rfl
omit hm in
theorem rd_hi (h : Rdc m n G B pv Q) (r : Nat → Nat) : ∀ i, i ≤ B.length → ∀ k, B.length ≤ k → k < n → rd m Q pv (pad n r) i (n + k) = 0
  | 0, _, k, _, _ => by show (if n + k < n then _ else 0) = 0; rw [if_neg (by omega)]
  | i + 1, hi, k, h1, h2 => by
    show rd m Q pv _ i (n + k) ^^^ mul m _ (Q i (n + k)) = 0
    rw [rd_hi h r i (by omega) k h1 h2, h.hi i (by omega) k h1 h2, mul_zeroR, Nat.xor_self]
omit hm in
theorem rd_eq (r : Nat → Nat) (j : Nat) : ∀ i, rd m Q pv r i j = r j ^^^ cb m i Q (fun l => rd m Q pv r l (pv.getD l 0)) j
  | 0 => (Nat.xor_zero _).symm
  | i + 1 => by
    show rd m Q pv r i j ^^^ mul m _ (Q i j) = _
    rw [rd_eq r j i, Nat.xor_assoc]; rfl
theorem rd_diff {r : Nat → Nat} (hr : Vv m r) (n p : Nat) : Dep m n p Q fun j => r j ^^^ rd m Q pv r p j :=
  ⟨fun l => rd m Q pv r l (pv.getD l 0), fun l => rd_v hm hr l _, fun j _ => by
    show r j ^^^ rd m Q pv r p j = _
    rw [rd_eq r j p, ← Nat.xor_assoc, Nat.xor_self, Nat.zero_xor]⟩
/-- what depends on the reduced rows and is 0 in all their columns is 0 -/
theorem piv_zero (h : Rdc m n G B pv Q) {x : Nat → Nat} (hd : Dep m n B.length Q x) (hz : ∀ l, l < B.length → x (pv.getD l 0) = 0) : ∀ j, j < n → x j = 0 := by
  obtain ⟨e, he, h1⟩ := hd
  have h0 : ∀ i, i < B.length → e i = 0 := by
    intro i
    induction i using Nat.strongRecOn with
    | _ i ih =>
      intro hi
      have := h1 _ (h.pl i hi)
      rw [hz i hi] at this
      unfold cb at this
      rw [sm_one hi] at this
      · rw [h.one i hi, mul_oneR hm] at this; exact this.symm
      · intro k hk hne
        by_cases hlt : k < i
        · rw [ih k hlt (by omega), mul_zeroL]
        · rw [h.low i k (by omega) hk, mul_zeroR]
  intro j hj
  rw [h1 j hj]; exact cb_zero _ _ _ _ h0 j
/-- a row is reduced to 0 if and only if it depends on the rows of the basis -/
theorem rd_dep (h : Rdc m n G B pv Q) (hG : Vm m G) {u : Nat} (hd : Dep m n B.length (sel G B) (G u)) : ∀ j, j < n → rd m Q pv (pad n (G u)) B.length j = 0 := by
  have hp : Vv m (pad n (G u)) := pad_v (hG u)
  have hdr := Dep.trans hm h.v hd h.spn
  have h2 := rd_diff (Q := Q) (pv := pv) hm hp n B.length
  refine piv_zero hm h ((hdr.add h2).congr (fun _ _ _ _ => rfl) fun j hj => ?_) fun l hl => rd_zero hm h hp B.length (Nat.le_refl _) l hl
  show G u j ^^^ (pad n (G u) j ^^^ _) = _
  rw [show pad n (G u) j = G u j by simp [pad, hj], ← Nat.xor_assoc, Nat.xor_self, Nat.zero_xor]
theorem rd_cof (h : Rdc m n G B pv Q) (hG : Vm m G) {u : Nat} (hz : ∀ j, j < n → rd m Q pv (pad n (G u)) B.length j = 0) : ∀ j, j < n → G u j = cb m B.length (sel G B) (fun k => rd m Q pv (pad n (G u)) B.length (n + k)) j := fun j hj => by
  have := rd_com hm h hG (u := u) B.length (Nat.le_refl _) j hj
  rw [hz j hj] at this
  exact xe this.symm
theorem rd_is (h : Rdc m n G B pv Q) (hG : Vm m G) {u : Nat} : (∀ j, j < n → rd m Q pv (pad n (G u)) B.length j = 0) ↔ Dep m n B.length (sel G B) (G u) :=
  ⟨fun hz => ⟨_, fun k => rd_v hm (pad_v (hG u)) _ _, rd_cof hm h hG hz⟩, rd_dep hm h hG⟩
/-- the row that a unit adds -/
def newR (m n : Nat) (x : Nat → Nat) (p c : Nat) : Nat → Nat := fun j => mul m (inv m (x c)) (if j = n + p then 1 else x j)
def addQ (Q : Mx) (p : Nat) (f : Nat → Nat) : Mx := fun i => if i = p then f else Q i
theorem newR_v (n : Nat) (x : Nat → Nat) (p c : Nat) : Vv m (newR m n x p c) := fun j => mul_lt hm _ (inv_lt hm _)
theorem rdc_add (h : Rdc m n G B pv Q) (hG : Vm m G) {u c : Nat} (hp : B.length < n) (hc : c < n) (h0 : rd m Q pv (pad n (G u)) B.length c ≠ 0) :
    Rdc m n G (B ++ [u]) (pv ++ [c]) (addQ Q B.length (newR m n (rd m Q pv (pad n (G u)) B.length) B.length c)) := by
  have hpd : Vv m (pad n (G u)) := pad_v (hG u)
  generalize hx : rd m Q pv (pad n (G u)) B.length = x at *
  have hxv : Vv m x := hx ▸ rd_v hm hpd _
  have hl : (B ++ [u]).length = B.length + 1 := by simp
  have hxz : ∀ l, l < B.length → x (pv.getD l 0) = 0 := fun l hl => by rw [← hx]; exact rd_zero hm h hpd B.length (Nat.le_refl _) l hl
  have hlt : ∀ i, i < B.length → (pv ++ [c]).getD i 0 = pv.getD i 0 := fun i hi => getD_snoc_lt (by rw [h.len]; exact hi)
  have heq : (pv ++ [c]).getD B.length 0 = c := getD_snoc_eq h.len.symm
  have hQo : ∀ i, i < B.length → addQ Q B.length (newR m n x B.length c) i = Q i := fun i hi => by unfold addQ; rw [if_neg (by omega)]
  have hQn : addQ Q B.length (newR m n x B.length c) B.length = newR m n x B.length c := by unfold addQ; rw [if_pos rfl]
  have hnl : ∀ j, j < n → newR m n x B.length c j = mul m (inv m (x c)) (x j) := fun j hj => by unfold newR; rw [if_neg (by omega)]
  have hQv : Vm m (addQ Q B.length (newR m n x B.length c)) := fun i j => by
    unfold addQ
    split
    · exact newR_v hm n x _ _ j
    · exact h.v i j
  have hsp : ∀ k, k < B.length → Dep m n (B.length + 1) (addQ Q B.length (newR m n x B.length c)) (sel G B k) := fun k hk =>
    ((h.spn k hk).congr (fun i hi j _ => by rw [hQo i hi]) fun _ _ => rfl).more
  refine ⟨by simp [h.len], fun i hi => ?_, fun i hi => ?_, fun i k hik hk => ?_, hQv, fun i hi j hj => ?_, fun i hi k hk1 hk2 => ?_, fun k hk => ?_⟩ <;> rw [hl] at *
  · by_cases e : i = B.length
    · rw [e, heq]; exact hc
    · rw [hlt i (by omega)]; exact h.pl i (by omega)
  · by_cases e : i = B.length
    · rw [e, heq, hQn, hnl c hc, mul_comm hm (inv_lt hm _) (hxv c), mul_inv hm (hxv c) h0]
    · rw [hlt i (by omega), hQo i (by omega)]; exact h.one i (by omega)
  · by_cases e : k = B.length
    · rw [e, hQn, hlt i (by omega), hnl _ (h.pl i (by omega)), hxz i (by omega), mul_zeroR]
    · rw [hQo k (by omega), hlt i (by omega)]; exact h.low i k hik (by omega)
  · by_cases e : i = B.length
    · subst e
      rw [hQn, hnl j hj]
      show _ = (sm B.length fun k => mul m (newR m n x B.length c (n + k)) (sel G (B ++ [u]) k j)) ^^^ mul m (newR m n x B.length c (n + B.length)) (sel G (B ++ [u]) B.length j)
      have e1 : x j = G u j ^^^ cb m B.length (sel G B) (fun k => x (n + k)) j := by
        rw [← hx]; exact rd_com hm h hG B.length (Nat.le_refl _) j hj
      have e2 : sel G (B ++ [u]) B.length j = G u j := by show G ((B ++ [u]).getD B.length 0) j = _; rw [getD_snoc_eq rfl]
      have e3 : newR m n x B.length c (n + B.length) = inv m (x c) := by unfold newR; rw [if_pos rfl, mul_oneR hm]
      rw [e2, e3, e1, mulR, Nat.xor_comm, ← cb_mul hm (fun k => hxv _) (fun i j => hG _ j) (inv_lt hm _)]
      congr 1
      refine sm_congr fun k hk => ?_
      rw [show newR m n x B.length c (n + k) = mul m (inv m (x c)) (x (n + k)) by unfold newR; rw [if_neg (by omega)], ← sel_snoc (G := G) B u k hk]
    · rw [hQo i (by omega), h.com i (by omega) j hj]
      show _ = (sm B.length fun k => mul m (Q i (n + k)) (sel G (B ++ [u]) k j)) ^^^ mul m (Q i (n + B.length)) (sel G (B ++ [u]) B.length j)
      rw [h.hi i (by omega) B.length (Nat.le_refl _) hp, mul_zeroL, Nat.xor_zero]
      exact sm_congr fun k hk => by rw [sel_snoc B u k hk]
  · by_cases e : i = B.length
    · rw [e, hQn]
      unfold newR
      rw [if_neg (by omega), ← hx, rd_hi h (G u) B.length (Nat.le_refl _) k (by omega) hk2, mul_zeroR]
    · rw [hQo i (by omega)]; exact h.hi i (by omega) k (by omega) hk2
  · by_cases e : k = B.length
    · subst e
      have e2 : sel G (B ++ [u]) B.length = G u := by show G ((B ++ [u]).getD B.length 0) = _; rw [getD_snoc_eq rfl]
      rw [e2]
      have h1 : Dep m n (B.length + 1) (addQ Q B.length (newR m n x B.length c)) fun j => pad n (G u) j ^^^ x j := by
        have := rd_diff (Q := Q) (pv := pv) hm hpd n B.length
        rw [hx] at this
        exact (this.congr (fun i hi j _ => by rw [hQo i hi]) fun _ _ => rfl).more
      have h2 : Dep m n (B.length + 1) (addQ Q B.length (newR m n x B.length c)) x := by
        refine ⟨fun k => if k = B.length then x c else 0, fun k => ?_, fun j hj => ?_⟩
        · show (if k = B.length then x c else 0) < 2 ^ m
          split; exact hxv c; exact Nat.two_pow_pos m
        · unfold cb
          rw [sm_one (Nat.lt_succ_self B.length)]
          · show x j = mul m (if B.length = B.length then x c else 0) _
            rw [if_pos rfl, hQn, hnl j hj, ← mul_assoc hm (hxv c) (inv_lt hm _) (hxv j), mul_inv hm (hxv c) h0, mul_oneL hm (hxv j)]
          · intro i _ hne; show mul m (if i = B.length then x c else 0) _ = 0; rw [if_neg hne, mul_zeroL]
      refine (h1.add h2).congr (fun _ _ _ _ => rfl) fun j hj => ?_
      show pad n (G u) j ^^^ x j ^^^ x j = _
      rw [Nat.xor_assoc, Nat.xor_self, Nat.xor_zero]; simp [pad, hj]
    · exact (hsp k (by omega)).congr (fun _ _ _ _ => rfl) fun j _ => by rw [sel_snoc B u k (by omega)]
end
end

end Go.Proofs.YtklngodlijiccaaDoor
