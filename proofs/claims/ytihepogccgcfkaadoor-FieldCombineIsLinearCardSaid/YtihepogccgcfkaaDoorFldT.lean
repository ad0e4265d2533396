/-
  The iterator over the symbols of a unit, walked.
-/
import Derived.Test.YtihepogccgcfkaaDoorFldS
import Derived.Laws.EntriesVeiled
import Derived.Maps.OwnIn
namespace Go.Proofs.YtihepogccgcfkaaDoor
open Go.RowKit Go.Shelf
set_option linter.unusedVariables false
attribute [local go_sem] Oper.semAt_some

theorem cells2 (w : World) (o : Obj) (t : TypeId) (v : Value) : ((w.alloc (.cells #[v] t)).alloc o).cell? ⟨w.heap.size, 0, none⟩ = some v := by
  rw [World.cell?_of_block (w := w.alloc (.cells #[v] t)) (Below.heap_alloc _ _ _ (by simp))]
  exact cell_one w t v

set_option maxHeartbeats 400000 in
theorem symbols_any (m : Nat) (hm : Fm m) (s : ByteArray) (w : World) :
    Calls Tryd.prog 42 #[.int .i64 (m : Int), .string s] w fun e w' => e = .returned (.func (.func 43) #[] #[.pointer (some ⟨w.heap.size + 1, 0, none⟩), .pointer (some ⟨w.heap.size + 2, 0, none⟩), .pointer (some ⟨w.heap.size, 0, none⟩)]) ∧
      Below w.heap.size w w' ∧ w'.heap.size = w.heap.size + 3 ∧ w'.cell? ⟨w.heap.size, 0, none⟩ = some (.int .i64 (m : Int)) ∧ w'.cell? ⟨w.heap.size + 1, 0, none⟩ = some (.string s) ∧ w'.cell? ⟨w.heap.size + 2, 0, none⟩ = some (.int .i64 ((m / 8 : Nat) : Int)) := by
  have hquo : binOp .quo 3 (.int .i64 (m : Int)) (.int .i64 8) = pure (.int .i64 ((m / 8 : Nat) : Int)) := nquo 3 m 8 (by decide) (by have := fm_le hm; omega)
  clear hm
  generalize m / 8 = d at *
  go_enter Tryd.func42, Tryd.ntmps42
  go_wp2_with fail
  go_ret
  obtain ⟨w1, hw1⟩ : ∃ x, x = w.alloc (.cells #[.int .i64 (m : Int)] 3) := ⟨_, rfl⟩
  have z1 : w1.heap.size = w.heap.size + 1 := by rw [hw1]; simp
  have c1 : w1.cell? ⟨w.heap.size, 0, none⟩ = some (.int .i64 (m : Int)) := by rw [hw1]; exact cell_one _ _ _
  have b1 : Below w.heap.size w w1 := by rw [hw1]; exact below_new _ _
  obtain ⟨w2, hw2⟩ : ∃ x, x = w1.alloc (.cells #[.string s] 9) := ⟨_, rfl⟩
  have z2 : w2.heap.size = w.heap.size + 2 := by rw [hw2]; simp [z1]
  have c2 : w2.cell? ⟨w.heap.size + 1, 0, none⟩ = some (.string s) := by rw [hw2, ← z1]; exact cell_one _ _ _
  have b2 : Below w1.heap.size w1 w2 := by rw [hw2]; exact below_new _ _
  obtain ⟨w3, hw3⟩ : ∃ x, x = w2.alloc (.cells #[.int .i64 (d : Int)] 3) := ⟨_, rfl⟩
  have z3 : w3.heap.size = w.heap.size + 3 := by rw [hw3]; simp [z2]
  have c3 : w3.cell? ⟨w.heap.size + 2, 0, none⟩ = some (.int .i64 (d : Int)) := by rw [hw3, ← z2]; exact cell_one _ _ _
  have b3 : Below w2.heap.size w2 w3 := by rw [hw3]; exact below_new _ _
  rw [← hw1, ← hw2, ← hw3]
  have b13 : Below w1.heap.size w1 w3 := b2.trans (b3.mono (by omega))
  refine ⟨rfl, b1.trans (b13.mono (by omega)), z3, (b13.cell (p := ⟨w.heap.size, 0, none⟩) (by show w.heap.size < _; omega)).trans c1, (b3.cell (p := ⟨w.heap.size + 1, 0, none⟩) (by show w.heap.size + 1 < _; omega)).trans c2, c3⟩

theorem sy8_len (l : List UInt8) : (sy 8 l).length = l.length := by unfold sy; rw [if_neg (by decide), List.length_map]
theorem sy8_at (l : List UInt8) (j : Nat) (h : j < l.length) : (sy 8 l)[j]'(by rw [sy8_len]; exact h) = l[j].toNat := by
  have e : (sy 8 l)[j]? = some l[j].toNat := by
    unfold sy
    rw [if_neg (by decide), List.getElem?_map, List.getElem?_eq_getElem h]
    rfl
  have e2 := List.getElem?_eq_getElem (l := sy 8 l) (i := j) (by rw [sy8_len]; exact h)
  rw [e] at e2
  exact (Option.some.inj e2).symm
theorem sy16_len (l : List UInt8) (h : whl 16 l) : 2 * (sy 16 l).length = l.length := by
  revert h
  refine pairs (P := fun l => 2 * (sy 16 l).length = l.length) rfl ?_ l
  intro u v l _ ih
  show 2 * ((256 * u.toNat + v.toNat) :: sy 16 l).length = _
  simp only [List.length_cons] at ih ⊢
  omega
theorem sy16_at? (l : List UInt8) (h : whl 16 l) : ∀ j x y, l[2 * j]? = some x → l[2 * j + 1]? = some y → (sy 16 l)[j]? = some (256 * x.toNat + y.toNat) := by
  revert h
  refine pairs (P := fun l => ∀ j x y, l[2 * j]? = some x → l[2 * j + 1]? = some y → (sy 16 l)[j]? = some (256 * x.toNat + y.toNat)) ?_ ?_ l
  · intro j x y hx _
    simp at hx
  · intro u v l _ ih j x y hx hy
    show ((256 * u.toNat + v.toNat) :: sy 16 l)[j]? = _
    cases j with
    | zero =>
      simp only [Nat.mul_zero, Nat.zero_add, List.getElem?_cons_zero, List.getElem?_cons_succ, Option.some.injEq] at hx hy
      rw [List.getElem?_cons_zero, hx, hy]
    | succ j =>
      rw [show 2 * (j + 1) = 2 * j + 1 + 1 by omega, List.getElem?_cons_succ, List.getElem?_cons_succ] at hx
      rw [show 2 * (j + 1) + 1 = 2 * j + 1 + 1 + 1 by omega, List.getElem?_cons_succ, List.getElem?_cons_succ] at hy
      rw [List.getElem?_cons_succ]
      exact ih j x y hx hy
theorem sy16_at (l : List UInt8) (h : whl 16 l) (j : Nat) (hj : 2 * j + 1 < l.length) : (sy 16 l)[j]'(by have := sy16_len l h; omega) = 256 * l[2 * j].toNat + l[2 * j + 1].toNat := by
  have e := sy16_at? l h j _ _ (List.getElem?_eq_getElem (by omega)) (List.getElem?_eq_getElem hj)
  have e2 := List.getElem?_eq_getElem (l := sy 16 l) (i := j) (by have := sy16_len l h; omega)
  rw [e] at e2
  exact (Option.some.inj e2).symm
theorem or_bytes (u v : UInt8) : (u.toNat * 2 ^ 8) ||| v.toNat = 256 * u.toNat + v.toNat := by
  have := Nat.two_pow_add_eq_or_of_lt (i := 8) v.toNat_lt u.toNat
  rw [Nat.mul_comm, ← this]
theorem conv_u8 (u : UInt8) (W : World) : (convert 5 3 (bv u)).run Tryd.prog W = .ok (.int .i64 ((u.toNat : Nat) : Int)) W := by
  rw [run_convert_int (P := Tryd.prog) W 5 3 .u8 _ (by kernel_rfl) (by kernel_rfl), show Tryd.prog.intKind 3 = .i64 by kernel_rfl, IntWalk.i64_in _ (by have := u.toNat_lt; omega)]
/-- What the iterator over the symbols reads: three boxes. -/
def capS (B b : Nat) : Prop := b = B ∨ b = B + 1 ∨ b = B + 2

set_option maxHeartbeats 400000 in
set_option maxRecDepth 100000 in
theorem sym8_iter (l : List UInt8) (hl : l.length ≤ 100000) (B : Nat) (w0 : World) (hB : B + 2 < w0.heap.size) (hm : w0.cell? ⟨B, 0, none⟩ = some (.int .i64 8)) (hu : w0.cell? ⟨B + 1, 0, none⟩ = some (.string (str l))) (hd : w0.cell? ⟨B + 2, 0, none⟩ = some (.int .i64 1)) :
    Iter Tryd.prog 43 #[.pointer (some ⟨B + 1, 0, none⟩), .pointer (some ⟨B + 2, 0, none⟩), .pointer (some ⟨B, 0, none⟩)] (fun x : Nat => #[.int .i64 (x : Int)]) (sy 8 l) (capS B) w0 := by
  intro y T J Jx W hC hT1 hJ hJx hY h0
  have hcell : ∀ (k : Nat) (v : Value), capS B k → w0.cell? ⟨k, 0, none⟩ = some v → ∀ V : World, Keeps T W V → V.cell? ⟨k, 0, none⟩ = some v := fun k v hk hv V hV => by
    have h1 := hC k hk
    rw [hV.cell (p := ⟨k, 0, none⟩) (lt_of_block h1.1 h1.2) (fun h => (hT1 k h).2 hk), World.cell?_of_block (w := w0) (a := ⟨k, 0, none⟩) h1.2]
    exact hv
  have HM := hideIt (hcell B _ (Or.inl rfl) hm)
  have HU := hideIt (hcell (B + 1) _ (Or.inr (Or.inl rfl)) hu)
  have HD := hideIt (hcell (B + 2) _ (Or.inr (Or.inr rfl)) hd)
  have HY := hideIt hY
  have H0 := hideIt h0
  have HIX := hideIt (fun i hi W => str_at (P := Tryd.prog) (T := 9) Tryd.underlying9 l i hi W)
  have hsz := str_size l
  clear hC hT1 hJ hJx hY h0 hcell hm hu hd
  generalize str l = s at *
  refine callsIn_of_wp Tryd.func43 rfl trivial ?_
  simp only [Tryd.ntmps43, List.size_toArray, List.length_cons, List.length_nil, Nat.reduceAdd, Nat.reduceSub, Array.replicate_succ, Array.replicate_zero, List.push_toArray, List.append_toArray, List.nil_append, List.cons_append]
  gi_wp2
  gi_loopw [5] (fun i wr => ∃ j : Nat, j ≤ l.length ∧ i = .int .i64 j ∧ J ((sy 8 l).take j) wr ∧ Keeps T W wr) (fun i _ => l.length - (intOf i).toNat)
  case atStart => exact ⟨0, by omega, rfl, H0.out, Keeps.refl T W⟩
  case round =>
    obtain ⟨j, hj, rfl, hJs, hKs⟩ := hrel
    by_cases hlt : j < l.length
    · have h1 := HM.out _ hKs
      have h2 := HU.out _ hKs
      have h3 := HD.out _ hKs
      have hat := sy8_at l j hlt
      have hpre := take_pre (sy 8 l) j (by rw [sy8_len]; exact hlt)
      have hsn : (sy 8 l).take (j + 1) = (sy 8 l).take j ++ [(sy 8 l)[j]'(by rw [sy8_len]; exact hlt)] := take_snoc _ _ _
      rw [hat] at hpre hsn
      have HSN := hideIt hsn
      have hix := fun W => HIX.out j hlt W
      have hcv := fun W => conv_u8 l[j] W
      obtain ⟨fn, tmps, assign, body, hy, hR⟩ := HY.out _ l[j].toNat wr hpre hKs hJs
      have hinc := inc_c 3 j (by omega)
      have hji : (j : Int) < (l.length : Int) := by omega
      clear hat hpre hsn
      generalize l[j] = u at *
      generalize u.toNat = x at *
      gi_wp2
      refine ⟨rfl, ?_⟩
      refine hR.mono ?_
      rintro e W3 (⟨rfl, hK3, hJ3⟩ | ⟨rfl, hK3, hJx3⟩)
      · have h4 := HD.out _ (hKs.trans hK3)
        gi_wp2
        go_roundw
        case rel => exact ⟨j + 1, by omega, by go_num, by rw [HSN.out]; exact hJ3, hKs.trans hK3⟩
        case measure => simp [intOf]; omega
      · gi_wp2
        refine bodyPost_ret (results_none rfl _ _ _) rfl ?_
        exact ⟨⟨_, rfl⟩, hKs.trans hK3, .inr ⟨_, by rw [← HSN.out]; exact List.take_prefix _ _, hJx3⟩⟩
    · have h2 := HU.out _ hKs
      have hji : ¬ (j : Int) < (l.length : Int) := by omega
      obtain rfl : j = l.length := by omega
      rw [List.take_of_length_le (by rw [sy8_len]; omega)] at hJs
      gi_wp2
      go_end0
      exact ⟨⟨_, rfl⟩, hKs, .inl hJs⟩

set_option maxHeartbeats 400000 in
set_option maxRecDepth 100000 in
theorem sym16_iter (l : List UInt8) (hw : whl 16 l) (hl : l.length ≤ 100000) (B : Nat) (w0 : World) (hB : B + 2 < w0.heap.size) (hm : w0.cell? ⟨B, 0, none⟩ = some (.int .i64 16)) (hu : w0.cell? ⟨B + 1, 0, none⟩ = some (.string (str l))) (hd : w0.cell? ⟨B + 2, 0, none⟩ = some (.int .i64 2)) :
    Iter Tryd.prog 43 #[.pointer (some ⟨B + 1, 0, none⟩), .pointer (some ⟨B + 2, 0, none⟩), .pointer (some ⟨B, 0, none⟩)] (fun x : Nat => #[.int .i64 (x : Int)]) (sy 16 l) (capS B) w0 := by
  intro y T J Jx W hC hT1 hJ hJx hY h0
  have hcell : ∀ (k : Nat) (v : Value), capS B k → w0.cell? ⟨k, 0, none⟩ = some v → ∀ V : World, Keeps T W V → V.cell? ⟨k, 0, none⟩ = some v := fun k v hk hv V hV => by
    have h1 := hC k hk
    rw [hV.cell (p := ⟨k, 0, none⟩) (lt_of_block h1.1 h1.2) (fun h => (hT1 k h).2 hk), World.cell?_of_block (w := w0) (a := ⟨k, 0, none⟩) h1.2]
    exact hv
  have HM := hideIt (hcell B _ (Or.inl rfl) hm)
  have HU := hideIt (hcell (B + 1) _ (Or.inr (Or.inl rfl)) hu)
  have HD := hideIt (hcell (B + 2) _ (Or.inr (Or.inr rfl)) hd)
  have HY := hideIt hY
  have H0 := hideIt h0
  have HIX := hideIt (fun i hi W => str_at (P := Tryd.prog) (T := 9) Tryd.underlying9 l i hi W)
  have hsz := str_size l
  have HW := hideIt hw
  have hsl := sy16_len l hw
  clear hC hT1 hJ hJx hY h0 hcell hm hu hd hw
  generalize str l = s at *
  refine callsIn_of_wp Tryd.func43 rfl trivial ?_
  simp only [Tryd.ntmps43, List.size_toArray, List.length_cons, List.length_nil, Nat.reduceAdd, Nat.reduceSub, Array.replicate_succ, Array.replicate_zero, List.push_toArray, List.append_toArray, List.nil_append, List.cons_append]
  gi_wp2
  gi_loopw [5] (fun i wr => ∃ j : Nat, 2 * j ≤ l.length ∧ i = .int .i64 ((2 * j : Nat) : Int) ∧ J ((sy 16 l).take j) wr ∧ Keeps T W wr) (fun i _ => l.length - (intOf i).toNat)
  case atStart => exact ⟨0, by omega, rfl, H0.out, Keeps.refl T W⟩
  case round =>
    obtain ⟨j, hj, rfl, hJs, hKs⟩ := hrel
    by_cases hlt : 2 * j < l.length
    · have h1 := HM.out _ hKs
      have h2 := HU.out _ hKs
      have h3 := HD.out _ hKs
      have hlt2 : 2 * j + 1 < l.length := by omega
      have hat := sy16_at l HW.out j hlt2
      have hpre := take_pre (sy 16 l) j (by omega)
      have hsn : (sy 16 l).take (j + 1) = (sy 16 l).take j ++ [(sy 16 l)[j]'(by omega)] := take_snoc _ _ _
      rw [hat] at hpre hsn
      have HSN := hideIt hsn
      have hix0 := fun W => HIX.out (2 * j) hlt W
      have hix1 := fun W => HIX.out (2 * j + 1) hlt2 W
      have hcv0 := fun W => conv_u8 l[2 * j] W
      have hcv1 := fun W => conv_u8 l[2 * j + 1] W
      have hshl : binOp .shl 3 (.int .i64 ((l[2 * j].toNat : Nat) : Int)) (.int .u64 8) = pure (.int .i64 ((l[2 * j].toNat * 2 ^ 8 : Nat) : Int)) := nshl 3 (k := .u64) l[2 * j].toNat 8 (by omega) (by have := l[2 * j].toNat_lt; omega)
      have hor := nor 3 (l[2 * j].toNat * 2 ^ 8) l[2 * j + 1].toNat (by have := l[2 * j].toNat_lt; omega) (by have := l[2 * j + 1].toNat_lt; omega)
      rw [or_bytes] at hor
      obtain ⟨fn, tmps, assign, body, hy, hR⟩ := HY.out _ _ wr hpre hKs hJs
      have hinc := inc_c 3 (2 * j) (by omega)
      have hadd : binOp .add 3 (.int .i64 ((2 * j : Nat) : Int)) (.int .i64 2) = pure (.int .i64 ((2 * (j + 1) : Nat) : Int)) := nadd 3 (2 * j) 2 (by omega)
      have hji : ((2 * j : Nat) : Int) < (l.length : Int) := by omega
      clear hat hpre hsn
      generalize l[2 * j] = u at *
      generalize l[2 * j + 1] = v at *
      generalize 256 * u.toNat + v.toNat = x at *
      generalize u.toNat * 2 ^ 8 = y1 at *
      generalize u.toNat = y2 at *
      generalize v.toNat = y3 at *
      obtain ⟨i2, hi2⟩ : ∃ i2, i2 = 2 * (j + 1) := ⟨_, rfl⟩
      rw [← hi2] at hadd
      have HI2 := hideIt (show i2 = 2 * (j + 1) ∧ 2 * j < i2 from ⟨hi2, by omega⟩)
      have HLT2 := hideIt hlt2
      clear hi2 hlt2 hlt
      generalize hi1 : 2 * j + 1 = i1 at *
      have HI1 := hideIt hi1
      clear hi1
      generalize hi0 : 2 * j = i0 at *
      have HI0 := hideIt hi0
      have hs1 : (i1 : Int) < (l.length : Int) := by have := HLT2.out; omega
      clear hj hi0
      gi_wp2
      refine ⟨rfl, ?_⟩
      refine hR.mono ?_
      rintro e W3 (⟨rfl, hK3, hJ3⟩ | ⟨rfl, hK3, hJx3⟩)
      · have h4 := HD.out _ (hKs.trans hK3)
        gi_wp2
        go_roundw
        case rel => exact ⟨j + 1, by have := HI2.out; have := HLT2.out; have := HI1.out; have := HI0.out; omega, by rw [← HI2.out.1], by rw [HSN.out]; exact hJ3, hKs.trans hK3⟩
        case measure => have := HI2.out; have := HLT2.out; have := HI1.out; have := HI0.out; simp [intOf]; omega
      · gi_wp2
        refine bodyPost_ret (results_none rfl _ _ _) rfl ?_
        exact ⟨⟨_, rfl⟩, hKs.trans hK3, .inr ⟨_, by rw [← HSN.out]; exact List.take_prefix _ _, hJx3⟩⟩
    · have h2 := HU.out _ hKs
      have hji : ¬ ((2 * j : Nat) : Int) < (l.length : Int) := by omega
      have hjl : 2 * j = l.length := by omega
      rw [hjl] at hji ⊢
      rw [List.take_of_length_le (by omega)] at hJs
      gi_wp2
      go_end0
      exact ⟨⟨_, rfl⟩, hKs, .inl hJs⟩

end Go.Proofs.YtihepogccgcfkaaDoor
