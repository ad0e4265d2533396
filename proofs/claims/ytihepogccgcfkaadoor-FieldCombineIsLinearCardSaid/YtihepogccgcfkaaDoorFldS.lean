/-
  The field's small functions on units, walked: whole, add.
-/
import Derived.Test.YtihepogccgcfkaaDoorFldL
import Derived.Test.YtihepogccgcfkaaDoorFldM
namespace Go.Proofs.YtihepogccgcfkaaDoor
open Go.RowKit Go.Shelf
set_option linter.unusedVariables false

theorem str_at {P : Program} {T : TypeId} (hT : P.underlying T = some .string) (l : List UInt8) (i : Nat) (hi : i < l.length) (W : World) : (Instr.index T (.string (str l)) (.int .i64 (i : Int))).run P W = .ok (bv l[i]) W := by
  rw [run_index_string W T _ _ _ hT, dif_pos (by rw [str_size]; omega)]
  unfold str
  simp [ByteArray.getElem_eq_getElem_data]

/-- The first j bytes of a sum. -/
def xrK (a b : List UInt8) (j : Nat) : List UInt8 := xr (a.take j) (b.take j) ++ a.drop j
theorem xrK_zero (a b : List UInt8) : xrK a b 0 = a := by simp [xrK, xr]
theorem xrK_all (a b : List UInt8) (h : a.length = b.length) : xrK a b a.length = xr a b := by
  unfold xrK
  rw [List.drop_length, List.append_nil, List.take_length, h, List.take_length]
theorem xrK_len (a b : List UInt8) (h : a.length = b.length) (j : Nat) : (xrK a b j).length = a.length := by
  unfold xrK
  rw [List.length_append, xr_len _ _ (by rw [List.length_take, List.length_take, h]), List.length_take, List.length_drop]
  omega
theorem xrK_at (a b : List UInt8) (h : a.length = b.length) (j : Nat) (hj : j < a.length) : (xrK a b j)[j]'(by rw [xrK_len a b h]; exact hj) = a[j] := by
  have hl : (xr (a.take j) (b.take j)).length = j := by rw [xr_len _ _ (by rw [List.length_take, List.length_take, h]), List.length_take]; omega
  have e : (xrK a b j)[j]? = some a[j] := by
    unfold xrK
    rw [List.getElem?_append_right (by omega), hl, Nat.sub_self, List.getElem?_drop, Nat.add_zero, List.getElem?_eq_getElem hj]
  have e2 := List.getElem?_eq_getElem (l := xrK a b j) (i := j) (by rw [xrK_len a b h]; exact hj)
  rw [e] at e2
  exact (Option.some.inj e2).symm
theorem xrK_set (a b : List UInt8) (h : a.length = b.length) (j : Nat) (hj : j < a.length) : (xrK a b j).set j (a[j] ^^^ b[j]'(by omega)) = xrK a b (j + 1) := by
  have hl : (xr (a.take j) (b.take j)).length = j := by rw [xr_len _ _ (by rw [List.length_take, List.length_take, h]), List.length_take]; omega
  unfold xrK
  rw [List.set_append_right _ _ (by omega), hl, Nat.sub_self, List.drop_eq_getElem_cons hj, List.set_cons_zero, take_snoc a j hj, take_snoc b j (by omega)]
  unfold xr
  rw [List.zipWith_append (by rw [List.length_take, List.length_take, h])]
  simp

theorem m8_pos {m : Nat} (hm : Fm m) : 0 < m / 8 := by rcases hm with rfl | rfl <;> decide
set_option maxHeartbeats 400000 in
theorem whole_any (m : Nat) (l : List UInt8) (hm : Fm m) (w : World) :
    Calls Tryd.prog 39 #[.int .i64 (m : Int), .string (str l)] w fun e w' => e = .returned (.bool (decide (l.length % (m / 8) = 0))) ∧ w = w' := by
  have hsz := str_size l
  have hquo : binOp .quo 3 (.int .i64 (m : Int)) (.int .i64 8) = pure (.int .i64 ((m / 8 : Nat) : Int)) := nquo 3 m 8 (by decide) (by have := fm_le hm; omega)
  have hrem := nrem 3 l.length (m / 8) (m8_pos hm)
  generalize m / 8 = d at *
  by_cases hw : l.length % d = 0
  · rw [decide_eq_true hw]
    have hq := int_eqlT 3 (a := ((l.length % d : Nat) : Int)) (b := 0) (by omega)
    clear hw hm
    generalize str l = s at *
    generalize l.length % d = z at *
    generalize l.length = n at *
    go_enter Tryd.func39, Tryd.ntmps39
    go_wp2_with fail
    go_ret
    exact ⟨rfl, rfl⟩
  · rw [decide_eq_false hw]
    have hq := int_eqlF 3 (a := ((l.length % d : Nat) : Int)) (b := 0) (by omega)
    clear hw hm
    generalize str l = s at *
    generalize l.length % d = z at *
    generalize l.length = n at *
    go_enter Tryd.func39, Tryd.ntmps39
    go_wp2_with fail
    go_ret
    exact ⟨rfl, rfl⟩

set_option maxHeartbeats 400000 in
theorem adds_any (a b : List UInt8) (h : a.length = b.length) (hl : a.length ≤ 100000) (g c : Nat) (w : World) (hr : BRow w g a) :
    Calls Tryd.prog 40 #[.slice (some ⟨g, 0, none⟩) a.length c, .string (str b)] w fun e w' => e = .returned (.tuple #[]) ∧ BRow w' g (xr a b) ∧ Keeps (fun k => k = g) w w' := by
  have hix := fun i hi W => str_at (P := Tryd.prog) (T := 9) Tryd.underlying9 b i hi W
  have HIX := hideIt hix
  have HH := hideIt h
  have HL := hideIt hl
  have HR := hideIt hr
  obtain ⟨n, hn⟩ : ∃ n, n = a.length := ⟨_, rfl⟩
  rw [← hn]
  have HN := hideIt hn
  clear hix h hl hr hn
  generalize str b = s at *
  go_enter Tryd.func40, Tryd.ntmps40
  go_wp2_with fail
  go_loopg [4, 7] n (fun gk s4 s7 wr => ∃ j : Nat, j + gk = n ∧ s7 = .int .i64 (j : Int) ∧ Aside (BRow wr g (xrK a b j) ∧ Keeps (fun k => k = g) w wr))
  case atStart => exact ⟨0, by omega, rfl, by rw [xrK_zero]; exact HR.out, Keeps.refl _ _⟩
  case round =>
    obtain ⟨j, hj, rfl, HI⟩ := hrel
    by_cases hlt : j < n
    · have hja : j < a.length := by rw [← HN.out]; exact hlt
      have hjb : j < b.length := by rw [← HH.out]; exact hja
      have hcell := HI.out.1.cell j (by rw [xrK_len a b HH.out]; exact hja)
      rw [xrK_at a b HH.out j hja] at hcell
      have hfree := HI.out.1.free j (by rw [xrK_len a b HH.out]; exact hja)
      have hst := (show BRow wr.drew g (xrK a b j) from ⟨HI.out.1.lt, HI.out.1.cell, HI.out.1.free⟩).store j (by rw [xrK_len a b HH.out]; exact hja) (a[j] ^^^ b[j])
      rw [xrK_set a b HH.out j hja] at hst
      have HST := hideIt hst
      have hix := fun W => HIX.out j hjb W
      have hxor := xor_c 5 a[j] b[j]
      have hinc := inc_c 3 j (by have := HL.out; omega)
      have hji : (j : Int) < (n : Int) := by omega
      have HK := hideIt HI.out.2
      clear hst HI
      generalize a[j] = u at *
      generalize b[j] = v at *
      clear hja hjb
      generalize u ^^^ v = y at *
      go_wp2_with fail
      refine still_tail 9 (by kernel_rfl) (by kernel_rfl) ?_
      intro w3 hw3
      have h2D : w3.cell? ⟨g, j, none⟩ = some (bv u) := by rw [hw3]; exact hcell
      have h3D : w3.frozen? ⟨g, j, none⟩ = false := by rw [hw3]; exact hfree
      rw [← hw3] at HST
      have HKW3 := hideIt (show Keeps (fun q => q = g) w w3 by rw [hw3]; exact HK.out.drew)
      clear hcell hfree hw3
      simp only [List.take_succ_cons, List.take_zero, List.drop_succ_cons, List.drop_zero]
      repeat still_step
      refine wpStill_nil ?_
      go_wp2_with fail
      go_roundg (gk - 1)
      case measure => omega
      case rel => exact ⟨j + 1, by omega, by go_num, HST.out, HKW3.out.setCell rfl _⟩
    · obtain rfl : j = n := by omega
      have HE := hideIt (show BRow wr g (xr a b) by have := HI.out.1; rw [HN.out, xrK_all a b HH.out] at this; exact this)
      have HK := hideIt HI.out.2
      clear HI
      go_wp2_with fail
      go_end0
      exact ⟨rfl, HE.out, HK.out⟩

set_option maxHeartbeats 400000 in
theorem addb_any (a b : List UInt8) (h : a.length = b.length) (hl : a.length ≤ 100000) (g c : Nat) (w : World) (hr : BRow w g a) (A : Option Addr) (c2 : Nat) (hs : Sl w w.heap.size A 1 b.length (b.map bv)) (hne : ∀ k o, A = some ⟨k, o, none⟩ → k ≠ g) :
    Calls Tryd.prog 37 #[.slice (some ⟨g, 0, none⟩) a.length c, .slice A b.length c2] w fun e w' => e = .returned (.tuple #[]) ∧ BRow w' g (xr a b) ∧ Keeps (fun k => k = g) w w' := by
  have HSL := hideIt hs
  have HNE := hideIt hne
  have HH := hideIt h
  have HL := hideIt hl
  have HR := hideIt hr
  obtain ⟨n, hn⟩ : ∃ n, n = a.length := ⟨_, rfl⟩
  rw [← h, ← hn]
  have HN := hideIt hn
  clear hs hne h hl hr hn
  go_enter Tryd.func37, Tryd.ntmps37
  go_wp2_with fail
  go_loopg [4, 7] n (fun gk s4 s7 wr => ∃ j : Nat, j + gk = n ∧ s7 = .int .i64 (j : Int) ∧ Aside (BRow wr g (xrK a b j) ∧ Keeps (fun k => k = g) w wr))
  case atStart => exact ⟨0, by omega, rfl, by rw [xrK_zero]; exact HR.out, Keeps.refl _ _⟩
  case round =>
    obtain ⟨j, hj, rfl, HI⟩ := hrel
    by_cases hlt : j < n
    · have hja : j < a.length := by rw [← HN.out]; exact hlt
      have hjb : j < b.length := by rw [← HH.out]; exact hja
      have hcell := HI.out.1.cell j (by rw [xrK_len a b HH.out]; exact hja)
      rw [xrK_at a b HH.out j hja] at hcell
      have hfree := HI.out.1.free j (by rw [xrK_len a b HH.out]; exact hja)
      have hst := (show BRow wr.drew g (xrK a b j) from ⟨HI.out.1.lt, HI.out.1.cell, HI.out.1.free⟩).store j (by rw [xrK_len a b HH.out]; exact hja) (a[j] ^^^ b[j])
      rw [xrK_set a b HH.out j hja] at hst
      have HST := hideIt hst
      obtain ⟨k, off, hA, hk, hcb0⟩ := HSL.out.byte hjb
      have hkg := HNE.out k off hA
      subst hA
      have hcb := (HI.out.2.cell (p := ⟨k, off + j, none⟩) hk hkg).trans hcb0
      clear hk hkg hcb0
      have hxor := xor_c 5 a[j] b[j]
      have hinc := inc_c 3 j (by have := HL.out; omega)
      have hji : (j : Int) < (n : Int) := by omega
      have HK := hideIt HI.out.2
      clear hst HI
      generalize a[j] = u at *
      generalize b[j] = v at *
      clear hja hjb
      generalize u ^^^ v = y at *
      go_wp2_with fail
      refine still_tail 10 (by kernel_rfl) (by kernel_rfl) ?_
      intro w3 hw3
      have h2D : w3.cell? ⟨g, j, none⟩ = some (bv u) := by rw [hw3]; exact hcell
      have h3D : w3.frozen? ⟨g, j, none⟩ = false := by rw [hw3]; exact hfree
      rw [← hw3] at HST
      have HKW3 := hideIt (show Keeps (fun q => q = g) w w3 by rw [hw3]; exact HK.out.drew)
      have h4D : w3.cell? ⟨k, off + j, none⟩ = some (bv v) := by rw [hw3]; exact hcb
      clear hcell hfree hw3 hcb
      simp only [List.take_succ_cons, List.take_zero, List.drop_succ_cons, List.drop_zero]
      repeat still_step
      refine wpStill_nil ?_
      go_wp2_with fail
      go_roundg (gk - 1)
      case measure => omega
      case rel => exact ⟨j + 1, by omega, by go_num, HST.out, HKW3.out.setCell rfl _⟩
    · obtain rfl : j = n := by omega
      have HE := hideIt (show BRow wr g (xr a b) by have := HI.out.1; rw [HN.out, xrK_all a b HH.out] at this; exact this)
      have HK := hideIt HI.out.2
      clear HI
      go_wp2_with fail
      go_end0
      exact ⟨rfl, HE.out, HK.out⟩

end Go.Proofs.YtihepogccgcfkaaDoor
