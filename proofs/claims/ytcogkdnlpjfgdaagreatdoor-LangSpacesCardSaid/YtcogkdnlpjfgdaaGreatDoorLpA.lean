/-
  Numbers as texts, walked: strconv.Itoa, numerals.
-/
import Derived.Test.YtcogkdnlpjfgdaaGreatDoorCodL
import Derived.Test.YtcogkdnlpjfgdaaGreatDoorLayB
import Derived.Shelf.Strconv.Itoa3
import Derived.Shelf.Strings.Builder1
import Derived.Lib.LaidTab
namespace Go.Proofs.YtcogkdnlpjfgdaaGreatDoor
open Go.RowKit Go.Sort
set_option linter.unusedVariables false
set_option linter.unusedSimpArgs false

theorem ss_append (a b : Bs) : ss a ++ ss b = ss (a ++ b) := by
  unfold ss
  show (⟨(ByteArray.append _ _).data⟩ : ByteArray) = _
  simp
theorem s_add (t : TypeId) (a b : Bs) (h : a.length + b.length ≤ 9223372036854775807) : binOp .add t (sv a) (sv b) = pure (sv (a ++ b)) := by
  rw [binOp_string_add]
  unfold Op.stringOp
  have h2 : ¬ (((ss a).size + (ss b).size : Nat) : Int) > IntKind.i64.max := by
    rw [ss_size, ss_size]
    show ¬ ((a.length + b.length : Nat) : Int) > 9223372036854775807
    omega
  dsimp only
  rw [if_neg h2, ss_append]
/-- The table of powers of ten lies as it was laid. -/
def TabW (w : World) : Prop := Lib.TabIs Tryz.prog w "internal/strconv.uint64pow10" .u64 Lib.pow10Tab
theorem gP10 : Tryz.prog.globalNamed "internal/strconv.uint64pow10" = some 2 := by kernel_rfl
theorem TabW.lt {w : World} (h : TabW w) : 2 < w.heap.size := by
  unfold TabW Lib.TabIs World.var? at h
  rw [gP10] at h
  rcases Nat.lt_or_ge 2 w.heap.size with q | q
  · exact q
  · rw [Option.bind_some, Array.getElem?_eq_none q] at h
    cases h
theorem TabW.keep {w w' : World} (h : TabW w) (hb : Below w.heap.size w w') : TabW w' := by
  have hlt := h.lt
  unfold TabW Lib.TabIs World.var? at h ⊢
  rw [gP10] at h ⊢
  rw [Option.bind_some] at h ⊢
  rw [hb.block _ hlt]
  exact h
theorem decDigits_is (n : Nat) : Lib.decDigits n = numS n := by
  induction n using Nat.strongRecOn with
  | _ n ih =>
    rw [Lib.decDigits, numS]
    by_cases h : n < 10
    · rw [dif_pos h, if_pos h]
    · rw [dif_neg h, if_neg h, ih (n / 10) (by omega)]
theorem below_drewG (w : World) (k : Nat) (os : Array Obj) : Below w.heap.size w (grow (w.drewN k) os) :=
  ⟨rfl, rfl, rfl, by show w.heap.size ≤ (w.heap ++ os).size; simp, fun i hi => by show (w.heap ++ os)[i]? = w.heap[i]?; rw [Array.getElem?_append_left hi]⟩
theorem itoa_any (x : Int) (h0 : 0 ≤ x) (h1 : x ≤ 9223372036854775807) (w : World) (ht : TabW w) : Calls Tryz.prog 55 #[.int .i64 x] w fun e w' => e = .returned (sv (numS x.toNat)) ∧ Below w.heap.size w w' := by
  refine (Any.strconv_Itoa layItoa x (by omega) h1 w ht).mono ?_
  rintro e w' ⟨rfl, k, os, rfl⟩
  refine ⟨?_, below_drewG w k os⟩
  unfold Lib.itoa
  rw [if_neg (by omega), decDigits_is]
  rfl

abbrev bT : TypeId := 42
theorem builder_kept {B b : Nat} {bs : List Value} {w w' : World} (h : Lib.IsBuilder 42 5 B b bs w) (hb : Below w.heap.size w w') : Lib.IsBuilder 42 5 B b bs w' := by
  have k : ∀ p, Lib.BuilderAt 42 5 B b p bs w → Lib.BuilderAt 42 5 B b p bs w' := by
    rintro p ⟨h1, v, h2, h3, h4⟩
    exact ⟨h1, v, (hb.block b (Array.getElem?_eq_some_iff.1 h2).1).trans h2, own_kept h3 hb, h4⟩
  exact h.elim (fun h => .inl (k _ h)) (fun h => .inr (k _ h))
theorem builder_new (w : World) : Lib.IsBuilder 42 5 w.heap.size w.heap.size [] (w.alloc (.cells #[.pointer none, .slice none 0 0] 42)) :=
  .inl ⟨Nat.le_refl _, .slice none 0 0, by show (w.heap.push _)[w.heap.size]? = _; simp, World.ownsRow_nil _ _ _ _, by intro h; cases h⟩
theorem str_cells (l : Bs) : Lib.strCells (ss l) = Lib.byteCells l := by rw [Lib.strCells_eq, ss_list]
theorem cells_append (a b : Bs) : Lib.byteCells a ++ Lib.byteCells b = Lib.byteCells (a ++ b) := by unfold Lib.byteCells; rw [List.map_append]
theorem ws_any (B b : Nat) (l s : Bs) (w : World) (h : Lib.IsBuilder 42 5 B b (Lib.byteCells l) w) (hlen : l.length + s.length ≤ 140737488355328) (hBw : B ≤ w.heap.size) :
    Calls Tryz.prog 24 #[.pointer (some ⟨b, 0, none⟩), sv s] w fun e w' => e = .returned (.tuple #[.int .i64 (s.length : Int), .nilIface]) ∧ Lib.IsBuilder 42 5 B b (Lib.byteCells (l ++ s)) w' ∧ Below B w w' := by
  refine (Any.Builder_WriteString layWS layX B b (Lib.byteCells l) (ss s) w h (by rw [Lib.byteCells_length, ss_size]; exact hlen) hBw).mono ?_
  rintro e w' ⟨rfl, h1, h2⟩
  rw [str_cells, cells_append] at h1
  exact ⟨by rw [ss_size], .inr h1, h2⟩
theorem bs_any (B b : Nat) (l : Bs) (w : World) (h : Lib.IsBuilder 42 5 B b (Lib.byteCells l) w) (hBw : B ≤ w.heap.size) :
    Calls Tryz.prog 26 #[.pointer (some ⟨b, 0, none⟩)] w fun e w' => e = .returned (sv l) ∧ Below B w w' := by
  refine (Any.Builder_String_any layBS layX B b l w h hBw).mono ?_
  rintro e w' ⟨rfl, h2⟩
  exact ⟨rfl, h2⟩

theorem sp_len (n : Nat) (h : n ≤ 100000) : (sp n).length ≤ 8 := by
  have := numS_len 6 n (by omega)
  unfold sp
  rw [List.length_cons]
  omega
theorem fsp_len : ∀ (l : List Nat), (∀ x ∈ l, x ≤ 100000) → (l.flatMap sp).length ≤ 8 * l.length
  | [], _ => by simp
  | x :: r, h => by
    rw [List.flatMap_cons, List.length_append, List.length_cons]
    have h1 := sp_len x (h x (by simp))
    have h2 := fsp_len r (fun y hy => h y (by simp [hy]))
    omega
set_option maxHeartbeats 1000000 in
set_option maxRecDepth 100000 in
theorem numerals_any (l : List Int) (hr : ∀ x ∈ l, 0 ≤ x ∧ x ≤ 100000) (hl : l.length ≤ 100000) (A : Option Addr) (c B : Nat) (w : World) (hs : Sl w B A 1 l.length (l.map iv)) (hB : B ≤ w.heap.size) (ht : TabW w) :
    Calls Tryz.prog 29 #[.slice A l.length c] w fun e w' => e = .returned (sv ((l.map Int.toNat).flatMap sp)) ∧ Below w.heap.size w w' := by
  have HS := hideIt hs
  have HBB := hideIt hB
  have HR := hideIt hr
  have HT := hideIt ht
  obtain ⟨n, hn⟩ : ∃ n, n = l.length := ⟨_, rfl⟩
  rw [← hn] at hl ⊢
  have HN := hideIt hn
  obtain ⟨W1, hW1⟩ : ∃ W1, W1 = w.alloc (.cells #[.pointer none, .slice none 0 0] 42) := ⟨_, rfl⟩
  have HB0 : Hid (Below w.heap.size w W1) := by rw [hW1]; exact below_new w _
  have HBU : Hid (Lib.IsBuilder 42 5 w.heap.size w.heap.size (Lib.byteCells []) W1) := by rw [hW1]; exact builder_new w
  have HW1 := hideIt hW1
  clear hs hB hr ht hn hW1
  go_enter Tryz.func29, Tryz.ntmps29
  go_wp2_with fail
  rw [← HW1.out]
  go_loopg [8] n (fun gk s8 wr => ∃ j : Nat, j + gk = n ∧ s8 = .int .i64 (j : Int) ∧ Aside (Below w.heap.size w wr ∧ Lib.IsBuilder 42 5 w.heap.size w.heap.size (Lib.byteCells (((l.take j).map Int.toNat).flatMap sp)) wr))
  case atStart => exact ⟨0, by omega, rfl, HB0.out, HBU.out⟩
  case round =>
    obtain ⟨j, hj, rfl, HI⟩ := hrel
    by_cases hlt : j < n
    · have hjl : j < l.length := by rw [← HN.out]; exact hlt
      obtain ⟨b, o, hA, hb, hc⟩ := HS.out.num hjl
      subst hA
      have q1 : wr.cell? ⟨b, o + j, none⟩ = some (.int .i64 l[j]) := (HI.out.1.cell (p := ⟨b, _, none⟩) (Nat.lt_of_lt_of_le hb HBB.out)).trans hc
      have HTK := hideIt (take_snoc l j hjl)
      have hx := HR.out _ (List.getElem_mem hjl)
      have HIT := hideIt (itoa_any l[j] hx.1 (by omega) wr (HT.out.keep HI.out.1))
      have hsn := numS_len 6 (l[j]).toNat (by omega)
      have hadd := s_add 9 [32] (numS (l[j]).toNat) (by simp; omega)
      have hlen : (((l.take j).map Int.toNat).flatMap sp).length + ([32] ++ numS (l[j]).toNat).length ≤ 140737488355328 := by
        have h1 := fsp_len ((l.take j).map Int.toNat) (fun x hx => by
          obtain ⟨y, hy, rfl⟩ := List.mem_map.1 hx
          have := HR.out y (List.mem_of_mem_take hy)
          omega)
        rw [List.length_map, List.length_take] at h1
        have h3 : ([32] ++ numS (l[j]).toNat).length = (numS (l[j]).toNat).length + 1 := rfl
        rw [h3]
        omega
      have HWS := hideIt (fun W hb hw => ws_any w.heap.size w.heap.size (((l.take j).map Int.toNat).flatMap sp) ([32] ++ numS (l[j]).toNat) W hb hlen hw)
      have hadd : binOp .add 9 (.string ⟨#[32]⟩) (sv (numS (l[j]).toNat)) = pure (sv ([32] ++ numS (l[j]).toNat)) := hadd
      have hinc := inc_w 3 j (by omega)
      have hji : (j : Int) < (n : Int) := by omega
      generalize l[j] = x at *
      clear hb hc hjl hx hsn hlen
      go_wp2_with (first
        | (go_at_call 24; refine (HWS.out _ HBU1.out HX1.out.size).mono ?_; rintro e w2 ⟨rfl, hbu, hb⟩; have HX2 := hideIt (HX1.out.trans hb); have HBU2 := hideIt hbu; clear hb hbu)
        | (go_at_call 55; refine HIT.out.mono ?_; rintro e w1 ⟨rfl, hb⟩; have HX1 := hideIt (HI.out.1.trans (hb.mono HI.out.1.size)); have HBU1 := hideIt (builder_kept HI.out.2 hb); clear hb))
      go_roundg (gk - 1)
      case measure => omega
      case rel =>
        refine ⟨j + 1, by omega, by go_num, HX2.out, ?_⟩
        rw [HTK.out, List.map_append, List.flatMap_append]
        have := HBU2.out
        simpa [sp] using this
    · have hji : ¬ (j : Int) < (n : Int) := by omega
      have HBS := hideIt (bs_any w.heap.size w.heap.size _ wr HI.out.2 HI.out.1.size)
      rw [List.take_of_length_le (by rw [← HN.out]; omega)] at HBS
      go_wp2_with (go_at_call 26; refine HBS.out.mono ?_; rintro e w1 ⟨rfl, hb⟩; have HB1 := hideIt hb; clear hb)
      go_ret
      exact ⟨rfl, HI.out.1.trans HB1.out⟩

end Go.Proofs.YtcogkdnlpjfgdaaGreatDoor
