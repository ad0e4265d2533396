/-
  The laws' small functions, walked: small, ints, distinct, minus, code.
-/
import Derived.Test.YtkfahoaiialndaaGreatDoorD9a
import Derived.Test.YtkfahoaiialndaaGreatDoorD9b
import Derived.Test.YtkfahoaiialndaaGreatDoorD9c
import Derived.Test.YtkfahoaiialndaaGreatDoorD9d
import Derived.Test.YtkfahoaiialndaaGreatDoorDstA
import Derived.Test.YtkfahoaiialndaaGreatDoorDstB
import Derived.Test.YtkfahoaiialndaaGreatDoorDstR
import Derived.Test.YtkfahoaiialndaaGreatDoorDstS
namespace Go.Proofs.YtkfahoaiialndaaGreatDoor
open Go.RowKit
set_option linter.unusedVariables false
set_option linter.unusedSimpArgs false

def sm9B (x : Cd) : Bool := decide (0 ≤ x.data) && decide (x.data ≤ 6) && decide (x.par.length ≤ 5) && decide (x.data + x.par.length ≤ 9)
theorem sm9B_sm {x : Cd} (h : sm9B x = true) : Sm9 x := by
  unfold sm9B at h
  simp only [Bool.and_eq_true, decide_eq_true_eq] at h
  exact ⟨h.1.1.1, h.1.1.2, h.1.2, h.2⟩
set_option maxHeartbeats 1000000 in
set_option maxRecDepth 100000 in
theorem small9_any (x : Cd) (A : Option Addr) (c : Nat) (w : World) (hx : CIn w x A) :
    Calls Tryz.prog 9 #[x.v A c] w fun e w' => e = .returned (.bool (sm9B x)) ∧ Below w.heap.size w w' := by
  obtain ⟨W, hW⟩ : ∃ W, W = w.alloc (.cells (x.cs A c).toArray 24) := ⟨_, rfl⟩
  have hbw : Below w.heap.size w W := by rw [hW]; exact below_new w _
  have HB := hideIt hbw
  have hbc : BC W w.heap.size x A c := by rw [hW]; exact BC.new c hx
  have c2 := hbc.c2
  have c3 : W.cell? ⟨w.heap.size, 3, none⟩ = some (.slice A x.par.length c) := hbc.box.cell 3
  rw [hW] at c2 c3
  have HWE := hideIt hW
  have HS := hideIt (show sm9B x = (decide (0 ≤ x.data) && decide (x.data ≤ 6) && decide (x.par.length ≤ 5) && decide (x.data + x.par.length ≤ 9)) from rfl)
  clear hbc hbw hx hW
  generalize sm9B x = r at *
  by_cases h1 : 0 ≤ x.data
  · have g1 : binOp .geq 3 (.int .i64 x.data) (.int .i64 0) = pure (.bool true) := by rw [binOp_geq, decide_eq_true h1]
    by_cases h2 : x.data ≤ 6
    · have g2 : binOp .leq 3 (.int .i64 x.data) (.int .i64 6) = pure (.bool true) := by rw [binOp_leq, decide_eq_true h2]
      by_cases h3 : x.par.length ≤ 5
      · have g3 : binOp .leq 3 (.int .i64 (x.par.length : Int)) (.int .i64 5) = pure (.bool true) := by rw [binOp_leq, decide_eq_true (by omega)]
        have HWR := hideIt (show wrap64 (x.data + x.par.length) = x.data + x.par.length from IntWalk.wrap64_in _ (by omega))
        have HE := hideIt (show r = decide (x.data + x.par.length ≤ 9) by rw [HS.out, decide_eq_true h1, decide_eq_true h2, decide_eq_true h3]; rfl)
        clear h1 h2 h3 HS
        go_enter Tryz.func9, Tryz.ntmps9
        go_wp2_with fail
        go_ret
        exact ⟨by show Ending.returned (Value.bool (decide (wrap64 (x.data + x.par.length) ≤ 9))) = _; rw [HWR.out, HE.out], by rw [← HWE.out]; exact HB.out⟩
      · have g3 : binOp .leq 3 (.int .i64 (x.par.length : Int)) (.int .i64 5) = pure (.bool false) := by rw [binOp_leq, decide_eq_false (by omega)]
        have HE := hideIt (show r = false by rw [HS.out, decide_eq_false h3]; simp)
        clear h1 h2 h3 HS
        go_enter Tryz.func9, Tryz.ntmps9
        go_wp2_with fail
        go_ret
        exact ⟨by rw [HE.out]; rfl, by rw [← HWE.out]; exact HB.out⟩
    · have g2 : binOp .leq 3 (.int .i64 x.data) (.int .i64 6) = pure (.bool false) := by rw [binOp_leq, decide_eq_false h2]
      have HE := hideIt (show r = false by rw [HS.out, decide_eq_false h2]; simp)
      clear h1 h2 HS
      go_enter Tryz.func9, Tryz.ntmps9
      go_wp2_with fail
      go_ret
      exact ⟨by rw [HE.out]; rfl, by rw [← HWE.out]; exact HB.out⟩
  · have g1 : binOp .geq 3 (.int .i64 x.data) (.int .i64 0) = pure (.bool false) := by rw [binOp_geq, decide_eq_false h1]
    have HE := hideIt (show r = false by rw [HS.out, decide_eq_false h1]; simp)
    clear h1 HS
    go_enter Tryz.func9, Tryz.ntmps9
    go_wp2_with fail
    go_ret
    exact ⟨by rw [HE.out]; rfl, by rw [← HWE.out]; exact HB.out⟩

theorem ints_any (xs ys : List Int) (A A' : Option Addr) (c c' : Nat) (w : World) (hx : Sl w w.heap.size A 1 xs.length (xs.map iv)) (hy : Sl w w.heap.size A' 1 ys.length (ys.map iv)) (hlx : xs.length ≤ 100000) :
    Calls Tryz.prog 15 #[.slice A xs.length c, .slice A' ys.length c'] w fun e w' => e = .returned (.bool (decide (xs = ys))) ∧ ∃ n, w' = w.drewN n := by
  have HX := hideIt hx
  have HY := hideIt hy
  clear hx hy
  by_cases hl : xs.length = ys.length
  · have Hl := hideIt hl
    have ht : binOp .neq 3 (.int .i64 (xs.length : Int)) (.int .i64 (ys.length : Int)) = pure (.bool false) := by rw [i_neq, decide_eq_false (by omega)]
    clear hl
    go_enter Tryz.func15, Tryz.ntmps15
    go_wp2_with fail
    go_loopg [4, 5] xs.length (fun g s4 s5 wr => ∃ k : Nat, g + k = xs.length ∧ s4 = .bool false ∧ s5 = .int .i64 k ∧ Aside (xs.take k = ys.take k ∧ ∃ n, wr = w.drewN n))
    case atStart => exact ⟨0, by omega, rfl, rfl, by simp, 0, rfl⟩
    case round =>
      obtain ⟨k, hg, rfl, rfl, HA⟩ := hrel
      obtain ⟨n0, hn0⟩ := HA.out.2
      have HT := hideIt HA.out.1
      clear HA
      by_cases hk : k < xs.length
      · have hk' : k < ys.length := by have := Hl.out; omega
        obtain ⟨b, off, u, rfl, hb, hu, hc⟩ := HX.out.at_ hk
        obtain ⟨b', off', u', rfl, hb', hu', hc'⟩ := HY.out.at_ hk'
        rw [List.getElem?_map, List.getElem?_eq_getElem hk] at hu
        rw [List.getElem?_map, List.getElem?_eq_getElem hk'] at hu'
        injection hu with hu
        injection hu' with hu'
        subst hu hu'
        have hc1 : wr.cell? ⟨b, off + k, none⟩ = some (.int .i64 xs[k]) := by rw [hn0]; exact hc
        have hc2 : wr.cell? ⟨b', off' + k, none⟩ = some (.int .i64 ys[k]) := by rw [hn0]; exact hc'
        have HN := hideIt hn0
        have hki : (k : Int) < (xs.length : Int) := by omega
        have hki2 : (k : Int) < (ys.length : Int) := by omega
        have hinc := inc_c 3 k (by omega)
        have HTX := hideIt (take_snoc xs k hk)
        have HTY := hideIt (take_snoc ys k hk')
        by_cases he : xs[k] = ys[k]
        · have HE := hideIt he
          have hne : binOp .neq 3 (.int .i64 xs[k]) (.int .i64 ys[k]) = pure (.bool false) := by rw [i_neq, decide_eq_false (fun h => h he)]
          clear he hn0 hc hc' hb hb'
          go_wp2_with fail
          go_quiet (fail)
          go_wp2_with fail
          go_roundg (gk - 1)
          case measure => omega
          case rel => exact ⟨k + 1, by omega, rfl, by go_num, by rw [HTX.out, HTY.out, HT.out, HE.out], by rw [HN.out]; exact ⟨_, World.drewN_drewN _ _ _⟩⟩
        · have HE := hideIt he
          have hne : binOp .neq 3 (.int .i64 xs[k]) (.int .i64 ys[k]) = pure (.bool true) := by rw [i_neq, decide_eq_true he]
          clear he hn0 hc hc' hb hb'
          go_wp2_with fail
          go_quiet (fail)
          go_wp2_with fail
          go_ret
          exact ⟨by rw [decide_eq_false (fun h => HE.out (by subst h; rfl))]; rfl, by rw [HN.out]; exact ⟨_, World.drewN_drewN _ _ _⟩⟩
      · have hki : ¬ (k : Int) < (xs.length : Int) := by omega
        go_wp2_with fail
        go_ret
        have hkl : k = xs.length := by omega
        have := HT.out
        rw [hkl, List.take_length, Hl.out, List.take_length] at this
        exact ⟨by rw [decide_eq_true this]; rfl, n0, rfl⟩
  · have HL := hideIt hl
    have ht : binOp .neq 3 (.int .i64 (xs.length : Int)) (.int .i64 (ys.length : Int)) = pure (.bool true) := by rw [i_neq, decide_eq_true (by omega)]
    clear hl
    go_enter Tryz.func15, Tryz.ntmps15
    go_wp2_with fail
    go_ret
    exact ⟨by rw [decide_eq_false (fun h => HL.out (by rw [h]))]; rfl, 0, rfl⟩
/-- The units of a list that are there, as natural numbers. -/
def lsN (N : Nat) (l : List Int) : List Nat := (l.filter fun i => decide (0 ≤ i ∧ i < (N : Int))).map Int.toNat
theorem lsN_snoc (N : Nat) (l : List Int) (a : Int) : lsN N (l ++ [a]) = if 0 ≤ a ∧ a < (N : Int) then lsN N l ++ [a.toNat] else lsN N l := by
  unfold lsN
  rw [List.filter_append]
  by_cases h : 0 ≤ a ∧ a < (N : Int)
  · rw [if_pos h, List.filter_cons, if_pos (decide_eq_true h), List.filter_nil, List.map_append]; rfl
  · rw [if_neg h, List.filter_cons, if_neg (by rw [decide_eq_false h]; decide), List.filter_nil, List.append_nil]
/-- minus -/
theorem minus_any (hs : List Bool) (S : List Int) (hn : hs.length ≤ 1000) (h0 : 0 < hs.length) (hS : S.length ≤ 1000) (D : Option Addr) (cd : Nat) (E : Option Addr) (ce : Nat) (w : World) (hD : Sl w w.heap.size D 1 hs.length (hs.map bl)) (hE : Sl w w.heap.size E 1 S.length (S.map iv)) :
    Calls Tryz.prog 22 #[.slice D hs.length cd, .slice E S.length ce] w fun e w' => ∃ A c, e = .returned (.slice A hs.length c) ∧ w'.ownsRow w.heap.size 4 1 (.slice A hs.length c) hs.length ((wo hs (lsN hs.length S)).map bl) ∧ Below w.heap.size w w' := by
  obtain ⟨b, o, rfl, hb, hc⟩ := hD.2 (by rw [List.length_map]; exact h0)
  have HC := hideIt hc
  have HE := hideIt hE
  have HO := hideIt (World.ownsRow_nil w w.heap.size 4 1)
  clear hD hE hc hb
  go_enter Tryz.func22, Tryz.ntmps22
  go_wp2_with (first
    | ((with_reducible refine at_append ?_); refine wpList_apG (base := w.heap.size) (z := .bool false) (size := 1) (bytes := 1) (n := 0) (m := hs.length) (news := hs.map bl) Tryz.underlying25 (by kernel_rfl) rfl (by decide) (by decide) rfl (.tmp 7) (.tmp 8) rfl rfl HO.out rfl (by simp) (fun j u hu => by rw [addr_add]; exact HC.out j u hu) (fun u hu => by obtain ⟨y, _, rfl⟩ := List.mem_map.1 hu; rfl) (by omega) (Nat.le_refl _) ?_; intro v5 w5 HO5 HG5 HA5 HB5; rw [Nat.zero_add] at HO5))
  go_loopg [6] S.length (fun gk s6 wr => ∃ k : Nat, k + gk = S.length ∧ s6 = .int .i64 (k : Int) ∧ Aside (wr.ownsRow w.heap.size 4 1 v5 hs.length ((wo hs (lsN hs.length (S.take k))).map bl)) ∧ Aside (Below w.heap.size w wr))
  case atStart => exact ⟨0, by omega, rfl, HO5.out, HB5.out⟩
  case round =>
    obtain ⟨k, hk, rfl, HW, HL⟩ := hrel
    obtain ⟨w4, rfl⟩ : ∃ x, x = wr := ⟨wr, rfl⟩
    by_cases hlt : k < S.length
    · have hinc := inc_c 3 k (by omega)
      have hki : (k : Int) < (S.length : Int) := by omega
      obtain ⟨b2, o2, rfl, hb2, hc2⟩ := (HE.out.below HL.out).num hlt
      have HT := hideIt (take_snoc S k hlt)
      have HLS := hideIt (lsN_snoc hs.length (S.take k) S[k])
      generalize S[k] = i at *
      obtain ⟨A5, c5, rfl, _, _⟩ := own_form HW.out
      by_cases q1 : 0 ≤ i
      · have g1 : binOp .geq 3 (.int .i64 i) (.int .i64 0) = pure (.bool true) := by rw [binOp_geq, decide_eq_true q1]
        by_cases q2 : i < (hs.length : Int)
        · have g2 : binOp .lss 3 (.int .i64 i) (.int .i64 (hs.length : Int)) = pure (.bool true) := by rw [binOp_lss, decide_eq_true q2]
          have hik : i.toNat < hs.length := by omega
          have hcast : i = ((i.toNat : Nat) : Int) := by omega
          rw [if_pos ⟨q1, q2⟩] at HLS
          generalize i.toNat = j at *
          subst hcast
          obtain ⟨g, cap, cs, hv, hg1, hg2, hg3⟩ := own_at0 HW.out hik
          injection hv with e1 e2 e3
          subst e1 e3
          have hfr := hg2.free j
          have hce := hg2.cell j
          rw [← hg3, List.getElem?_map, List.getElem?_eq_getElem (by rw [wo_len]; exact hik)] at hce
          have HP := hideIt (own_put (k := j) (u := .bool false) HW.out)
          have HBS := hideIt (below_set HL.out hg1 j (.bool false))
          have hii : (j : Int) < (hs.length : Int) := by omega
          clear hg1 hg2 hg3 hb2 q1 q2
          go_wp2_with fail
          go_roundg (gk - 1)
          case measure => omega
          case rel => exact ⟨k + 1, by omega, by go_num, by
            have := HP.out
            rw [HT.out, HLS.out, ← wo_app]
            rwa [show ((wo hs (lsN hs.length (S.take k))).map bl).set j (.bool false) = (wo (wo hs (lsN hs.length (S.take k))) [j]).map bl from (List.map_set ..).symm] at this, HBS.out⟩
        · have g2 : binOp .lss 3 (.int .i64 i) (.int .i64 (hs.length : Int)) = pure (.bool false) := by rw [binOp_lss, decide_eq_false q2]
          rw [if_neg (fun h => q2 h.2)] at HLS
          clear hb2 q1 q2
          go_wp2_with fail
          go_roundg (gk - 1)
          case measure => omega
          case rel => exact ⟨k + 1, by omega, by go_num, by rw [HT.out, HLS.out]; exact HW.out, HL.out⟩
      · have g1 : binOp .geq 3 (.int .i64 i) (.int .i64 0) = pure (.bool false) := by rw [binOp_geq, decide_eq_false q1]
        rw [if_neg (fun h => q1 h.1)] at HLS
        clear hb2 q1
        go_wp2_with fail
        go_roundg (gk - 1)
        case measure => omega
        case rel => exact ⟨k + 1, by omega, by go_num, by rw [HT.out, HLS.out]; exact HW.out, HL.out⟩
    · have hki : ¬ (k : Int) < (S.length : Int) := by omega
      have HW2 := hideIt HW.out
      rw [List.take_of_length_le (by omega)] at HW2
      obtain ⟨A, c, rfl, _, _⟩ := own_form HW2.out
      go_wp2_with fail
      go_ret
      exact ⟨_, _, rfl, HW2.out, HL.out⟩
theorem nodup_snoc {l : List Int} {a : Int} : (l ++ [a]).Nodup ↔ l.Nodup ∧ a ∉ l := by
  rw [List.nodup_append]
  constructor
  · rintro ⟨h1, _, h3⟩
    exact ⟨h1, fun h => h3 a h a (List.mem_singleton.2 rfl) rfl⟩
  · rintro ⟨h1, h2⟩
    exact ⟨h1, by simp, fun x hx y hy e => by rw [List.mem_singleton.1 hy] at e; exact h2 (e ▸ hx)⟩
theorem nodup_take {l : List Int} (h : l.Nodup) (k : Nat) : (l.take k).Nodup := h.sublist (List.take_sublist k l)
theorem inc_big (T : TypeId) (k : Nat) (h : k < 9223372036854775807) : binOp .add T (.int .i64 (k : Int)) (.int .i64 1) = pure (.int .i64 ((k + 1 : Nat) : Int)) := by
  rw [binOp_add]
  simp only [Op.intArith]
  rw [IntWalk.i64_in _ (by omega), Int.natCast_add]
  rfl
/-- distinct -/
theorem distinct_any (l : List Int) (hn : l.length ≤ 9223372036854775807) (D : Option Addr) (cd : Nat) (w : World) (hD : Sl w w.heap.size D 1 l.length (l.map iv)) :
    Calls Tryz.prog 20 #[.slice D l.length cd] w fun e w' => e = .returned (.bool (decide l.Nodup)) ∧ ∃ n, w' = w.drewN n := by
  have HS := hideIt hD
  clear hD
  go_enter Tryz.func20, Tryz.ntmps20
  go_wp2_with fail
  go_loopg [3] l.length (fun gk s3 wr => ∃ i : Nat, i + gk = l.length ∧ s3 = .int .i64 (i : Int) ∧ Aside ((l.take i).Nodup) ∧ Aside (∃ n, wr = w.drewN n))
  case atStart => exact ⟨0, by omega, rfl, by simp [Aside], 0, rfl⟩
  case round =>
    obtain ⟨i, hi, rfl, HND, HW⟩ := hrel
    obtain ⟨w4, rfl⟩ : ∃ x, x = wr := ⟨wr, rfl⟩
    obtain ⟨n4, hn4⟩ := HW.out
    have HN4 := hideIt hn4
    by_cases hlt : i < l.length
    · have hinc := inc_big 3 i (by omega)
      have hki : (i : Int) < (l.length : Int) := by omega
      obtain ⟨a, ha⟩ : ∃ q, q = l[i] := ⟨_, rfl⟩
      have HTI := hideIt (show l.take (i + 1) = l.take i ++ [a] by rw [ha]; exact take_snoc l i hlt)
      obtain ⟨b, o, rfl, hb, hc⟩ := HS.out.num hlt
      have HCI := hideIt (show w.cell? ⟨b, o + i, none⟩ = some (iv a) by rw [ha]; exact hc)
      have HLT := hideIt hlt
      have HMI := hideIt (show l.Nodup → a ∉ l.take i from fun h => by
        have h2 := nodup_take h (i + 1)
        rw [HTI.out, nodup_snoc] at h2
        exact h2.2)
      clear hb hc ha hlt hn4
      go_wp2_with fail
      go_loopg [4] i (fun gk s4 wr => ∃ k : Nat, k + gk = i ∧ s4 = .int .i64 (k : Int) ∧ Aside (a ∉ l.take k) ∧ Aside (∃ n, wr = w.drewN n))
      case atStart => exact ⟨0, by omega, rfl, by simp [Aside], _, HN4.out⟩
      case round =>
        obtain ⟨k, hk, rfl, HNM, HW2⟩ := hrel
        obtain ⟨w5, rfl⟩ : ∃ x, x = wr := ⟨wr, rfl⟩
        obtain ⟨n5, hn5⟩ := HW2.out
        have HN5 := hideIt hn5
        by_cases hkl : k < i
        · have hk2 : k < l.length := by have := HLT.out; omega
          have hinc2 := inc_big 3 k (by omega)
          have hkki : (k : Int) < (i : Int) := by omega
          have hkll : (k : Int) < (l.length : Int) := by omega
          obtain ⟨b2, o2, e2, _, hc2⟩ := HS.out.num hk2
          injection e2 with e2
          injection e2 with e2 e3
          subst e2 e3
          have c1 : w5.cell? ⟨b, o + k, none⟩ = some (iv l[k]) := by rw [hn5]; exact hc2
          have c2 : w5.cell? ⟨b, o + i, none⟩ = some (iv (a)) := by rw [hn5]; exact HCI.out
          have HTK := hideIt (take_snoc l k hk2)
          have heq := i_eql 3 .i64 l[k] (a)
          have HMK := hideIt (show l[k] ∈ l.take i from by
            rw [List.mem_take_iff_getElem]
            exact ⟨k, by omega, rfl⟩)
          clear hc2 hn5
          by_cases hq : l[k] = a
          · rw [decide_eq_true hq] at heq
            have HE := hideIt (show decide l.Nodup = false from decide_eq_false fun h => HMI.out h (hq ▸ HMK.out))
            clear hq HMK
            go_wp2_with fail
            go_quiet (fail)
            go_wp2_with fail
            go_ret
            exact ⟨by rw [HE.out]; rfl, by rw [HN5.out]; exact ⟨_, World.drewN_drewN _ _ _⟩⟩
          · rw [decide_eq_false hq] at heq
            have HE := hideIt (show a ∉ l.take (k + 1) by
              rw [HTK.out, List.mem_append, List.mem_singleton]
              rintro (h | h)
              · exact HNM.out h
              · exact hq h.symm)
            clear hq HMK
            go_wp2_with fail
            go_quiet (fail)
            go_wp2_with fail
            go_roundg (gk - 1)
            case measure => omega
            case rel => exact ⟨k + 1, by omega, by go_num, HE.out, by rw [HN5.out]; exact ⟨_, World.drewN_drewN _ _ _⟩⟩
        · have hkki : ¬ (k : Int) < (i : Int) := by omega
          obtain rfl : k = i := by omega
          have HE := hideIt (show (l.take (k + 1)).Nodup by rw [HTI.out, nodup_snoc]; exact ⟨HND.out, HNM.out⟩)
          clear hn5
          go_wp2_with fail
          go_roundg (l.length - (k + 1))
          case measure => have := HLT.out; omega
          case rel => exact ⟨k + 1, by have := HLT.out; omega, by go_num, HE.out, HW2.out⟩
    · have hki : ¬ (i : Int) < (l.length : Int) := by omega
      have HE := hideIt (show decide l.Nodup = true from decide_eq_true (by have := HND.out; rwa [List.take_of_length_le (by omega)] at this))
      clear hn4
      go_wp2_with fail
      go_ret
      exact ⟨by rw [HE.out]; rfl, HW.out⟩
end Go.Proofs.YtkfahoaiialndaaGreatDoor
