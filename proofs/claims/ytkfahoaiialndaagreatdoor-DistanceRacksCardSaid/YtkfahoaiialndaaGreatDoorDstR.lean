/-
  The reference's small functions, walked: present, all, has, without.
-/
import Derived.Test.YtkfahoaiialndaaGreatDoorD9a
import Derived.Test.YtkfahoaiialndaaGreatDoorD9b
import Derived.Test.YtkfahoaiialndaaGreatDoorD9c
import Derived.Test.YtkfahoaiialndaaGreatDoorD9d
import Derived.Test.YtkfahoaiialndaaGreatDoorD9f
import Derived.Test.YtkfahoaiialndaaGreatDoorD9g
import Derived.Test.YtkfahoaiialndaaGreatDoorDstA
namespace Go.Proofs.YtkfahoaiialndaaGreatDoor
open Go.RowKit
set_option linter.unusedVariables false
set_option linter.unusedSimpArgs false

theorem gD {l : List Bool} {k : Nat} (h : k < l.length) : l.getD k false = l[k] := by simp [List.getD_eq_getElem?_getD, h]
/-- A list of units as a row of numbers. -/
abbrev nI (S : List Nat) : List Int := S.map fun i : Nat => (i : Int)
theorem present_any (hs : List Bool) (hn : hs.length ≤ 100000) (D : Option Addr) (cd : Nat) (w : World) (hD : Sl w w.heap.size D 1 hs.length (hs.map bl)) :
    Calls Tryz.prog 29 #[.slice D hs.length cd] w fun e w' => e = .returned (.int .i64 ((cntT hs : Nat) : Int)) ∧ w = w' := by
  have HS := hideIt hD
  clear hD
  go_enter Tryz.func29, Tryz.ntmps29
  go_wp2_with fail
  go_loopg [3, 4] hs.length (fun gk s3 s4 wr => ∃ k : Nat, k + gk = hs.length ∧ s3 = .int .i64 ((cntK hs k : Nat) : Int) ∧ s4 = .int .i64 (k : Int) ∧ wr = w)
  case atStart => exact ⟨0, by omega, rfl, rfl, rfl⟩
  case round =>
    obtain ⟨k, hk, rfl, rfl, rfl⟩ := hrel
    obtain ⟨w, rfl⟩ : ∃ x, x = wr := ⟨wr, rfl⟩
    by_cases hlt : k < hs.length
    · obtain ⟨b, o, v, rfl, hb, hv, hc⟩ := HS.out.at_ hlt
      rw [List.getElem?_map, List.getElem?_eq_getElem hlt] at hv
      injection hv with hv
      subst hv
      change w.cell? ⟨b, o + k, none⟩ = some (.bool hs[k]) at hc
      have HN := hideIt (cntK_next hs k)
      rw [gD hlt] at HN
      have hle := cntK_le hs k
      have hinc := inc_c 3 k (by omega)
      have hinc2 := inc_c 3 (cntK hs k) (by omega)
      have hki : (k : Int) < (hs.length : Int) := by omega
      generalize hs[k] = bk at *
      clear hb hle
      cases bk with
      | false =>
        have HE := hideIt (show cntK hs (k + 1) = cntK hs k by rw [HN.out]; rfl)
        go_wp2_with fail
        go_roundg (gk - 1)
        case measure => omega
        case rel => exact ⟨k + 1, by omega, by rw [HE.out], by go_num, rfl⟩
      | true =>
        have HE := hideIt (show cntK hs (k + 1) = cntK hs k + 1 by rw [HN.out]; rfl)
        go_wp2_with fail
        go_roundg (gk - 1)
        case measure => omega
        case rel => exact ⟨k + 1, by omega, by rw [HE.out]; go_num, by go_num, rfl⟩
    · have hki : ¬ (k : Int) < (hs.length : Int) := by omega
      have hke : k = hs.length := by omega
      subst hke
      go_wp2_with fail
      go_ret
      exact ⟨rfl, rfl⟩

theorem has_any (l : List Int) (hn : l.length ≤ 100000) (a : Int) (D : Option Addr) (cd : Nat) (w : World) (hD : Sl w w.heap.size D 1 l.length (l.map iv)) :
    Calls Tryz.prog 34 #[.slice D l.length cd, .int .i64 a] w fun e w' => e = .returned (.bool (decide (a ∈ l))) ∧ w = w' := by
  have HS := hideIt hD
  clear hD
  go_enter Tryz.func34, Tryz.ntmps34
  go_wp2_with fail
  go_loopg [5] l.length (fun gk s5 wr => ∃ k : Nat, k + gk = l.length ∧ s5 = .int .i64 (k : Int) ∧ wr = w ∧ Aside (a ∉ l.take k))
  case atStart => exact ⟨0, by omega, rfl, rfl, by simp [Aside]⟩
  case round =>
    obtain ⟨k, hk, rfl, rfl, HA⟩ := hrel
    obtain ⟨w, rfl⟩ : ∃ x, x = wr := ⟨wr, rfl⟩
    by_cases hlt : k < l.length
    · obtain ⟨b, o, rfl, hb, hc⟩ := HS.out.num hlt
      have hinc := inc_c 3 k (by omega)
      have hki : (k : Int) < (l.length : Int) := by omega
      have HT := hideIt (take_snoc l k hlt)
      have HM := hideIt (List.getElem_mem hlt)
      have heq := i_eql 3 .i64 l[k] a
      generalize l[k] = q at *
      clear hb
      by_cases he : q = a
      · rw [decide_eq_true he] at heq
        have HE := hideIt (show decide (a ∈ l) = true from decide_eq_true (he ▸ HM.out))
        clear he HM HT
        go_wp2_with fail
        go_ret
        exact ⟨by rw [HE.out]; rfl, rfl⟩
      · rw [decide_eq_false he] at heq
        have HE := hideIt (show a ∉ l.take (k + 1) by
          rw [HT.out, List.mem_append, List.mem_singleton]
          rintro (h | h)
          · exact HA.out h
          · exact he h.symm)
        clear he HM HT
        go_wp2_with fail
        go_roundg (gk - 1)
        case measure => omega
        case rel => exact ⟨k + 1, by omega, by go_num, rfl, HE.out⟩
    · have hki : ¬ (k : Int) < (l.length : Int) := by omega
      have HE := hideIt (show decide (a ∈ l) = false from decide_eq_false (by have := HA.out; rwa [List.take_of_length_le (by omega)] at this))
      go_wp2_with fail
      go_ret
      exact ⟨by rw [HE.out]; rfl, rfl⟩

section
variable {ops : Array Oper} {rest : List Oper} {o : Oper} {a : Act} {Q : Exit → Act → World → Prop} {w : World}
/-- Appending one truth value. -/
theorem wpList_apB {y : Bool} (hgd : o.guard = none) (hs0 : Operand) (hx0 : Operand) (ho : o.op = .call { callee := .builtin .append, args := #[hs0, hx0], argTypes := #[25, 25] })
    {base : Nat} {v : Value} {n : Nat} {us : List Bool} (hs : a.eval hs0 = v) (hown : w.ownsRow base 4 1 v n (us.map bl)) (hx : a.eval hx0 = .slice (some ⟨w.heap.size, 0, none⟩) 1 1) (hn : n + 1 ≤ 100000) (hbase : base ≤ w.heap.size)
    (h : ∀ v' w', Hid (w'.ownsRow base 4 1 v' (n + 1) ((us ++ [y]).map bl)) → Hid ((w.alloc (.cells #[.bool y] 4)).grownBy w' v.ownBlock) → Hid (v'.ownBlock = v.ownBlock ∨ v'.ownBlock = some (w.alloc (.cells #[.bool y] 4)).heap.size) → Hid (Below base w w') → wpList Tryz.prog ops Q rest (a.put o.dst v') w') :
    wpList Tryz.prog ops Q (o :: rest) a (w.alloc (.cells #[.bool y] 4)) :=
  wpList_ap1 (z := .bool false) (size := 1) (bytes := 1) Tryz.underlying25 (by kernel_rfl) rfl (by decide) (by decide) hgd hs0 hx0 ho hs hown hx rfl (ones_one rfl) hn hbase fun v' w' q1 q2 q3 q4 => h v' w' (by rw [List.map_append]; exact q1) q2 q3 q4
end
/-- What a call owns, one element written. -/
theorem own_put {w : World} {base n k g cap : Nat} {e : TypeId} {xs : List Value} {u : Value} (h : w.ownsRow base e 1 (.slice (some ⟨g, 0, none⟩) n cap) n xs) : (w.setCell ⟨g, k, none⟩ u).ownsRow base e 1 (.slice (some ⟨g, 0, none⟩) n cap) n (xs.set k u) := by
  refine ⟨by rw [List.length_set]; exact h.1, ?_⟩
  rcases h.2 with ⟨h0, _⟩ | ⟨g', cap', cur, hv, hb, hg, h1, h2, h3, ht⟩
  · cases h0
  · injection hv with hv1 hv2 hv3
    injection hv1 with hv1
    injection hv1 with hv1 _ _
    subst hv1 hv3
    have hB : Blk w g e cur.toList := by unfold Blk; exact hg
    have hs := hB.store k u
    refine .inr ⟨g, cap, (cur.toList.set k u).toArray, rfl, hb, hs, h1, h2, by simpa using h3, ?_⟩
    rw [← ht]
    simp [List.take_set]
theorem own_at0 {w : World} {base n k : Nat} {e : TypeId} {v : Value} {xs : List Value} (h : w.ownsRow base e 1 v n xs) (hk : k < n) : ∃ g cap cs, v = .slice (some ⟨g, 0, none⟩) n cap ∧ base ≤ g ∧ Blk w g e cs ∧ xs[k]? = cs[k]? := by
  rcases h.2 with ⟨_, h0⟩ | ⟨g, cap, cur, hv, hb, hg, _, _, _, ht⟩
  · omega
  · refine ⟨g, cap, cur.toList, hv, hb, by unfold Blk; exact hg, ?_⟩
    rw [← ht, List.getElem?_take, if_pos (by omega)]
theorem rep_snoc (k : Nat) : List.replicate k true ++ [true] = List.replicate (k + 1) true := by rw [← List.replicate_succ']
/-- all -/
theorem all_any (n : Nat) (hn : n ≤ 1000) (w : World) :
    Calls Tryz.prog 25 #[.int .i64 (n : Int)] w fun e w' => ∃ A c, e = .returned (.slice A n c) ∧ w'.ownsRow w.heap.size 4 1 (.slice A n c) n ((List.replicate n true).map bl) ∧ Below w.heap.size w w' := by
  have HO := hideIt (World.ownsRow_nil w w.heap.size 4 1)
  go_enter Tryz.func25, Tryz.ntmps25
  go_wp2_with fail
  go_loopg [3, 4] n (fun gk s3 s4 wr => ∃ k : Nat, k + gk = n ∧ s4 = .int .i64 (k : Int) ∧ Aside (wr.ownsRow w.heap.size 4 1 s3 k ((List.replicate k true).map bl)) ∧ Aside (Below w.heap.size w wr))
  case atStart => exact ⟨0, by omega, rfl, HO.out, Below.refl _ _⟩
  case round =>
    obtain ⟨k, hk, rfl, HW, HL⟩ := hrel
    obtain ⟨w4, rfl⟩ : ∃ x, x = wr := ⟨wr, rfl⟩
    by_cases hlt : k < n
    · have hinc := inc_c 3 k (by omega)
      have hki : (k : Int) < (n : Int) := by omega
      go_wp2_with (first
        | ((with_reducible refine at_append ?_); refine wpList_apB (y := true) (n := k) (us := List.replicate k true) rfl (.tmp 10) (.tmp 11) rfl rfl HW.out rfl (by omega) HL.out.size ?_; intro v5 w5 HO5 HG5 HA5 HB5))
      go_roundg (gk - 1)
      case measure => omega
      case rel => exact ⟨k + 1, by omega, by go_num, by have := HO5.out; rwa [rep_snoc] at this, HL.out.trans HB5.out⟩
    · have hki : ¬ (k : Int) < (n : Int) := by omega
      have hke : k = n := by omega
      subst hke
      obtain ⟨A, c, rfl, _, _⟩ := own_form HW.out
      go_wp2_with fail
      go_ret
      exact ⟨_, _, rfl, by have := HW.out; rwa [List.map_replicate] at this, HL.out⟩
theorem nI_len (S : List Nat) : (nI S).length = S.length := by simp
theorem nI_at {S : List Nat} {k : Nat} (h : k < S.length) : (nI S)[k]? = some ((S[k] : Nat) : Int) := by simp [h]
/-- without -/
theorem without_any (hs : List Bool) (S : List Nat) (hn : hs.length ≤ 1000) (h0 : 0 < hs.length) (hS : S.length ≤ 1000) (hin : ∀ i ∈ S, i < hs.length) (D : Option Addr) (cd : Nat) (E : Option Addr) (ce : Nat) (w : World) (hD : Sl w w.heap.size D 1 hs.length (hs.map bl)) (hE : Sl w w.heap.size E 1 S.length ((nI S).map iv)) :
    Calls Tryz.prog 44 #[.slice D hs.length cd, .slice E S.length ce] w fun e w' => ∃ A c, e = .returned (.slice A hs.length c) ∧ w'.ownsRow w.heap.size 4 1 (.slice A hs.length c) hs.length ((wo hs S).map bl) ∧ Below w.heap.size w w' := by
  obtain ⟨b, o, rfl, hb, hc⟩ := hD.2 (by rw [List.length_map]; exact h0)
  have HC := hideIt hc
  have HE := hideIt hE
  have HIN := hideIt hin
  have HO := hideIt (World.ownsRow_nil w w.heap.size 4 1)
  clear hD hE hc hb hin
  go_enter Tryz.func44, Tryz.ntmps44
  go_wp2_with (first
    | ((with_reducible refine at_append ?_); refine wpList_apG (base := w.heap.size) (z := .bool false) (size := 1) (bytes := 1) (n := 0) (m := hs.length) (news := hs.map bl) Tryz.underlying25 (by kernel_rfl) rfl (by decide) (by decide) rfl (.tmp 7) (.tmp 8) rfl rfl HO.out rfl (by simp) (fun j u hu => by rw [addr_add]; exact HC.out j u hu) (fun u hu => by obtain ⟨y, _, rfl⟩ := List.mem_map.1 hu; rfl) (by omega) (Nat.le_refl _) ?_; intro v5 w5 HO5 HG5 HA5 HB5; rw [Nat.zero_add] at HO5))
  go_loopg [6] S.length (fun gk s6 wr => ∃ k : Nat, k + gk = S.length ∧ s6 = .int .i64 (k : Int) ∧ Aside (wr.ownsRow w.heap.size 4 1 v5 hs.length ((wo hs (S.take k)).map bl)) ∧ Aside (Below w.heap.size w wr))
  case atStart => exact ⟨0, by omega, rfl, HO5.out, HB5.out⟩
  case round =>
    obtain ⟨k, hk, rfl, HW, HL⟩ := hrel
    obtain ⟨w4, rfl⟩ : ∃ x, x = wr := ⟨wr, rfl⟩
    by_cases hlt : k < S.length
    · have hinc := inc_c 3 k (by omega)
      have hki : (k : Int) < (S.length : Int) := by omega
      obtain ⟨b2, o2, u2, rfl, hb2, hu2, hc2⟩ := (HE.out.below HL.out).at_ hlt
      rw [List.getElem?_map, nI_at hlt] at hu2
      injection hu2 with hu2
      subst hu2
      change w4.cell? ⟨b2, o2 + k, none⟩ = some (.int .i64 ((S[k] : Nat) : Int)) at hc2
      have hik := HIN.out S[k] (List.getElem_mem hlt)
      have HT := hideIt (take_snoc S k hlt)
      generalize S[k] = i at *
      obtain ⟨g, cap, cs, rfl, hg1, hg2, hg3⟩ := own_at0 HW.out hik
      have hfr := hg2.free i
      have hce := hg2.cell i
      rw [← hg3, List.getElem?_map, List.getElem?_eq_getElem (by rw [wo_len]; exact hik)] at hce
      have HP := hideIt (own_put (k := i) (u := .bool false) HW.out)
      have HBS := hideIt (below_set HL.out hg1 i (.bool false))
      have hii : (i : Int) < (hs.length : Int) := by omega
      clear hg1 hg2 hg3 hb2
      go_wp2_with fail
      go_roundg (gk - 1)
      case measure => omega
      case rel => exact ⟨k + 1, by omega, by go_num, by
        have := HP.out
        rw [HT.out, ← wo_app]
        rwa [show ((wo hs (S.take k)).map bl).set i (.bool false) = (wo (wo hs (S.take k)) [i]).map bl from (List.map_set ..).symm] at this, HBS.out⟩
    · have hki : ¬ (k : Int) < (S.length : Int) := by omega
      have HW2 := hideIt HW.out
      rw [List.take_of_length_le (by omega)] at HW2
      obtain ⟨A, c, rfl, _, _⟩ := own_form HW2.out
      go_wp2_with fail
      go_ret
      exact ⟨_, _, rfl, HW2.out, HL.out⟩
end Go.Proofs.YtkfahoaiialndaaGreatDoor
