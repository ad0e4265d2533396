/-
  slices.IndexFunc and slices.ContainsFunc at the function that asks for an element but 0, walked.
  slices.Grow of the nil slice and slices.Concat of two slices of integers, walked.
-/
import Derived.Test.YtodmcojcmihooaaDoorMatP
import Derived.Lib.AppendZerosOnto
import Derived.Lib.Walk
import Derived.Lib.SliceRun
namespace Go.Proofs.YtodmcojcmihooaaDoor
open Go.RowKit
set_option linter.unusedVariables false

theorem nz_any (x : Nat) (w : World) : Calls Tryd.prog 46 #[.int .i64 (x : Int)] w fun e w' => e = .returned (.bool (decide (x ≠ 0))) ∧ w = w' := by
  by_cases h : x = 0
  · rw [decide_eq_false (fun q => q h)]
    have hq := int_neqF6 3 (a := (x : Int)) (b := 0) (by omega)
    clear h
    go_enter Tryd.func46, Tryd.ntmps46
    go_wp2_with fail
    go_ret
    exact ⟨rfl, rfl⟩
  · rw [decide_eq_true h]
    have hq := int_neqT6 3 (a := (x : Int)) (b := 0) (by omega)
    clear h
    go_enter Tryd.func46, Tryd.ntmps46
    go_wp2_with fail
    go_ret
    exact ⟨rfl, rfl⟩
/-- Where the first element but 0 stands. -/
def IxPost (n : Nat) (f : Nat → Nat) (w : World) (e : Ending) (w' : World) : Prop := ∃ z : Int, e = .returned (.int .i64 z) ∧ w = w' ∧ (0 ≤ z ↔ ∃ j, j < n ∧ f j ≠ 0)
set_option maxHeartbeats 1000000 in
theorem indexf_any (n : Nat) (hn : n ≤ 1000) (f : Nat → Nat) (A : Option Addr) (c b o : Nat) (w : World) (hI : Ints w A b o n f) :
    Calls Tryd.prog 57 #[.slice A n c, .func (.func 46) #[] #[]] w (IxPost n f w) := by
  have HI := hideIt hI
  have HN := hideIt (fun x => nz_any x w)
  clear hI
  go_enter Tryd.func57, Tryd.ntmps57
  go_wp2_with fail
  go_loopg [8] n (fun gk s8 wr => ∃ j : Nat, j + gk = n ∧ s8 = .int .i64 (j : Int) ∧ wr = w ∧ Aside (∀ i, i < j → f i = 0))
  case atStart => exact ⟨0, by omega, rfl, rfl, fun i hi => absurd hi (Nat.not_lt_zero _)⟩
  case round =>
    obtain ⟨j, hj, rfl, rfl, HZ⟩ := hrel
    by_cases hlt : j < n
    · have hinc := inc_c 3 j (by omega)
      have hjn : (j : Int) < (n : Int) := by omega
      have hA := HI.out.adr (by omega)
      have hcell := HI.out.cell j hlt
      subst hA
      have HNZ := hideIt (HN.out (f j))
      by_cases hz : f j = 0
      · rw [decide_eq_false (fun q => q hz)] at HNZ
        have HZ0 := hideIt hz
        clear hz
        generalize f j = x at hcell HNZ
        go_wp2_with fail
        refine HNZ.out.mono ?_
        rintro e w' ⟨rfl, rfl⟩
        go_wp2_with fail
        go_roundg (gk - 1)
        case measure => omega
        case rel =>
          refine ⟨j + 1, by omega, by go_num, rfl, fun i hi => ?_⟩
          by_cases e : i = j
          · rw [e]; exact HZ0.out
          · exact HZ.out i (by omega)
      · rw [decide_eq_true hz] at HNZ
        have HZ0 := hideIt hz
        clear hz
        generalize f j = x at hcell HNZ
        go_wp2_with fail
        refine HNZ.out.mono ?_
        rintro e w' ⟨rfl, rfl⟩
        go_wp2_with fail
        go_ret
        exact ⟨(j : Int), rfl, rfl, fun _ => ⟨j, hlt, HZ0.out⟩, fun _ => by omega⟩
    · obtain rfl : j = n := by omega
      have hjn : ¬ (j : Int) < (j : Int) := by omega
      go_wp2_with fail
      go_ret
      exact ⟨-1, rfl, rfl, fun h => by omega, fun ⟨i, hi, hne⟩ => absurd (HZ.out i hi) hne⟩
open Classical in
set_option maxHeartbeats 1000000 in
theorem contf_any (n : Nat) (hn : n ≤ 1000) (f : Nat → Nat) (A : Option Addr) (c b o : Nat) (w : World) (hI : Ints w A b o n f) (bb : Bool) (hbb : bb = decide (∃ j, j < n ∧ f j ≠ 0)) :
    Calls Tryd.prog 45 #[.slice A n c, .func (.func 46) #[] #[]] w fun e w' => e = .returned (.bool bb) ∧ w = w' := by
  have HX := hideIt (indexf_any n hn f A c b o w hI)
  have HBB := hideIt hbb
  clear hI hbb
  go_enter Tryd.func45, Tryd.ntmps45
  go_wp2_with fail
  refine HX.out.mono ?_
  rintro e w' ⟨z, rfl, rfl, hz⟩
  by_cases h0 : 0 ≤ z
  · have HE : Hid (bb = true) := hideIt (by rw [HBB.out]; exact decide_eq_true (hz.1 h0))
    clear hz
    go_wp2_with fail
    go_ret
    exact ⟨by rw [HE.out]; rfl, rfl⟩
  · have HE : Hid (bb = false) := hideIt (by rw [HBB.out]; exact decide_eq_false (fun q => h0 (hz.2 q)))
    have hd : decide (0 ≤ z) = false := decide_eq_false h0
    clear hz
    go_wp2_with fail
    go_ret
    exact ⟨by rw [HE.out]; rfl, rfl⟩

/-- A row of the call's own without an element. -/
def GrPost (w : World) (e : Ending) (w' : World) : Prop := ∃ v, e = .returned v ∧ w'.ownsRow w.heap.size 3 1 v 0 [] ∧ Below w.heap.size w w'
set_option maxHeartbeats 2000000 in
set_option maxRecDepth 100000 in
theorem grow_any (n : Nat) (hn : n ≤ 1000) (w : World) : Calls Tryd.prog 56 #[.slice none 0 0, .int .i64 (n : Int)] w (GrPost w) := by
  obtain ⟨i0, hi, hz0, hz1, hz2⟩ := info_parts (show (Tryd.prog.info? 3).map (fun i => (i.zero, i.size, i.bytes)) = some (some (Value.int .i64 0), 1, 8) by kernel_rfl)
  have h1 : ¬ ((n : Int) < 0) := by omega
  by_cases h0 : n = 0
  · subst h0
    clear hi hz0 hz1 hz2
    go_enter Tryd.func56, Tryd.ntmps56
    go_wp2_with fail
    go_ret
    exact ⟨.slice none 0 0, rfl, World.ownsRow_nil _ _ _ _, Below.refl _ _⟩
  · have hpos : (n : Int) > 0 := by omega
    have hrz : ∀ ty, (Builtin.append_ #[22, 3] ty #[.slice none 0 0, .int .i64 (n : Int)]).run Tryd.prog w = .ok (.slice (some ⟨w.heap.size, 0, none⟩) n (grownCap w n 0 3)) (w.drew.alloc (.cells ((#[] : Array Value) ++ Builtin.zeroCells (Value.int .i64 0).cells n ++ Builtin.zeroCells (Value.int .i64 0).cells (grownCap w n 0 3 - n)) 3)) := fun ty => by
      have h := Lib.run_append_grow_zeros (P := Tryd.prog) w 22 3 ty 3 i0 (.int .i64 0) .i64 .i64 Tryd.underlying22 Tryd.underlying3 hi hz0 none 0 0 [] (run_firstCells_none w.drew i0.size 0 0 0) n (by omega) (by rw [hz1]; decide) (by omega) (by omega) (by rw [hz2]; omega)
        (by rw [Nat.zero_add]; exact growslice_fits (by omega) (by rw [hz2]; omega))
      rw [Nat.zero_add] at h
      exact h
    have hGn : n ≤ grownCap w n 0 3 := grownCap_ge w _ _ _
    have hG63 := grownCap_le_maxLen w n 0 3 (by unfold maxLen; omega)
    obtain ⟨G, hG⟩ : ∃ G, G = grownCap w n 0 3 := ⟨_, rfl⟩
    rw [← hG] at hrz hGn hG63
    have HHG := hideIt hG63
    unfold maxLen at hG63
    clear hG hi hz0 hz1 hz2
    go_enter Tryd.func56, Tryd.ntmps56
    go_wp2_with (at_builtin; refine Lib.wpList_append_run _ rfl _ _ _ _ rfl _ _ rfl rfl _ _ (hrz _) ?_)
    go_ret
    refine ⟨.slice (some ⟨w.heap.size, 0, none⟩) 0 G, rfl, ⟨by simp, .inr ⟨w.heap.size, G, _, rfl, Nat.le_refl _, heap_alloc_new w _, Nat.zero_le _, HHG.out, ?_, by simp⟩⟩, (below_new w _).drew⟩
    simp [Builtin.zeroCells]
    omega

theorem Ints.sl {w : World} {A : Option Addr} {b o n : Nat} {f : Nat → Nat} (h : Ints w A b o n f) : Sl w w.heap.size A 1 n ((nl n f).map iv) := by
  refine ⟨by rw [List.length_map, nl_len, Nat.mul_one], fun h0 => ?_⟩
  rw [List.length_map, nl_len] at h0
  refine ⟨b, o, h.adr h0, h.lt h0, fun j u hu => ?_⟩
  have hj : j < n := by
    have := (List.getElem?_eq_some_iff.1 hu).1
    rw [List.length_map, nl_len] at this
    exact this
  rw [iv_at hj] at hu
  obtain rfl := Option.some.inj hu
  exact h.cell j hj
/-- What Concat leaves: n integers in a row of the call's own. -/
def CcPost (w : World) (n : Nat) (f : Nat → Nat) (e : Ending) (w' : World) : Prop := ∃ v, e = .returned v ∧ w'.ownsRow w.heap.size 3 1 v n ((nl n f).map iv) ∧ Below w.heap.size w w'
def cat2 (n1 : Nat) (f1 f2 : Nat → Nat) (k : Nat) : Nat := if k < n1 then f1 k else f2 (k - n1)
theorem cat2_one (n1 : Nat) (f1 f2 : Nat → Nat) : nl n1 f1 = nl n1 (cat2 n1 f1 f2) := nl_congr fun k hk => by unfold cat2; rw [if_pos hk]
theorem nl_split (a b : Nat) (f : Nat → Nat) : nl (a + b) f = nl a f ++ nl b (fun k => f (a + k)) := by
  apply List.ext_getElem
  · simp [nl_len]
  · intro k h1 h2
    rw [nl_get]
    by_cases e : k < a
    · rw [List.getElem_append_left (by rw [nl_len]; exact e), nl_get]
    · rw [List.getElem_append_right (by rw [nl_len]; omega), nl_get, nl_len, show a + (k - a) = k by omega]
theorem cat2_two (n1 n2 : Nat) (f1 f2 : Nat → Nat) : (nl n1 f1).map iv ++ (nl n2 f2).map iv = (nl (n1 + n2) (cat2 n1 f1 f2)).map iv := by
  rw [nl_split, ← cat2_one, List.map_append]
  congr 2
  apply nl_congr
  intro k hk
  unfold cat2
  rw [if_neg (by omega), show n1 + k - n1 = k by omega]

set_option maxHeartbeats 2000000 in
set_option maxRecDepth 100000 in
theorem concat_any (n1 n2 : Nat) (hn1 : n1 ≤ 100) (hn2 : n2 ≤ 100) (f1 f2 : Nat → Nat) (S1 S2 : Option Addr) (c1 c2 b1 o1 b2 o2 h cH : Nat) (w : World) (hH : Blk w h 22 [.slice S1 n1 c1, .slice S2 n2 c2]) (hI1 : Ints w S1 b1 o1 n1 f1) (hI2 : Ints w S2 b2 o2 n2 f2) :
    Calls Tryd.prog 44 #[.slice (some ⟨h, 0, none⟩) 2 cH] w (CcPost w (n1 + n2) (cat2 n1 f1 f2)) := by
  obtain ⟨i0, hi, hz0, hz1, hz2⟩ := info_parts (show (Tryd.prog.info? 3).map (fun i => (i.zero, i.size, i.bytes)) = some (some (Value.int .i64 0), 1, 8) by kernel_rfl)
  have HIN := hideIt (And.intro hi (And.intro hz0 (And.intro hz1 hz2)))
  have HH := hideIt hH
  have H1 := hideIt hI1
  have H2 := hideIt hI2
  have HGR := hideIt (fun W => grow_any (n1 + n2) (by omega) W)
  have add0 : binOp .add 3 (.int .i64 0) (.int .i64 (n1 : Int)) = pure (.int .i64 (n1 : Int)) := by
    have h := nadd 3 0 n1 (by omega)
    rw [Nat.zero_add] at h
    exact h
  have add1 := nadd 3 n1 n2 (by omega)
  obtain ⟨t, ht⟩ : ∃ t, t = n1 + n2 := ⟨_, rfl⟩
  have htn : t ≤ 200 := by omega
  rw [← ht] at add1 HGR ⊢
  have HT := hideIt ht
  clear hi hz0 hz1 hz2 hH hI1 hI2 ht
  go_enter Tryd.func44, Tryd.ntmps44
  go_wp2_with fail
  go_loopg [3, 11] 2 (fun gk s3 s11 wr => ∃ k : Nat, k + gk = 2 ∧ s11 = .int .i64 (k : Int) ∧ s3 = .int .i64 ((if k = 0 then 0 else if k = 1 then n1 else t : Nat) : Int) ∧ wr = w)
  case atStart => exact ⟨0, by omega, rfl, rfl, rfl⟩
  case round =>
    obtain ⟨k, hk, rfl, rfl, rfl⟩ := hrel
    rcases (show k = 0 ∨ k = 1 ∨ k = 2 by omega) with rfl | rfl | rfl
    · have hc0 : wr.cell? ⟨h, 0, none⟩ = some (.slice S1 n1 c1) := by rw [HH.out.cell]; rfl
      obtain rfl : gk = 2 := by omega
      go_wp2_with fail
      go_roundg 1
      case measure => omega
      case rel => exact ⟨1, by omega, rfl, rfl, rfl⟩
    · have hc1 : wr.cell? ⟨h, 1, none⟩ = some (.slice S2 n2 c2) := by rw [HH.out.cell]; rfl
      obtain rfl : gk = 1 := by omega
      go_wp2_with fail
      go_roundg 0
      case measure => omega
      case rel => exact ⟨2, by omega, rfl, rfl, rfl⟩
    · obtain rfl : gk = 0 := by omega
      go_wp2_with fail
      refine (HGR.out wr).mono ?_
      rintro e w2 ⟨v, rfl, ho, hb⟩
      have HO := hideIt ho
      have HB := hideIt hb
      clear ho hb
      go_wp2_with fail
      obtain ⟨w1, rfl⟩ : ∃ x, x = wr := ⟨wr, rfl⟩
      go_loopg [6, 27] 2 (fun gk s6 s27 wr => ∃ (k : Nat) (v : Value), k + gk = 2 ∧ s6 = v ∧ s27 = .int .i64 (k : Int) ∧ Aside (wr.ownsRow w1.heap.size 3 1 v (if k = 0 then 0 else if k = 1 then n1 else n1 + n2) (if k = 0 then [] else if k = 1 then (nl n1 f1).map iv else (nl (n1 + n2) (cat2 n1 f1 f2)).map iv) ∧ Below w1.heap.size w1 wr))
      case atStart => exact ⟨0, v, by omega, rfl, rfl, HO.out, HB.out⟩
      case round =>
        obtain ⟨k, u, hk, hu, rfl, HA⟩ := hrel
        rw [hu]
        clear hu
        rcases (show k = 0 ∨ k = 1 ∨ k = 2 by omega) with rfl | rfl | rfl
        · have hc0 : wr.cell? ⟨h, 0, none⟩ = some (.slice S1 n1 c1) := by rw [(HH.out.kept HA.out.2 HH.out.lt).cell]; rfl
          have HY := hideIt ((H1.out.below HA.out.2 H1.out.lt).sl)
          have HO1 := hideIt (show wr.ownsRow w1.heap.size 3 1 u 0 [] from HA.out.1)
          have HB1 := hideIt HA.out.2
          obtain rfl : gk = 2 := by omega
          clear HA HO HB
          go_wp2_with ((with_reducible refine at_append ?_); refine wpList_app rfl (.tmp 31) (.tmp 32) 22 rfl w1.heap.size 3 i0 (.int .i64 0) 1 8 Tryd.underlying22 HIN.out.1 HIN.out.2.1 HIN.out.2.2.1 HIN.out.2.2.2 rfl (by decide) u 0 [] rfl HO1.out _ S1 n1 c1 ((nl n1 f1).map iv) rfl HY.out (iv_one _) (by unfold maxLen; omega) (by omega) HB1.out.size ?_; intro v6 w6 ho hb; have HO6 := hideIt ho; have HB6 := hideIt (HB1.out.trans hb); clear ho hb)
          go_roundg 1
          case measure => omega
          case rel => exact ⟨1, v6, by omega, rfl, rfl, by have h := HO6.out; rw [Nat.zero_add, List.nil_append] at h; exact h, HB6.out⟩
        · have hc1 : wr.cell? ⟨h, 1, none⟩ = some (.slice S2 n2 c2) := by rw [(HH.out.kept HA.out.2 HH.out.lt).cell]; rfl
          have HY := hideIt ((H2.out.below HA.out.2 H2.out.lt).sl)
          have HO1 := hideIt (show wr.ownsRow w1.heap.size 3 1 u n1 ((nl n1 f1).map iv) from HA.out.1)
          have HB1 := hideIt HA.out.2
          obtain rfl : gk = 1 := by omega
          clear HA HO HB
          go_wp2_with ((with_reducible refine at_append ?_); refine wpList_app rfl (.tmp 31) (.tmp 32) 22 rfl w1.heap.size 3 i0 (.int .i64 0) 1 8 Tryd.underlying22 HIN.out.1 HIN.out.2.1 HIN.out.2.2.1 HIN.out.2.2.2 rfl (by decide) u n1 ((nl n1 f1).map iv) rfl HO1.out _ S2 n2 c2 ((nl n2 f2).map iv) rfl HY.out (iv_one _) (by unfold maxLen; omega) (by omega) HB1.out.size ?_; intro v6 w6 ho hb; have HO6 := hideIt ho; have HB6 := hideIt (HB1.out.trans hb); clear ho hb)
          go_roundg 0
          case measure => omega
          case rel => exact ⟨2, v6, by omega, rfl, rfl, by have h := HO6.out; rw [cat2_two] at h; exact h, HB6.out⟩
        · obtain rfl : gk = 0 := by omega
          have HO1 := hideIt (show wr.ownsRow w1.heap.size 3 1 u (n1 + n2) ((nl (n1 + n2) (cat2 n1 f1 f2)).map iv) from HA.out.1)
          have HB1 := hideIt HA.out.2
          clear HA HO HB
          go_wp2_with fail
          go_ret
          exact ⟨u, rfl, by rw [HT.out]; exact HO1.out, HB1.out⟩

end Go.Proofs.YtodmcojcmihooaaDoor
