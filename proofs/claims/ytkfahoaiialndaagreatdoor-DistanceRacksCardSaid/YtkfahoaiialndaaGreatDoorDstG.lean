/-
  The library's Clone, Repeat, Grow and Concat at bools, walked.
-/
import Derived.Test.YtkfahoaiialndaaGreatDoorD9a
import Derived.Test.YtkfahoaiialndaaGreatDoorD9b
import Derived.Test.YtkfahoaiialndaaGreatDoorD9c
import Derived.Test.YtkfahoaiialndaaGreatDoorD9d
import Derived.Test.YtkfahoaiialndaaGreatDoorDstR
import Derived.Lib.AppendZerosOnto
import Derived.Lib.Walk
import Derived.Lib.SliceRun
namespace Go.Proofs.YtkfahoaiialndaaGreatDoor
open Go.RowKit
set_option linter.unusedVariables false
set_option linter.unusedSimpArgs false

theorem bl_one (l : List Bool) : ∀ u ∈ l.map bl, u.oneCell' = true := fun u hu => by obtain ⟨y, _, rfl⟩ := List.mem_map.1 hu; rfl
theorem eq_nilB (a : Addr) (n c : Nat) (w : World) : (binOp .eql 25 (.slice (some a) n c) (.slice none 0 0)).run Tryz.prog w = .ok (.bool false) w :=
  Lib.run_eql_slice_nil w _ _ _ _ _ _ _ Tryz.underlying25
set_option maxRecDepth 100000 in
set_option maxHeartbeats 1000000 in
theorem cloneB_any (us : List Bool) (h0 : 0 < us.length) (hl : us.length ≤ 50000) (D : Option Addr) (cd : Nat) (w : World) (hs : Sl w w.heap.size D 1 us.length (us.map bl)) :
    Calls Tryz.prog 73 #[.slice D us.length cd] w fun e w' => ∃ g c, e = .returned (.slice (some ⟨g, 0, none⟩) us.length c) ∧ w'.ownsRow w.heap.size 4 1 (.slice (some ⟨g, 0, none⟩) us.length c) us.length (us.map bl) ∧ Below w.heap.size w w' := by
  obtain ⟨b, o, hD, hb, hcell⟩ := hs.2 (by rw [List.length_map]; exact h0)
  subst hD
  have hb0 := below_new w (.cells #[] 4)
  have HN := hideIt (fun j u (h : (us.map bl)[j]? = some u) => show (w.alloc (.cells #[] 4)).cell? ((⟨b, o, none⟩ : Addr).add j) = some u by rw [addr_add, hb0.cell (p := ⟨b, o + j, none⟩) hb]; exact hcell j u h)
  have HO := hideIt (World.ownsRow_lit (base := w.heap.size) (e := 4) (size := 1) w #[] 0 (Nat.le_refl _) (by decide) rfl)
  have HB0 := hideIt hb0
  have hnil := eq_nilB ⟨b, o, none⟩ us.length cd w
  clear hcell hs hb hb0
  go_enter Tryz.func73, Tryz.ntmps73
  go_wp2_with (first
    | ((with_reducible refine at_append ?_); refine wpList_apG (z := .bool false) (size := 1) (bytes := 1) (n := 0) (m := us.length) (news := us.map bl) Tryz.underlying25 (by kernel_rfl) rfl (by decide) (by decide) rfl (.tmp 5) (.tmp 6) rfl rfl HO.out rfl (by simp) HN.out (bl_one us) (by omega) HB0.out.size ?_; intro v' w' HO2 HG2 HA2 HB2))
  go_ret
  have ho := HO2.out
  rw [Nat.zero_add, show (#[] : Array Value).toList ++ us.map bl = us.map bl from rfl] at ho
  obtain ⟨g, cap, cs, rfl, _⟩ := own_at0 ho h0
  exact ⟨g, cap, rfl, ho, HB0.out.trans HB2.out⟩

theorem wpList_mkB (w : World) {ops : Array Oper} {rest : List Oper} {o : Oper} {a : Act} {Q : Exit → Act → World → Prop} (hg : o.guard = none) (l c : Operand) (hop : o.op = Op.makeSlice 25 l c)
    (n : Nat) (hl : a.eval l = .int .i64 (n : Int)) (hc : a.eval c = .int .i64 (n : Int)) (hn : n ≤ 100000)
    (hK : ∀ w', Hid (Blk w' w.heap.size 4 ((List.replicate n false).map bl)) → Hid (Below w.heap.size w w') → wpList Tryz.prog ops Q rest (a.put o.dst (.slice (some ⟨w.heap.size, 0, none⟩) n n)) w') :
    wpList Tryz.prog ops Q (o :: rest) a w := by
  obtain ⟨i0, hi, hz0, hz1, hz2⟩ := info_parts (show (Tryz.prog.info? 4).map (fun i => (i.zero, i.size, i.bytes)) = some (some (Value.bool false), 1, 1) by kernel_rfl)
  refine wpList_make_full w hg l c 25 hop w.heap.size 4 i0 (.bool false) 1 Tryz.underlying25 hi hz0 hz1 .i64 .i64 (n : Int) (n : Int) n hl hc rfl rfl (by rw [hz2]; omega) (by unfold maxLen; omega) (Nat.le_refl _) ?_
  intro w2 hown hgr
  have hb := (own_blk hown).1
  rw [Nat.mul_one, show (madeCells (Value.bool false).cells n).toList = List.replicate n (.bool false) from toList_madeCells_one _ n, show List.replicate n (Value.bool false) = (List.replicate n false).map bl by rw [List.map_replicate]] at hb
  exact hK w2 hb ((Below.refl w.heap.size w).grown hgr (Nat.le_refl _) (by simp))
/-- j true cells, the others false. -/
abbrev half9 (j k : Nat) : List Bool := List.replicate j true ++ List.replicate (k - j) false
theorem half9_len {j k : Nat} (h : j ≤ k) : (half9 j k).length = k := by simp; omega
theorem half9_splice {j k t : Nat} (h : j + t ≤ k) : splice ((half9 j k).map bl) j ((List.replicate t true).map bl) = (half9 (j + t) k).map bl := by
  unfold splice half9
  rw [← List.map_take, ← List.map_drop, ← List.map_append, ← List.map_append]
  congr 1
  rw [List.take_left' (by simp), List.length_map, List.length_replicate, List.drop_append, List.drop_replicate, List.drop_replicate, List.length_replicate, show j - (j + t) = 0 by omega, show k - j - (j + t - j) = k - (j + t) by omega]
  rw [← List.append_assoc, List.replicate_append_replicate]
  simp
theorem half9_src {W : World} {g j k t : Nat} (h : Blk W g 4 ((half9 j k).map bl)) (ht : t ≤ j) : ∀ i v, ((List.replicate t true).map bl)[i]? = some v → W.cell? ((⟨g, 0, none⟩ : Addr).add i) = some v := fun i v hv => by
  obtain ⟨hi, e⟩ := List.getElem?_eq_some_iff.1 hv
  rw [List.length_map, List.length_replicate] at hi
  rw [addr_add, Nat.zero_add, h.cell, List.getElem?_map, List.getElem?_append_left (by simp; omega), List.getElem?_replicate, if_pos (by omega), ← e]
  simp

/-- A row of the call's own without an element. -/
def GrPostB (w : World) (e : Ending) (w' : World) : Prop := ∃ v, e = .returned v ∧ w'.ownsRow w.heap.size 4 1 v 0 [] ∧ Below w.heap.size w w'
set_option maxHeartbeats 2000000 in
set_option maxRecDepth 100000 in
theorem growB_any (n : Nat) (hn : n ≤ 1000) (h0 : n ≠ 0) (w : World) : Calls Tryz.prog 96 #[.slice none 0 0, .int .i64 (n : Int)] w (GrPostB w) := by
  obtain ⟨i0, hi, hz0, hz1, hz2⟩ := info_parts (show (Tryz.prog.info? 4).map (fun i => (i.zero, i.size, i.bytes)) = some (some (Value.bool false), 1, 1) by kernel_rfl)
  have h1 : ¬ ((n : Int) < 0) := by omega
  have hpos : (n : Int) > 0 := by omega
  have hrz : ∀ ty, (Builtin.append_ #[25, 3] ty #[.slice none 0 0, .int .i64 (n : Int)]).run Tryz.prog w = .ok (.slice (some ⟨w.heap.size, 0, none⟩) n (grownCap w n 0 4)) (w.drew.alloc (.cells ((#[] : Array Value) ++ Builtin.zeroCells (Value.bool false).cells n ++ Builtin.zeroCells (Value.bool false).cells (grownCap w n 0 4 - n)) 4)) := fun ty => by
    have h := Lib.run_append_grow_zeros (P := Tryz.prog) w 25 3 ty 4 i0 (.bool false) .i64 .i64 Tryz.underlying25 Tryz.underlying3 hi hz0 none 0 0 [] (run_firstCells_none w.drew i0.size 0 0 0) n (by omega) (by rw [hz1]; decide) (by omega) (by omega) (by rw [hz2]; omega)
      (by rw [Nat.zero_add]; exact growslice_fits (by omega) (by rw [hz2]; omega))
    rw [Nat.zero_add] at h
    exact h
  have hGn : n ≤ grownCap w n 0 4 := grownCap_ge w _ _ _
  have hG63 := grownCap_le_maxLen w n 0 4 (by unfold maxLen; omega)
  obtain ⟨G, hG⟩ : ∃ G, G = grownCap w n 0 4 := ⟨_, rfl⟩
  rw [← hG] at hrz hGn hG63
  have HHG := hideIt hG63
  unfold maxLen at hG63
  clear hG hi hz0 hz1 hz2
  go_enter Tryz.func96, Tryz.ntmps96
  go_wp2_with (at_builtin; refine Lib.wpList_append_run _ rfl _ _ _ _ rfl _ _ rfl rfl _ _ (hrz _) ?_)
  go_ret
  refine ⟨.slice (some ⟨w.heap.size, 0, none⟩) 0 G, rfl, ⟨by simp, .inr ⟨w.heap.size, G, _, rfl, Nat.le_refl _, heap_alloc_new w _, Nat.zero_le _, HHG.out, ?_, by simp⟩⟩, (below_new w _).drew⟩
  simp [Builtin.zeroCells]
  omega
/-- append onto a row of the call's own, the source bools that may be none. -/
theorem run_appB {w : World} (rt : TypeId) (base : Nat) (v : Value) (n : Nat) (xs : List Bool) (hO : w.ownsRow base 4 1 v n (xs.map bl)) (B : Nat) (A' : Option Addr) (m c : Nat) (ys : List Bool) (hY : Sl w B A' 1 m (ys.map bl)) (hn : n + m ≤ 100000) (hb : base ≤ w.heap.size) :
    ∃ v' w', (Builtin.append_ #[25, 25] rt #[v, .slice A' m c]).run Tryz.prog w = .ok v' w' ∧ w'.ownsRow base 4 1 v' (n + m) ((xs ++ ys).map bl) ∧ Below base w w' := by
  obtain ⟨i, h2, h3, h4, h5⟩ := info_parts (show (Tryz.prog.info? 4).map (fun i => (i.zero, i.size, i.bytes)) = some (some (Value.bool false), 1, 1) by kernel_rfl)
  rcases Nat.eq_zero_or_pos m with hm | hm
  · subst hm
    obtain rfl : ys = [] := by have := hY.1; rw [List.length_map, Nat.zero_mul] at this; exact List.length_eq_zero_iff.1 this
    refine ⟨v, w, ?_, by simpa using hO, Below.refl _ _⟩
    obtain ⟨A, cap, rfl, q1, q2⟩ := own_form hO
    cases A' with
    | none => cases A <;> simp [Builtin.append_, run_underlying Tryz.underlying25, sizeOf, typeInfo, h2, Builtin.lenOf, Builtin.firstCells, storeCells, q1]
    | some a' => cases A <;> simp [Builtin.append_, run_underlying Tryz.underlying25, sizeOf, typeInfo, h2, Builtin.lenOf, Builtin.firstCells, storeCells, loadCells, loadCellsFrom, q1]
  · obtain ⟨b', o', rfl, _, hcy⟩ := hY.2 (by rw [hY.1]; omega)
    obtain ⟨v', w', hr, ho', hg, _⟩ := run_append_own (P := Tryz.prog) w base 25 rt 4 i (.bool false) 1 1 Tryz.underlying25 h2 h3 h4 h5 rfl (by decide) v n (xs.map bl) hO _ m c (ys.map bl) hY.1 (fun j u hu => by rw [addr_add]; exact hcy j u hu) (bl_one ys) (by unfold maxLen; omega) (by omega) hb
    exact ⟨v', w', hr, by rw [List.map_append]; exact ho', below_grown (Below.refl _ _) hO (Nat.le_refl _) hb hg⟩
theorem wpList_appB {w : World} {ops : Array Oper} {rest : List Oper} {o : Oper} {a : Act} {Q : Exit → Act → World → Prop} (hgd : o.guard = none) (s x : Operand)
    (ho : o.op = .call { callee := .builtin .append, args := #[s, x], argTypes := #[25, 25] }) {base : Nat} {v : Value} {n : Nat} {xs : List Bool} (hs : a.eval s = v) (hO : w.ownsRow base 4 1 v n (xs.map bl))
    {B : Nat} {A' : Option Addr} {m c : Nat} {ys : List Bool} (hx : a.eval x = .slice A' m c) (hY : Sl w B A' 1 m (ys.map bl)) (hn : n + m ≤ 100000) (hb : base ≤ w.heap.size)
    (hK : ∀ v' w', Hid (w'.ownsRow base 4 1 v' (n + m) ((xs ++ ys).map bl)) → Hid (Below base w w') → wpList Tryz.prog ops Q rest (a.put o.dst v') w') : wpList Tryz.prog ops Q (o :: rest) a w :=
  wpList_plain hgd fun _ hK' => by
    obtain ⟨v', w', hr, q1, q2⟩ := run_appB o.type base v n xs hO B A' m c ys hY hn hb
    unfold Oper.wp execOp
    simp only [ho, resolve, invoke, builtin, Sem.run_bind, Sem.run_pure, Result.andThen_ok, List.map_toArray, List.map_cons, List.map_nil, hs, hx, hr]
    exact hK' _ _ (hK v' w' q1 q2)

set_option maxHeartbeats 2000000 in
set_option maxRecDepth 100000 in
theorem concatB_any (a b : List Bool) (ha : a.length ≤ 100) (hb0 : b.length ≤ 100) (hpos : 0 < a.length) (S1 S2 : Option Addr) (c1 c2 h cH : Nat) (w : World) (tt : TypeId) (hH : Blk w h tt [.slice S1 a.length c1, .slice S2 b.length c2])
    (hI1 : Sl w w.heap.size S1 1 a.length (a.map bl)) (hI2 : Sl w w.heap.size S2 1 b.length (b.map bl)) :
    Calls Tryz.prog 72 #[.slice (some ⟨h, 0, none⟩) 2 cH] w fun e w' => ∃ A c, e = .returned (.slice A (a.length + b.length) c) ∧ Sl w' w'.heap.size A 1 (a.length + b.length) ((a ++ b).map bl) ∧ Below w.heap.size w w' := by
  have HH := hideIt hH
  have H1 := hideIt hI1
  have H2 := hideIt hI2
  obtain ⟨n1, hn1⟩ : ∃ n, n = a.length := ⟨_, rfl⟩
  obtain ⟨n2, hn2⟩ : ∃ n, n = b.length := ⟨_, rfl⟩
  rw [← hn1, ← hn2] at HH
  rw [← hn1] at H1 ha hpos
  rw [← hn2] at H2 hb0
  rw [← hn1, ← hn2]
  have HGR := hideIt (fun W => growB_any (n1 + n2) (by omega) (by omega) W)
  have add0 : binOp .add 3 (.int .i64 0) (.int .i64 (n1 : Int)) = pure (.int .i64 (n1 : Int)) := by
    have h := nadd 3 0 n1 (by omega)
    rw [Nat.zero_add] at h
    exact h
  have add1 := nadd 3 n1 n2 (by omega)
  obtain ⟨t, ht⟩ : ∃ t, t = n1 + n2 := ⟨_, rfl⟩
  have htn : t ≤ 200 := by omega
  rw [← ht] at add1 HGR ⊢
  have HT := hideIt ht
  clear hH hI1 hI2 ht hn1 hn2
  go_enter Tryz.func72, Tryz.ntmps72
  go_wp2_with fail
  go_loopg [3, 11] 2 (fun gk s3 s11 wr => ∃ k : Nat, k + gk = 2 ∧ s11 = .int .i64 (k : Int) ∧ s3 = .int .i64 ((if k = 0 then 0 else if k = 1 then n1 else t : Nat) : Int) ∧ wr = w)
  case atStart => exact ⟨0, by omega, rfl, rfl, rfl⟩
  case round =>
    obtain ⟨k, hk, rfl, rfl, rfl⟩ := hrel
    rcases (show k = 0 ∨ k = 1 ∨ k = 2 by omega) with rfl | rfl | rfl
    · have hc0 : wr.cell? ⟨h, 0, none⟩ = some (.slice S1 n1 c1) := by rw [HH.out.cell]; rfl
      obtain rfl : gk = 2 := by omega
      go_wp2_with fail
      go_roundg 1
      case measure => omega
      case rel => exact ⟨1, by omega, rfl, rfl, rfl⟩
    · have hc1 : wr.cell? ⟨h, 1, none⟩ = some (.slice S2 n2 c2) := by rw [HH.out.cell]; rfl
      obtain rfl : gk = 1 := by omega
      go_wp2_with fail
      go_roundg 0
      case measure => omega
      case rel => exact ⟨2, by omega, rfl, rfl, rfl⟩
    · obtain rfl : gk = 0 := by omega
      go_wp2_with fail
      refine (HGR.out wr).mono ?_
      rintro e w2 ⟨v, rfl, ho, hb⟩
      have HO := hideIt ho
      have HB := hideIt hb
      clear ho hb
      go_wp2_with fail
      obtain ⟨w1, rfl⟩ : ∃ x, x = wr := ⟨wr, rfl⟩
      go_loopg [6, 27] 2 (fun gk s6 s27 wr => ∃ (k : Nat) (v : Value), k + gk = 2 ∧ s6 = v ∧ s27 = .int .i64 (k : Int) ∧ Aside (wr.ownsRow w1.heap.size 4 1 v (if k = 0 then 0 else if k = 1 then n1 else n1 + n2) ((if k = 0 then [] else if k = 1 then a else a ++ b).map bl) ∧ Below w1.heap.size w1 wr))
      case atStart => exact ⟨0, v, by omega, rfl, rfl, HO.out, HB.out⟩
      case round =>
        obtain ⟨k, u, hk, hu, rfl, HA⟩ := hrel
        rw [hu]
        clear hu
        rcases (show k = 0 ∨ k = 1 ∨ k = 2 by omega) with rfl | rfl | rfl
        · have hc0 : wr.cell? ⟨h, 0, none⟩ = some (.slice S1 n1 c1) := by rw [(HH.out.kept HA.out.2 HH.out.lt).cell]; rfl
          have HY := hideIt (H1.out.below HA.out.2)
          have HO1 := hideIt (show wr.ownsRow w1.heap.size 4 1 u 0 (([] : List Bool).map bl) from HA.out.1)
          have HB1 := hideIt HA.out.2
          obtain rfl : gk = 2 := by omega
          clear HA HO HB
          go_wp2_with ((with_reducible refine at_append ?_); refine wpList_appB rfl (.tmp 31) (.tmp 32) rfl rfl HO1.out rfl HY.out (by omega) HB1.out.size ?_; intro v6 w6 HO6 hb; have HB6 := hideIt (HB1.out.trans hb.out); clear hb)
          go_roundg 1
          case measure => omega
          case rel => exact ⟨1, v6, by omega, rfl, rfl, by have h := HO6.out; rw [Nat.zero_add, List.nil_append] at h; exact h, HB6.out⟩
        · have hc1 : wr.cell? ⟨h, 1, none⟩ = some (.slice S2 n2 c2) := by rw [(HH.out.kept HA.out.2 HH.out.lt).cell]; rfl
          have HY := hideIt (H2.out.below HA.out.2)
          have HO1 := hideIt (show wr.ownsRow w1.heap.size 4 1 u n1 (a.map bl) from HA.out.1)
          have HB1 := hideIt HA.out.2
          obtain rfl : gk = 1 := by omega
          clear HA HO HB
          go_wp2_with ((with_reducible refine at_append ?_); refine wpList_appB rfl (.tmp 31) (.tmp 32) rfl rfl HO1.out rfl HY.out (by omega) HB1.out.size ?_; intro v6 w6 HO6 hb; have HB6 := hideIt (HB1.out.trans hb.out); clear hb)
          go_roundg 0
          case measure => omega
          case rel => exact ⟨2, v6, by omega, rfl, rfl, HO6.out, HB6.out⟩
        · obtain rfl : gk = 0 := by omega
          have HO1 := hideIt (show wr.ownsRow w1.heap.size 4 1 u (n1 + n2) ((a ++ b).map bl) from HA.out.1)
          have HB1 := hideIt HA.out.2
          clear HA HO HB
          go_wp2_with fail
          go_ret
          obtain ⟨A, c, rfl, _, _⟩ := own_form HO1.out
          exact ⟨A, ⟨c, by rw [HT.out]; rfl⟩, by rw [HT.out, ← List.map_append]; exact Sl.of_own HO1.out, HB1.out⟩
end Go.Proofs.YtkfahoaiialndaaGreatDoor
