/-
  The reference, walked: parity.
  The reference, walked: local.
-/
import Derived.Test.YtcogkdnlpjfgdaaGreatDoorRlP
import Derived.Test.YtcogkdnlpjfgdaaGreatDoorCodC
namespace Go.Proofs.YtcogkdnlpjfgdaaGreatDoor
open Go.RowKit
set_option linter.unusedVariables false
set_option linter.unusedSimpArgs false

theorem q_subp (t : TypeId) (a b : Nat) (h : b ≤ a) (ha : a < 9223372036854775808) : binOp .sub t (.int .i64 (a : Int)) (.int .i64 (b : Int)) = pure (.int .i64 ((a - b : Nat) : Int)) := by
  rw [binOp_sub]
  simp only [Op.intArith]
  rw [IntWalk.i64_in _ (by omega), Int.ofNat_sub h]
theorem q_addp (t : TypeId) (a b : Nat) (h : a + b < 9223372036854775808) : binOp .add t (.int .i64 (a : Int)) (.int .i64 (b : Int)) = pure (.int .i64 ((a + b : Nat) : Int)) := by
  rw [binOp_add]
  simp only [Op.intArith]
  rw [IntWalk.i64_in _ (by omega)]
  rfl
def sumN (l : List Tk) : Nat := l.foldr (fun t s => t.n + s) 0
theorem sumN_snoc (l : List Tk) (x : Tk) : sumN (l ++ [x]) = sumN l + x.n := by
  unfold sumN
  induction l with
  | nil => simp
  | cons y r ih => rw [List.cons_append, List.foldr_cons, List.foldr_cons, ih]; omega
theorem sumN_zero : ∀ (l : List Tk), sumN l = 0 ↔ l.all (fun t => decide (t.n = 0)) = true
  | [] => by simp [sumN]
  | x :: r => by
    have e : sumN (x :: r) = x.n + sumN r := rfl
    rw [e, List.all_cons, Bool.and_eq_true, ← sumN_zero r, decide_eq_true_iff]
    omega
theorem sumN_le (m : Nat) : ∀ (l : List Tk), (∀ t ∈ l, t.n ≤ m) → sumN l ≤ m * l.length
  | [], _ => by simp [sumN]
  | x :: r, h => by
    have h1 := sumN_le m r (fun y hy => h y (by simp [hy]))
    have h2 := h x (by simp)
    have e : sumN (x :: r) = x.n + sumN r := rfl
    rw [e, List.length_cons, Nat.mul_add]
    omega
set_option maxHeartbeats 2000000 in
set_option maxRecDepth 100000 in
theorem rparity_any (x : Ln) (A : Option Addr) (ca : Nat) (vb : Value) (hvb : vb.oneCell' = true) (C data most : Nat) (hd : data ≤ 31) (hm : most ≤ 65535) (hN : ∀ t ∈ x.a, t.n ≤ 1000000) (hla : x.a.length ≤ 100000) (w : World) (ha : RtS w C (.slice A x.a.length ca) x.a) :
    Calls Tryz.prog 75 #[.agg #[sv x.key.tx, .int .i64 (x.key.ps : Int), .int .i64 (x.key.kd : Int), .int .i64 (x.key.n : Int), .slice A x.a.length ca, vb], .int .i64 (data : Int), .int .i64 (most : Int)] w fun e w' =>
      CellsE w.heap.size (parityB x data most) e w' ∧ Below w.heap.size w w' := by
  obtain ⟨i0, hi0, hz0, hz1, hz2⟩ := info_three (show (Tryz.prog.info? 3).map (fun i => (i.zero, i.size, i.bytes)) = some (some (.int .i64 0), 1, 8) by kernel_rfl)
  obtain ⟨⟨tx, p, kd0, n0⟩, a, b⟩ := x
  dsimp only at hN hla ha ⊢
  obtain ⟨W1, hW1⟩ : ∃ W, W = w.alloc (.cells #[sv tx, .int .i64 (p : Int), .int .i64 (kd0 : Int), .int .i64 (n0 : Int), .slice A a.length ca, vb] 112) := ⟨_, rfl⟩
  have hb1 : Blk W1 w.heap.size 112 [sv tx, .int .i64 (p : Int), .int .i64 (kd0 : Int), .int .i64 (n0 : Int), .slice A a.length ca, vb] := by
    rw [hW1]; exact Blk.new w 112 [sv tx, .int .i64 (p : Int), .int .i64 (kd0 : Int), .int .i64 (n0 : Int), .slice A a.length ca, vb]
  have HBL : Hid (Below w.heap.size w W1) := by rw [hW1]; exact below_new w _
  have HT : Hid (RtS W1 C (.slice A a.length ca) a) := by rw [hW1]; exact World.ownsRow.alloc ha _
  have HSZ : Hid (w.heap.size < W1.heap.size) := by rw [hW1]; show _ < _; simp
  have r1 := hb1.cell 1
  have r4 := hb1.cell 4
  rw [hW1] at r1 r4
  have HW1 := hideIt hW1
  have HB1 := hideIt hb1
  have HN := hideIt hN
  obtain ⟨R, hR⟩ : ∃ R, R = parityB ⟨⟨tx, p, kd0, n0⟩, a, b⟩ data most := ⟨_, rfl⟩
  rw [← hR]
  unfold parityB at hR
  dsimp only at hR
  have HR := hideIt hR
  obtain ⟨n, hn⟩ : ∃ n, n = a.length := ⟨_, rfl⟩
  rw [← hn] at hla r4 HW1 HB1 HR
  rw [← hn]
  have HN0 := hideIt hn
  have hne := i_neq 3 .i64 (n : Int) (data : Int)
  have HFIN : Hid (∀ W, W = w.alloc (.cells #[sv tx, .int .i64 (p : Int), .int .i64 (kd0 : Int), .int .i64 (n0 : Int), .slice A n ca, vb] 112) → Below w.heap.size w W) := fun W h => by rw [h, ← HW1.out]; exact HBL.out
  clear hb1 hW1 hN ha hn hR hvb
  by_cases hnd : n = data
  · subst hnd
    rw [decide_eq_false (fun h => h rfl)] at hne
    have HR2 : Hid (R = match a.find? (fun t => decide ((n : Int) ≠ (n : Int) ∨ (most : Int) < (t.n : Int))) with | some t => ([], t.ps, 1) | none => if a.all (fun t => decide (t.n = 0)) = true then ([], p, 1) else (a.map (fun t => (t.n : Int)), 0, 0)) := by
      have := HR.out
      rw [if_neg (by simp)] at this
      have e : (fun t : Tk => decide ((n : Int) ≠ (n : Int) ∨ (most : Int) < (t.n : Int))) = fun t => decide ((most : Int) < (t.n : Int)) := by funext t; simp
      rw [e]
      exact this
    have HR3 : Hid (R = match a.find? (fun t => decide ((most : Int) < (t.n : Int))) with | some t => ([], t.ps, 1) | none => if a.all (fun t => decide (t.n = 0)) = true then ([], p, 1) else (a.map (fun t => (t.n : Int)), 0, 0)) := by
      have := HR.out
      rw [if_neg (by simp)] at this
      exact this
    clear HR HR2
    go_enter Tryz.func75, Tryz.ntmps75
    go_wp2_with fail
    rw [← HW1.out]
    clear r1 r4 hne
    go_loopg [9, 10, 11] n (fun gk s9 s10 s11 wr => ∃ (j sm : Nat) (A9 : Option Addr) (n9 c9 : Nat), j + gk = n ∧ s9 = .slice A9 n9 c9 ∧ s10 = .int .i64 (sm : Int) ∧ s11 = .int .i64 (j : Int) ∧ sm ≤ 1000000 * j ∧
      Aside (sm = sumN (a.take j) ∧ wr.ownsRow w.heap.size 3 1 (.slice A9 n9 c9) j ((a.take j).map (fun t => iv (t.n : Int))) ∧ (∀ t ∈ a.take j, decide ((most : Int) < (t.n : Int)) = false) ∧ Below w.heap.size w wr ∧ Blk wr w.heap.size 112 [sv tx, .int .i64 (p : Int), .int .i64 (kd0 : Int), .int .i64 (n0 : Int), .slice A n ca, vb] ∧ RtS wr C (.slice A n ca) a ∧ n9 = j))
    case atStart =>
      refine ⟨0, 0, none, 0, 0, by omega, rfl, rfl, rfl, by omega, rfl, World.ownsRow_nil _ _ _ _, fun t ht => by simp at ht, HBL.out, HB1.out, ?_, rfl⟩
      have := HT.out
      rw [← HN0.out] at this
      exact this
    case round =>
      obtain ⟨j, sm, A9, n9, c9, hj, rfl, rfl, rfl, hsm, HI⟩ := hrel
      have c1 := HI.out.2.2.2.2.1.cell 1
      have c4 := HI.out.2.2.2.2.1.cell 4
      by_cases hlt : j < n
      · have hjl : j < a.length := by rw [← HN0.out]; exact hlt
        have htk := HI.out.2.2.2.2.2.1
        rw [HN0.out] at htk
        obtain ⟨g, cc, hA, hg, hcell⟩ := RtS.tok htk hjl
        have hA : A = some ⟨g, 0, none⟩ := by injection hA
        subst hA
        have t1 : wr.cell? ⟨g, j * 4 + 1, none⟩ = some (.int .i64 ((a[j]).ps : Int)) := hcell 1 _ rfl
        have t3 : wr.cell? ⟨g, j * 4 + 3, none⟩ = some (.int .i64 ((a[j]).n : Int)) := hcell 3 _ rfl
        have HTA := hideIt (take_snoc a j hjl)
        have hxn := HN.out _ (List.getElem_mem hjl)
        have HFF := hideIt (fun h2 => find_first hjl HI.out.2.2.1 h2)
        have hinc := inc_c 3 j (by omega)
        have hji : (j : Int) < (n : Int) := by omega
        generalize a[j] = x at *
        clear hjl hcell htk hg
        by_cases hq : (most : Int) < (x.n : Int)
        · have HP : Hid (R = ([], x.ps, 1)) := by
            show R = _
            rw [HR3.out, HFF.out (decide_eq_true hq)]
          have hq2 : (x.n : Int) > (most : Int) := hq
          clear hq
          go_wp2_with fail
          go_quiet (fail)
          go_wp2_with fail
          go_ret3
          rw [HP.out]
          exact ⟨.inr ⟨one_ne, rfl⟩, below_drewN HI.out.2.2.2.1 _⟩
        · have hq2 : ¬ (x.n : Int) > (most : Int) := hq
          have HQ := hideIt (decide_eq_false hq)
          have hadd := q_addp 3 sm x.n (by omega)
          have HS := hideIt (show sm + x.n = sumN (a.take (j + 1)) by rw [HTA.out, sumN_snoc, ← HI.out.1])
          have hsb : sm + x.n ≤ 1000000 * (j + 1) := by omega
          have hn9 := HI.out.2.2.2.2.2.2
          generalize sm + x.n = sm2 at *
          clear hq
          go_wp2_with ((with_reducible refine at_append ?_); refine wpList_app2 rfl (.tmp 41) (.tmp 43) 61 rfl w.heap.size 3 i0 (.int .i64 0) 1 8 Tryz.underlying61 hi0 hz0 hz1 hz2 rfl (by decide) (.slice A9 n9 c9) j ((a.take j).map (fun t => iv (t.n : Int))) rfl (World.ownsRow.alloc HI.out.2.1 _) _ _ 1 1 [iv (x.n : Int)] rfl (sl_one wr _ _) (ones_one rfl) (by unfold maxLen; omega) (by omega) (Nat.le_trans HI.out.2.2.2.1.size (below_new wr _).size) ?_; intro v4 w4 ho4 hg4; obtain ⟨A4, c4', rfl, _, _⟩ := own_form ho4; have HO4 := hideIt ho4; have HG4 := hideIt hg4; clear ho4 hg4)
          go_roundg (gk - 1)
          case measure => omega
          case rel =>
            have hown := World.ownsRow.alloc HI.out.2.1 (.cells #[iv (x.n : Int)] 3)
            refine ⟨j + 1, sm2, A4, _, c4', by omega, rfl, rfl, by go_num, hsb, HS.out, ?_, ?_, ?_, ?_, ?_, rfl⟩
            · rw [HTA.out, List.map_append]
              exact HO4.out
            · intro t ht
              rw [HTA.out] at ht
              rcases List.mem_append.1 ht with h | h
              · exact HI.out.2.2.1 t h
              · rw [List.mem_singleton] at h; rw [h]; exact HQ.out
            · exact below_grown (HI.out.2.2.2.1.alloc HI.out.2.2.2.1.size _) hown (Nat.le_refl _) (Nat.le_trans HI.out.2.2.2.1.size (below_new wr _).size) HG4.out
            · exact (HI.out.2.2.2.2.1.alloc _).grown HG4.out (own_ne hown (HI.out.2.2.2.2.1.alloc _) (by decide))
            · exact World.ownsRow.kept (World.ownsRow.alloc HI.out.2.2.2.2.2.1 _) HG4.out (own_apart (World.ownsRow.alloc HI.out.2.2.2.2.2.1 _) hown (by decide))
      · obtain rfl : j = n := by omega
        have hji : ¬ (j : Int) < (j : Int) := by omega
        have HU : Hid (a.take j = a) := List.take_of_length_le (by rw [← HN0.out]; exact Nat.le_refl _)
        have HNO : Hid (a.find? (fun t => decide ((most : Int) < (t.n : Int))) = none) := List.find?_eq_none.2 fun x hx => by
          have := HI.out.2.2.1 x (by rw [HU.out]; exact hx)
          rw [this]; simp
        have h1 := HI.out.1
        rw [HU.out] at h1
        have hsz := i_eql 3 .i64 (sm : Int) 0
        by_cases hs0 : sm = 0
        · have HP : Hid (R = ([], p, 1)) := by
            show R = _
            rw [HR3.out, HNO.out]
            dsimp only
            rw [if_pos ((sumN_zero a).1 (by rw [← h1]; exact hs0))]
          rw [decide_eq_true (by omega)] at hsz
          clear h1 hs0
          go_wp2_with fail
          go_quiet (fail)
          go_wp2_with fail
          go_ret3
          rw [HP.out]
          exact ⟨.inr ⟨one_ne, rfl⟩, below_drewN HI.out.2.2.2.1 _⟩
        · have HP : Hid (R = (a.map (fun t => (t.n : Int)), 0, 0)) := by
            show R = _
            rw [HR3.out, HNO.out]
            dsimp only
            rw [if_neg (fun q => hs0 (by rw [h1]; exact (sumN_zero a).2 q))]
          rw [decide_eq_false (by omega)] at hsz
          have hn9 := HI.out.2.2.2.2.2.2
          clear h1 hs0
          go_wp2_with fail
          go_ret3
          rw [HP.out]
          refine ⟨.inl ⟨rfl, A9, c9, ?_, ?_⟩, HI.out.2.2.2.1⟩
          · rw [List.length_map, ← HN0.out, ← hn9]; rfl
          · have := HI.out.2.1
            rw [HU.out] at this
            unfold IR
            rw [List.length_map, List.map_map, ← HN0.out]
            rw [hn9] at this
            exact this
  · rw [decide_eq_true (by omega)] at hne
    have HP : Hid (R = ([], p, 1)) := HR.out.trans (if_pos (by omega))
    clear HR hnd
    go_enter Tryz.func75, Tryz.ntmps75
    go_wp2_with fail
    go_quiet (fail)
    go_wp2_with fail
    go_ret3
    rw [HP.out]
    exact ⟨.inr ⟨one_ne, rfl⟩, below_drewN (HFIN.out _ rfl) _⟩

set_option maxHeartbeats 4000000 in
set_option maxRecDepth 100000 in
theorem rlocal_any (x : Ln) (A A' : Option Addr) (ca cb : Nat) (C data most : Nat) (hd : data ≤ 31) (hm : most ≤ 65535) (hla : x.a.length ≤ 100000) (hlb : x.b.length ≤ 100000) (w : World) (ha : RtS w C (.slice A x.a.length ca) x.a) (hb : RtS w C (.slice A' x.b.length cb) x.b) :
    Calls Tryz.prog 76 #[.agg #[sv x.key.tx, .int .i64 (x.key.ps : Int), .int .i64 (x.key.kd : Int), .int .i64 (x.key.n : Int), .slice A x.a.length ca, .slice A' x.b.length cb], .int .i64 (data : Int), .int .i64 (most : Int)] w fun e w' =>
      CellsE w.heap.size (localB x data most) e w' ∧ Below w.heap.size w w' := by
  obtain ⟨⟨tx, p, kd0, n0⟩, a, b⟩ := x
  dsimp only at hla hlb ha hb ⊢
  obtain ⟨W1, hW1⟩ : ∃ W, W = w.alloc (.cells #[sv tx, .int .i64 (p : Int), .int .i64 (kd0 : Int), .int .i64 (n0 : Int), .slice A a.length ca, .slice A' b.length cb] 112) := ⟨_, rfl⟩
  have hb1 : Blk W1 w.heap.size 112 [sv tx, .int .i64 (p : Int), .int .i64 (kd0 : Int), .int .i64 (n0 : Int), .slice A a.length ca, .slice A' b.length cb] := by
    rw [hW1]; exact Blk.new w 112 [sv tx, .int .i64 (p : Int), .int .i64 (kd0 : Int), .int .i64 (n0 : Int), .slice A a.length ca, .slice A' b.length cb]
  have HBL : Hid (Below w.heap.size w W1) := by rw [hW1]; exact below_new w _
  have HT : Hid (RtS w C (.slice A a.length ca) a) := ha
  have HU : Hid (RtS w C (.slice A' b.length cb) b) := hb
  have HSZ : Hid (w.heap.size + 1 ≤ W1.heap.size) := by rw [hW1]; show _ ≤ _; simp
  have r1 := hb1.cell 1
  have r4 := hb1.cell 4
  have r5 := hb1.cell 5
  rw [hW1] at r1 r4 r5
  have HW1 := hideIt hW1
  have HB1 := hideIt hb1
  obtain ⟨R, hR⟩ : ∃ R, R = localB ⟨⟨tx, p, kd0, n0⟩, a, b⟩ data most := ⟨_, rfl⟩
  rw [← hR]
  unfold localB at hR
  dsimp only at hR
  have HR := hideIt hR
  obtain ⟨n, hn⟩ : ∃ n, n = a.length := ⟨_, rfl⟩
  obtain ⟨m, hmm⟩ : ∃ m, m = b.length := ⟨_, rfl⟩
  rw [← hn] at hla r4 HW1 HB1 HR
  rw [← hmm] at hlb r5 HW1 HB1 HR
  rw [← hn, ← hmm]
  have HN0 := hideIt hn
  have HM0 := hideIt hmm
  have hne := i_neq 3 .i64 (n : Int) (m : Int)
  clear hb1 hW1 ha hb hn hmm hR
  go_enter Tryz.func76, Tryz.ntmps76
  go_wp2_with fail
  rw [← HW1.out]
  clear r1 r4 r5
  go_loopg [9] n (fun gk s9 wr => ∃ j q : Nat, j + gk = n ∧ s9 = .int .i64 (j : Int) ∧
    Aside (locI data 0 a = locI data q (a.drop j) ∧ (j = 0 → q = 0) ∧ (∀ k y, j = k + 1 → a[k]? = some y → q = y.n + 1) ∧ Below w.heap.size w wr ∧ Blk wr w.heap.size 112 [sv tx, .int .i64 (p : Int), .int .i64 (kd0 : Int), .int .i64 (n0 : Int), .slice A n ca, .slice A' m cb] ∧ w.heap.size + 1 ≤ wr.heap.size))
  case atStart => exact ⟨0, 0, by omega, rfl, rfl, fun _ => rfl, fun k y h => by omega, HBL.out, HB1.out, HSZ.out⟩
  case round =>
    obtain ⟨j, q, hj, rfl, HI⟩ := hrel
    have c1 := HI.out.2.2.2.2.1.cell 1
    have c4 := HI.out.2.2.2.2.1.cell 4
    have c5 := HI.out.2.2.2.2.1.cell 5
    by_cases hlt : j < n
    · have hjl : j < a.length := by rw [← HN0.out]; exact hlt
      have htk := HT.out
      rw [← HN0.out] at htk
      have htk' := htk
      rw [HN0.out] at htk'
      obtain ⟨g, cc, hA, hg, hcell⟩ := RtS.tok htk' hjl
      have hA : A = some ⟨g, 0, none⟩ := by injection hA
      subst hA
      have HCK := hideIt (fun (i : Nat) (hi : i < a.length) (k : Nat) (u : Value) (hu : (rtC a[i])[k]? = some u) => show wr.cell? ⟨g, i * 4 + k, none⟩ = some u from by
        obtain ⟨g', cc', hA', _, hcell'⟩ := RtS.tok htk' hi
        have e : g = g' := by injection hA' with hA' _ _; injection hA' with hA'; injection hA'
        subst e
        exact (HI.out.2.2.2.1.cell (p := ⟨g, i * 4 + k, none⟩) hg).trans (hcell' k u hu))
      have t1 : wr.cell? ⟨g, j * 4 + 1, none⟩ = some (.int .i64 ((a[j]).ps : Int)) := HCK.out j hjl 1 _ rfl
      have t3 : wr.cell? ⟨g, j * 4 + 3, none⟩ = some (.int .i64 ((a[j]).n : Int)) := HCK.out j hjl 3 _ rfl
      have HDR := hideIt (List.drop_eq_getElem_cons hjl)
      have HGJ := hideIt (List.getElem?_eq_getElem hjl)
      have hinc := inc_c 3 j (by omega)
      have hji : (j : Int) < (n : Int) := by omega
      have HERR : Hid (∀ y : Tk, locI data 0 a = some y → R = ([], y.ps, 1)) := fun y h => by rw [HR.out, h]
      by_cases hq1 : data ≤ (a[j]).n
      · have HP : Hid (R = ([], (a[j]).ps, 1)) := HERR.out _ (by rw [HI.out.1, HDR.out, locI, if_pos (.inl (by omega))])
        have hge : ((a[j]).n : Int) ≥ (data : Int) := by omega
        generalize a[j] = x at *
        clear hjl hcell htk htk' hg hq1
        go_wp2_with fail
        go_quiet (fail)
        go_wp2_with fail
        go_quiet (fail)
        go_wp2_with fail
        go_ret3
        rw [HP.out]
        exact ⟨.inr ⟨one_ne, rfl⟩, below_drewN (below_drewN HI.out.2.2.2.1 _) _⟩
      · have hge : binOp .geq 3 (.int .i64 ((a[j]).n : Int)) (.int .i64 (data : Int)) = pure (.bool false) := by rw [binOp_geq]; congr 2; exact decide_eq_false (by omega)
        by_cases hj0 : j = 0
        · have hgt : binOp .gtr 3 (.int .i64 (j : Int)) (.int .i64 0) = pure (.bool false) := by rw [binOp_gtr]; congr 2; exact decide_eq_false (by omega)
          have HQ := hideIt (HI.out.2.1 hj0)
          have HL : Hid (locI data 0 a = locI data ((a[j]).n + 1) (a.drop (j + 1))) := by
            show _ = _
            rw [HI.out.1, HDR.out, locI, if_neg (by rw [HQ.out]; omega)]
          have HY : Hid (∀ k y, j + 1 = k + 1 → a[k]? = some y → (a[j]).n + 1 = y.n + 1) := fun k y h1 h2 => by
            obtain rfl : j = k := by omega
            rw [HGJ.out] at h2
            injection h2 with h2
            rw [h2]
          generalize a[j] = x at *
          clear hjl hcell htk htk' hg hq1 hj0
          go_wp2_with fail
          go_quiet (fail)
          go_wp2_with fail
          go_roundg (gk - 1)
          case measure => omega
          case rel => exact ⟨j + 1, x.n + 1, by omega, by go_num, HL.out, fun h => absurd h (by omega), HY.out, below_drewN HI.out.2.2.2.1 _, HI.out.2.2.2.2.1.kept (below_drewN (Below.refl _ _) _) HI.out.2.2.2.2.1.lt, HI.out.2.2.2.2.2⟩
        · have hgt : binOp .gtr 3 (.int .i64 (j : Int)) (.int .i64 0) = pure (.bool true) := by rw [binOp_gtr]; congr 2; exact decide_eq_true (by omega)
          obtain ⟨k, hk⟩ : ∃ k, k = j - 1 := ⟨_, rfl⟩
          have hkl : k < a.length := by omega
          have hsub : binOp .sub 3 (.int .i64 (j : Int)) (.int .i64 1) = pure (.int .i64 (k : Int)) := by rw [hk]; exact q_subp 3 j 1 (by omega) (by omega)
          have t5 : wr.cell? ⟨g, k * 4 + 3, none⟩ = some (.int .i64 ((a[k]).n : Int)) := HCK.out k hkl 3 _ rfl
          have HQ := hideIt (HI.out.2.2.1 k a[k] (by omega) (List.getElem?_eq_getElem hkl))
          have hki : (k : Int) < (n : Int) ∧ 0 ≤ (k : Int) := by omega
          have hk0 := hki.1
          have hk1 := hki.2
          by_cases hle : (a[j]).n ≤ (a[k]).n
          · have HP : Hid (R = ([], (a[j]).ps, 1)) := HERR.out _ (by rw [HI.out.1, HDR.out, locI, if_pos (.inr (by rw [HQ.out]; omega))])
            have hle2 : ((a[j]).n : Int) ≤ ((a[k]).n : Int) := by omega
            generalize a[j] = x at *
            generalize a[k] = y at *
            clear hjl hcell htk htk' hg hq1 hj0 hk hkl hle hki
            go_wp2_with fail
            go_quiet (fail)
            go_wp2_with fail
            go_quiet (fail)
            go_wp2_with fail
            go_ret3
            rw [HP.out]
            exact ⟨.inr ⟨one_ne, rfl⟩, below_drewN (below_drewN HI.out.2.2.2.1 _) _⟩
          · have hle2 : ¬ ((a[j]).n : Int) ≤ ((a[k]).n : Int) := by omega
            have HL : Hid (locI data 0 a = locI data ((a[j]).n + 1) (a.drop (j + 1))) := by
              show _ = _
              rw [HI.out.1, HDR.out, locI, if_neg (by rw [HQ.out]; omega)]
            have HY : Hid (∀ k y, j + 1 = k + 1 → a[k]? = some y → (a[j]).n + 1 = y.n + 1) := fun k y h1 h2 => by
              obtain rfl : j = k := by omega
              rw [HGJ.out] at h2
              injection h2 with h2
              rw [h2]
            generalize a[j] = x at *
            generalize a[k] = y at *
            clear hjl hcell htk htk' hg hq1 hj0 hk hkl hle hki
            go_wp2_with fail
            go_quiet (fail)
            go_wp2_with fail
            go_roundg (gk - 1)
            case measure => omega
            case rel => exact ⟨j + 1, x.n + 1, by omega, by go_num, HL.out, fun h => absurd h (by omega), HY.out, below_drewN HI.out.2.2.2.1 _, HI.out.2.2.2.2.1.kept (below_drewN (Below.refl _ _) _) HI.out.2.2.2.2.1.lt, HI.out.2.2.2.2.2⟩
    · obtain rfl : j = n := by omega
      have hji : ¬ (j : Int) < (j : Int) := by omega
      have HNO : Hid (locI data 0 a = none) := by
        show locI data 0 a = none
        rw [HI.out.1, List.drop_of_length_le (by rw [← HN0.out]; exact Nat.le_refl _)]
        rfl
      have HR2 : Hid (R = if j ≠ m then (([], p, 1) : List Int × Nat × Int) else match b.find? (fun t => decide (t.n = 0 ∨ (most : Int) < (t.n : Int))) with | some t => ([], t.ps, 1) | none => (fillL a b (List.replicate (data : Int).toNat 0), 0, 0)) := by
        have := HR.out
        rw [HNO.out] at this
        exact this
      by_cases hmn : m = j
      · rw [decide_eq_false (by omega)] at hne
        subst hmn
        have HLE := hideIt (show a.length = b.length by rw [← HN0.out, ← HM0.out])
        have HSI := hideIt HI.out.2.2.2.2.2
        have HWI := hideIt HI.out.2.2.2.1
        have HR3 : Hid (R = match b.find? (fun t => decide (t.n = 0 ∨ (most : Int) < (t.n : Int))) with | some t => ([], t.ps, 1) | none => (fillL a b (List.replicate data 0), 0, 0)) := by
          have := HR2.out
          rw [if_neg (by simp), Int.toNat_natCast] at this
          exact this
        go_wp2_with ((with_reducible refine at_make ?_); refine wpList_zeros _ rfl (.tmp 64) (.tmp 64) rfl data rfl rfl (by omega) ?_; intro w3 HB3 HW3; have hr3 := HI.out.2.2.2.2.1.kept HW3.out HI.out.2.2.2.2.1.lt; have HR3' := hideIt hr3; have HX3 := hideIt (HWI.out.trans (HW3.out.mono HWI.out.size)); have HS3 := hideIt HB3.out.lt; clear hr3)
        obtain ⟨G, hG⟩ : ∃ G, G = wr.heap.size := ⟨_, rfl⟩
        rw [← hG] at HB3 HS3
        rw [← hG]
        have HG0 := hideIt (show w.heap.size + 1 ≤ G by rw [hG]; exact HSI.out)
        clear hG c1 c4 c5
        go_loopg [11] m (fun gk s11 wr => ∃ k : Nat, k + gk = m ∧ s11 = .int .i64 (k : Int) ∧ Aside (Below w.heap.size w wr ∧ Blk wr w.heap.size 112 [sv tx, .int .i64 (p : Int), .int .i64 (kd0 : Int), .int .i64 (n0 : Int), .slice A m ca, .slice A' m cb] ∧ Blk wr G 3 ((fillL (a.take k) (b.take k) (List.replicate data 0)).map iv) ∧ (∀ y ∈ b.take k, decide (y.n = 0 ∨ (most : Int) < (y.n : Int)) = false)))
        case atStart =>
          refine ⟨0, by omega, rfl, HX3.out, HR3'.out, ?_, fun y hy => by simp at hy⟩
          have := HB3.out
          rw [← rep_iv data] at this
          exact this
        case round =>
          obtain ⟨k, hk, rfl, HJ⟩ := hrel
          have c1 := HJ.out.2.1.cell 1
          have c4 := HJ.out.2.1.cell 4
          have c5 := HJ.out.2.1.cell 5
          by_cases hkt : k < m
          · have hka : k < a.length := by rw [← HN0.out]; exact hkt
            have hkb : k < b.length := by rw [← HM0.out]; exact hkt
            have htk := HU.out
            obtain ⟨g, cc, hA, hg, hc1⟩ := RtS.tok htk hkb
            have hA : A' = some ⟨g, 0, none⟩ := by injection hA
            subst hA
            have htk2 := HT.out
            obtain ⟨g2, cc2, hA2, hg2, hc3⟩ := RtS.tok htk2 hka
            have hA2 : A = some ⟨g2, 0, none⟩ := by injection hA2
            subst hA2
            have t1 : wr.cell? ⟨g, k * 4 + 1, none⟩ = some (.int .i64 ((b[k]).ps : Int)) := (HJ.out.1.cell (p := ⟨g, k * 4 + 1, none⟩) hg).trans (hc1 1 _ rfl)
            have t3 : wr.cell? ⟨g, k * 4 + 3, none⟩ = some (.int .i64 ((b[k]).n : Int)) := (HJ.out.1.cell (p := ⟨g, k * 4 + 3, none⟩) hg).trans (hc1 3 _ rfl)
            have t4 : wr.cell? ⟨g2, k * 4 + 3, none⟩ = some (.int .i64 ((a[k]).n : Int)) := (HJ.out.1.cell (p := ⟨g2, k * 4 + 3, none⟩) hg2).trans (hc3 3 _ rfl)
            have HTA := hideIt (take_snoc a k hka)
            have HTB := hideIt (take_snoc b k hkb)
            have HXD := hideIt (show a[k].n < data by have := (locI_none HNO.out _ (List.getElem_mem hka)).1; omega)
            have HFF := hideIt (fun (h2 : decide ((b[k]).n = 0 ∨ (most : Int) < ((b[k]).n : Int)) = true) => find_first hkb HJ.out.2.2.2 h2)
            have hinc := inc_c 3 k (by omega)
            have hji : (k : Int) < (m : Int) := by omega
            have HLK := hideIt (show (a.take k).length = (b.take k).length by rw [List.length_take, List.length_take, HLE.out])
            have hz := i_eql 3 .i64 ((b[k]).n : Int) 0
            generalize a[k] = x at *
            generalize b[k] = y at *
            clear hka hkb hg hc1 hA htk htk2 hA2 hg2 hc3
            by_cases h0 : y.n = 0
            · rw [decide_eq_true (by omega)] at hz
              have HP : Hid (R = ([], y.ps, 1)) := by show R = _; rw [HR3.out, HFF.out (decide_eq_true (.inl h0))]
              clear h0
              go_wp2_with fail
              go_quiet (fail)
              go_wp2_with fail
              go_ret3
              rw [HP.out]
              exact ⟨.inr ⟨one_ne, rfl⟩, below_drewN HJ.out.1 _⟩
            · rw [decide_eq_false (by omega)] at hz
              by_cases hq : (most : Int) < (y.n : Int)
              · have HP : Hid (R = ([], y.ps, 1)) := by show R = _; rw [HR3.out, HFF.out (decide_eq_true (.inr hq))]
                have hq2 : (y.n : Int) > (most : Int) := hq
                clear hq h0
                go_wp2_with fail
                go_quiet (fail)
                go_wp2_with fail
                go_ret3
                rw [HP.out]
                exact ⟨.inr ⟨one_ne, rfl⟩, below_drewN HJ.out.1 _⟩
              · have hq2 : ¬ (y.n : Int) > (most : Int) := hq
                have HQ : Hid (decide (y.n = 0 ∨ (most : Int) < (y.n : Int)) = false) := decide_eq_false (fun h => h.elim h0 hq)
                have hxd : 0 ≤ (x.n : Int) ∧ (x.n : Int) < (data : Int) := by have := HXD.out; omega
                have hg2 := HJ.out.2.2.1
                have cg : wr.cell? ⟨G, x.n, none⟩ = some (.int .i64 ((fillL (a.take k) (b.take k) (List.replicate data 0)).getD x.n 0)) := (hg2.cell x.n).trans (by rw [List.getElem?_map, List.getElem?_eq_getElem (by rw [fillL_len, List.length_replicate]; exact HXD.out), List.getD_eq_getElem?_getD, List.getElem?_eq_getElem (by rw [fillL_len, List.length_replicate]; exact HXD.out)]; rfl)
                have fg := hg2.free x.n
                have HG2 := hideIt hg2
                generalize (fillL (a.take k) (b.take k) (List.replicate data 0)).getD x.n 0 = old at cg
                clear hq h0 hg2
                go_wp2_with fail
                go_roundg (gk - 1)
                case measure => omega
                case rel =>
                  refine ⟨k + 1, by omega, by go_num, below_set HJ.out.1 (by have := HG0.out; omega) _ _, HJ.out.2.1.store_other (by have := HG0.out; omega), ?_, ?_⟩
                  · have := HG2.out.store x.n (.int .i64 (y.n : Int))
                    rw [HTA.out, HTB.out, fillL_snoc _ _ _ _ _ HLK.out, List.map_set]
                    exact this
                  · rw [HTB.out]
                    intro z hz
                    rcases List.mem_append.1 hz with h | h
                    · exact HJ.out.2.2.2 z h
                    · rw [List.mem_singleton] at h; rw [h]; exact HQ.out
          · obtain rfl : k = m := by omega
            have hji : ¬ (k : Int) < (k : Int) := by omega
            have HP : Hid (R = (fillL a b (List.replicate data 0), 0, 0)) := by
              show R = _
              rw [HR3.out, List.find?_eq_none.2 (fun y hy => by rw [HJ.out.2.2.2 y (by rw [List.take_of_length_le (by rw [← HM0.out]; exact Nat.le_refl _)]; exact hy)]; simp)]
            go_wp2_with fail
            go_ret3
            rw [HP.out]
            have hln : (fillL a b (List.replicate data 0)).length = data := by rw [fillL_len, List.length_replicate]
            refine ⟨.inl ⟨rfl, some ⟨G, 0, none⟩, data, by rw [hln]; rfl, ?_⟩, HJ.out.1⟩
            unfold IR
            have hg0 := HJ.out.2.2.1
            rw [List.take_of_length_le (by rw [← HN0.out]; exact Nat.le_refl _), List.take_of_length_le (by rw [← HM0.out]; exact Nat.le_refl _)] at hg0
            rw [hln]
            exact blk_own hg0 (by have := HG0.out; omega) (by rw [List.length_map, hln]) (by unfold maxLen; omega)
      · rw [decide_eq_true (by omega)] at hne
        have HP : Hid (R = ([], p, 1)) := HR2.out.trans (if_pos (fun h => hmn h.symm))
        clear hmn
        go_wp2_with fail
        go_quiet (fail)
        go_wp2_with fail
        go_ret3
        rw [HP.out]
        exact ⟨.inr ⟨one_ne, rfl⟩, below_drewN HI.out.2.2.2.1 _⟩

end Go.Proofs.YtcogkdnlpjfgdaaGreatDoor
