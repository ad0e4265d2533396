/-
  The hash inputs of a proof, walked to the end: the reference's Inputs; its Verify.
-/
import Derived.Test.YtkjnimcapjjfdaaDoorInp
namespace Go.Proofs.YtkjnimcapjjfdaaDoor
open Go.RowKit
set_option linter.unusedVariables false

theorem wpAnyL_pass {P : Program} {md : Region.Mode} {ops : Array Oper} {Q : Exit → Act → World → Prop} {L : List (Nat × (World → Prop))} (i : Nat) {oi : Oper} {fuel : Nat} {listed : Array Bool} {a : Act} {w : World} (hi : ops[i]? = some oi)
    (hs : Region.noSelect ops = true) (hf : Region.free md ops listed i = true) (hr : (Region.ready md ops listed).contains i = true) (hno : freeB L i = true)
    (hQ : ∀ c a w, Q (.panic c) (a.put oi.dst undef) w → Q (.panic c) a w) (hw : Region.wanted oi (yielded ops a.tmps) = false) (hS : Hooks L listed w)
    (h : wpAnyL P md ops Q L fuel (listed.setIfInBounds i true) (a.put oi.dst undef) w) : wpAnyL P md ops Q L (fuel + 1) listed a w :=
  wpAnyL_freely hi (Region.noSelect_spec hs) hQ (freeB_spec hno) fuel listed a w (Region.free_spec hi hf) (by simpa using hr) (.inr ⟨hw, rfl⟩) hS h

theorem inputs_any (leaf : List UInt8) (hl : leaf.length = 16) (A : Option Addr) (B c : Nat) (ds : List (List UInt8)) : ∀ (p n i : Nat) (w : World), n ≤ 9223372036854775807 → i < n → p ≤ ds.length → p ≤ c → p ≤ 1000000000 → Ds w B A ds.length ds → B ≤ w.heap.size → Tab w 0 →
    Calls Tryd.prog 28 #[.int .i64 (n : Int), .int .i64 (i : Int), dv leaf, .slice A p c] w fun e w' => ∃ v, e = .returned (.tuple #[v, .bool (decide ((dirsN n i).length = p))]) ∧ (decide ((dirsN n i).length = p) = true → Msgs w' w.heap.size v (insK (dirsN n i) ds leaf p)) ∧ Below w.heap.size w w' := by
  intro p
  induction p with
  | zero =>
    intro n i w hn hi hpd hpc hp9 hD hB hT
    by_cases h2 : 2 ≤ n
    · have := dirs_pos n i h2
      rw [decide_eq_false (by omega)]
      refine (ins_short leaf A n i c w hn h2 hi).mono ?_
      rintro e w' ⟨v, rfl, hb⟩
      exact ⟨v, rfl, fun h => (by cases h), hb⟩
    · obtain rfl : n = 1 := by omega
      obtain rfl : i = 0 := by omega
      rw [dirs_one 1 0 h2]
      refine (ins_one leaf hl A 0 c w hT (by omega)).mono ?_
      rintro e w' ⟨v, rfl, hm, hb⟩
      exact ⟨v, rfl, fun _ => hm, hb⟩
  | succ p ih =>
    intro n i w hn hi hpd hpc hp9 hD hB hT
    by_cases h2 : 2 ≤ n
    · have hs := splitK_spec n h2
      have h16 : ∀ k, k < p → (ds.getD k []).length = 16 := fun k hk => by
        rw [List.getD_eq_getElem?_getD, List.getElem?_eq_getElem (by omega)]; exact hD.2.1 _ (List.getElem_mem _)
      by_cases hk : i < splitK n
      · obtain ⟨m, hm1, hm2⟩ := insK_last (dirsN (splitK n) i) ds leaf p
        have hm3 := insK_le (dirsN (splitK n) i) ds leaf hl p h16 m (List.mem_of_getElem? hm1)
        have hdl : (dirsN n i).length = (dirsN (splitK n) i).length + 1 := by rw [dirs_left n i h2 hk, List.length_append]; rfl
        have hdd : decide ((dirsN n i).length = p + 1) = decide ((dirsN (splitK n) i).length = p) := by rw [decide_eq_decide, hdl]; omega
        rw [hdd]
        refine (ins_left leaf hl A B n i p c ds w hn h2 hk hp9 hD hpd hpc hB hT (insK (dirsN (splitK n) i) ds leaf p) m _ p (insK_len _ _ _ _) hm1 hm2 hm3 (by omega) (decide ((dirsN (splitK n) i).length = p))
          (fun W hW => ih (splitK n) i W (by omega) hk (by omega) (by omega) (by omega) (hD.below hW hB) (Nat.le_trans hB hW.size) (hT.keep hW))).mono ?_
        rintro e w' ⟨v, rfl, hm, hb⟩
        refine ⟨v, rfl, fun h => ?_, hb⟩
        rw [dirs_left n i h2 hk, insK_snoc _ _ _ _ p (of_decide_eq_true h)]
        exact hm h
      · obtain ⟨m, hm1, hm2⟩ := insK_last (dirsN (n - splitK n) (i - splitK n)) ds leaf p
        have hm3 := insK_le (dirsN (n - splitK n) (i - splitK n)) ds leaf hl p h16 m (List.mem_of_getElem? hm1)
        have hdl : (dirsN n i).length = (dirsN (n - splitK n) (i - splitK n)).length + 1 := by rw [dirs_right n i h2 hk, List.length_append]; rfl
        have hdd : decide ((dirsN n i).length = p + 1) = decide ((dirsN (n - splitK n) (i - splitK n)).length = p) := by rw [decide_eq_decide, hdl]; omega
        rw [hdd]
        refine (ins_right leaf hl A B n i p c ds w hn h2 hk hi hp9 hD hpd hpc hB hT (insK (dirsN (n - splitK n) (i - splitK n)) ds leaf p) m _ p (insK_len _ _ _ _) hm1 hm2 hm3 (by omega) (decide ((dirsN (n - splitK n) (i - splitK n)).length = p))
          (fun W hW => by
            have h9 := ih (n - splitK n) (i - splitK n) W (by omega) (by omega) (by omega) (by omega) (by omega) (hD.below hW hB) (Nat.le_trans hB hW.size) (hT.keep hW)
            rw [show ((n - splitK n : Nat) : Int) = (n : Int) - (splitK n : Int) by omega, show ((i - splitK n : Nat) : Int) = (i : Int) - (splitK n : Int) by omega] at h9
            exact h9)).mono ?_
        rintro e w' ⟨v, rfl, hm, hb⟩
        refine ⟨v, rfl, fun h => ?_, hb⟩
        rw [dirs_right n i h2 hk, insK_snoc _ _ _ _ p (of_decide_eq_true h)]
        exact hm h
    · obtain rfl : n = 1 := by omega
      obtain rfl : i = 0 := by omega
      rw [dirs_one 1 0 h2]
      refine (ins_one leaf hl A (p + 1) c w hT (by omega)).mono ?_
      rintro e w' ⟨v, rfl, hm, hb⟩
      exact ⟨v, rfl, fun h => (by simp at h), hb⟩

/-- Whether a proof fits: the index, the number of elements. -/
def fitB (n i : Int) (ds : List (List UInt8)) : Bool := decide (0 ≤ i ∧ i < n ∧ (dirsN n.toNat i.toNat).length = ds.length)
theorem inputs_all (leaf : List UInt8) (hl : leaf.length = 16) (A : Option Addr) (c : Nat) (ds : List (List UInt8)) (n i : Int) (w : World) (hn : n ≤ 9223372036854775807) (hpc : ds.length ≤ c) (hp9 : ds.length ≤ 1000000000) (hD : Ds w w.heap.size A ds.length ds) (hT : Tab w 0) :
    Calls Tryd.prog 28 #[.int .i64 n, .int .i64 i, dv leaf, .slice A ds.length c] w fun e w' => ∃ v, e = .returned (.tuple #[v, .bool (fitB n i ds)]) ∧ (fitB n i ds = true → Msgs w' w.heap.size v (insK (dirsN n.toNat i.toNat) ds leaf ds.length)) ∧ Below w.heap.size w w' := by
  unfold fitB
  by_cases h : 0 ≤ i ∧ i < n
  · have h9 := inputs_any leaf hl A w.heap.size c ds ds.length n.toNat i.toNat w (by omega) (by omega) (Nat.le_refl _) hpc hp9 hD (Nat.le_refl _) hT
    rw [show ((n.toNat : Nat) : Int) = n by omega, show ((i.toNat : Nat) : Int) = i by omega] at h9
    have hd : decide (0 ≤ i ∧ i < n ∧ (dirsN n.toNat i.toNat).length = ds.length) = decide ((dirsN n.toNat i.toNat).length = ds.length) := by rw [decide_eq_decide]; exact ⟨fun h => h.2.2, fun h' => ⟨h.1, h.2, h'⟩⟩
    rw [hd]
    exact h9
  · rw [decide_eq_false (fun h' => h ⟨h'.1, h'.2.1⟩)]
    refine (ins_out leaf A n i ds.length c w (by omega)).mono ?_
    rintro e w' ⟨v, rfl, hb⟩
    exact ⟨v, rfl, fun h => (by cases h), hb⟩

set_option maxHeartbeats 1600000 in
set_option maxRecDepth 100000 in
theorem rver_of (root leaf : List UInt8) (hr : root.length = 16) (hl : leaf.length = 16) (n i : Int) (A : Option Addr) (p c : Nat) (w : World) (hT : Tab w 0)
    (ms : List (List UInt8)) (m r : List UInt8) (q : Nat) (hms : ms.length = q + 1) (hlast : ms[q]? = some m) (hrm : cutD m = r) (hm : m.length ≤ 100) (hq : q ≤ 1000000000) (ok : Bool)
    (hrec : ∀ W, Below w.heap.size w W → Calls Tryd.prog 28 #[.int .i64 n, .int .i64 i, dv leaf, .slice A p c] W fun e w' => ∃ v, e = .returned (.tuple #[v, .bool ok]) ∧ (ok = true → Msgs w' W.heap.size v ms) ∧ Below W.heap.size W w') :
    Calls Tryd.prog 23 #[dv root, .int .i64 n, .int .i64 i, dv leaf, .slice A p c] w fun e w' => e = .returned (.bool (ok && decide (r = root))) ∧ Below w.heap.size w w' := by
  have HR := hideIt hr
  have HL := hideIt hl
  have HT := hideIt hT
  have HREC := hideIt hrec
  have hrl : r.length = 16 := by rw [← hrm]; exact cutD_len _
  have HSH := hideIt (fun (W : World) {base : Nat} {v : Value} (h : W.ownsRow base 5 1 v m.length (m.map bv)) (h2 : Tab W 0) => short_own h (by omega) h2)
  rw [hrm] at HSH
  have heq := equal_digest r root hrl hr
  obtain ⟨t, ht⟩ : ∃ t, t = decide (r = root) := ⟨_, rfl⟩
  rw [← ht] at heq ⊢
  have HRL := hideIt hrl
  have HMS := hideIt hms
  have HLA := hideIt hlast
  have hz1 : (w.alloc (.cells (root.map bv).toArray 30)).heap.size = w.heap.size + 1 := by simp
  have HB0 := hideIt ((below_new w (.cells (root.map bv).toArray 30)).alloc (by rw [hz1]; omega) (.cells (leaf.map bv).toArray 30))
  have HK0 := hideIt ((Blk.new w 30 (root.map bv)).alloc (.cells (leaf.map bv).toArray 30))
  have HK1 : Hid (Blk ((w.alloc (.cells (root.map bv).toArray 30)).alloc (.cells (leaf.map bv).toArray 30)) (w.heap.size + 1) 30 (leaf.map bv)) := hz1 ▸ Blk.new (w.alloc (.cells (root.map bv).toArray 30)) 30 (leaf.map bv)
  clear hr hl hT hrec hrl hrm hms hlast hz1 ht
  cases ok with
  | false =>
    go_enter Tryd.func23, Tryd.ntmps23
    go_wp2_with (first
      | ((with_reducible refine at_load ?_); refine wpList_get rfl 30 (.tmp 8) rfl (w.heap.size + 1) (leaf.map bv) 30 (.array 16 5) rfl HK1.out (by kernel_rfl) rfl (isize16 _ HL.out) ?_)
      | (go_at_call 28; refine (HREC.out _ HB0.out).mono ?_; rintro e w1 ⟨v, rfl, _, hb⟩; have HB1 := hideIt (HB0.out.trans (hb.mono HB0.out.size)); clear hb))
    refine loads_begin_n 13 [] rfl (by kernel_rfl) ?_
    refine wpAnyL_move (oi := ⟨some 21, _, _, _, _, _⟩) 0 ?_ rfl (by kernel_rfl) (by kernel_rfl) (by kernel_rfl) (by kernel_rfl) (fun _ _ _ h => h) (by kernel_rfl) ?_ (Hooks.nil _ _) ?_
    rotate_left
    · intro W'; go_simp; first | done | with_reducible rfl
    try simp only [Act.put]
    try simp only [List.setIfInBounds_toArray]
    try simp only [List.set_cons_succ]
    try simp only [List.set_cons_zero]
    refine wpAnyL_move (oi := ⟨some 22, _, _, _, _, _⟩) 1 ?_ rfl (by kernel_rfl) (by kernel_rfl) (by kernel_rfl) (by kernel_rfl) (fun _ _ _ h => h) (by kernel_rfl) ?_ (Hooks.nil _ _) ?_
    rotate_left
    · intro W'; go_simp; first | done | with_reducible rfl
    try simp only [Act.put]
    try simp only [List.setIfInBounds_toArray]
    try simp only [List.set_cons_succ]
    try simp only [List.set_cons_zero]
    refine wpAnyL_pass (oi := ⟨some 23, _, _, _, _, _⟩) 2 rfl (by kernel_rfl) (by kernel_rfl) (by kernel_rfl) (by kernel_rfl) (fun _ _ _ h => h) (by kernel_rfl) (Hooks.nil _ _) ?_
    try simp only [Act.put]
    try simp only [List.setIfInBounds_toArray]
    try simp only [List.set_cons_succ]
    try simp only [List.set_cons_zero]
    refine wpAnyL_pass (oi := ⟨some 24, _, _, _, _, _⟩) 3 rfl (by kernel_rfl) (by kernel_rfl) (by kernel_rfl) (by kernel_rfl) (fun _ _ _ h => h) (by kernel_rfl) (Hooks.nil _ _) ?_
    try simp only [Act.put]
    try simp only [List.setIfInBounds_toArray]
    try simp only [List.set_cons_succ]
    try simp only [List.set_cons_zero]
    refine wpAnyL_pass (oi := ⟨some 25, _, _, _, _, _⟩) 4 rfl (by kernel_rfl) (by kernel_rfl) (by kernel_rfl) (by kernel_rfl) (fun _ _ _ h => h) (by kernel_rfl) (Hooks.nil _ _) ?_
    try simp only [Act.put]
    try simp only [List.setIfInBounds_toArray]
    try simp only [List.set_cons_succ]
    try simp only [List.set_cons_zero]
    refine wpAnyL_pass (oi := ⟨some 26, _, _, _, _, _⟩) 5 rfl (by kernel_rfl) (by kernel_rfl) (by kernel_rfl) (by kernel_rfl) (fun _ _ _ h => h) (by kernel_rfl) (Hooks.nil _ _) ?_
    try simp only [Act.put]
    try simp only [List.setIfInBounds_toArray]
    try simp only [List.set_cons_succ]
    try simp only [List.set_cons_zero]
    refine wpAnyL_pass (oi := ⟨some 27, _, _, _, _, _⟩) 6 rfl (by kernel_rfl) (by kernel_rfl) (by kernel_rfl) (by kernel_rfl) (fun _ _ _ h => h) (by kernel_rfl) (Hooks.nil _ _) ?_
    try simp only [Act.put]
    try simp only [List.setIfInBounds_toArray]
    try simp only [List.set_cons_succ]
    try simp only [List.set_cons_zero]
    refine wpAnyL_pass (oi := ⟨some 28, _, _, _, _, _⟩) 7 rfl (by kernel_rfl) (by kernel_rfl) (by kernel_rfl) (by kernel_rfl) (fun _ _ _ h => h) (by kernel_rfl) (Hooks.nil _ _) ?_
    try simp only [Act.put]
    try simp only [List.setIfInBounds_toArray]
    try simp only [List.set_cons_succ]
    try simp only [List.set_cons_zero]
    refine wpAnyL_pass (oi := ⟨some 30, _, _, _, _, _⟩) 9 rfl (by kernel_rfl) (by kernel_rfl) (by kernel_rfl) (by kernel_rfl) (fun _ _ _ h => h) (by kernel_rfl) (Hooks.nil _ _) ?_
    try simp only [Act.put]
    try simp only [List.setIfInBounds_toArray]
    try simp only [List.set_cons_succ]
    try simp only [List.set_cons_zero]
    refine wpAnyL_one 8 (by kernel_rfl) rfl (fun K hK => ?_)
    go_wp2_with fail
    refine hK _ _ (Hooks.nil _ _) ?_
    clear hK K
    refine loads_tail 10 (by kernel_rfl) (by kernel_rfl) (by kernel_rfl) (by kernel_rfl) ?_
    simp only [List.drop_succ_cons, List.drop_zero]
    go_wp2_with fail
    go_ret
    exact ⟨rfl, HB1.out.drew⟩
  | true =>
    go_enter Tryd.func23, Tryd.ntmps23
    go_wp2_with (first
      | ((with_reducible refine at_load ?_); refine wpList_get rfl 30 (.tmp 8) rfl (w.heap.size + 1) (leaf.map bv) 30 (.array 16 5) rfl HK1.out (by kernel_rfl) rfl (isize16 _ HL.out) ?_)
      | (go_at_call 28; refine (HREC.out _ HB0.out).mono ?_; rintro e w2 ⟨v1, rfl, hmsg, hb⟩; have HMSG := hideIt (hmsg (by trivial)); have HB2 := hideIt (HB0.out.trans (hb.mono HB0.out.size)); have HR2 := hideIt (HK0.out.kept hb HK0.out.lt); clear hmsg hb; obtain ⟨xs, b1, o1, c1, Au, cu, rfl, hown, hel, hue, hb1, hcu, hc11⟩ := HMSG.out.opened HMS.out HLA.out; have HU := hideIt hue; clear hown hel hue))
    have hq1 : (q : Int) < (q : Int) + 1 := by omega
    have HWR1 : Hid (IntKind.i64.wrap ((q : Int) + 1 - 1) = (q : Int)) := by rw [show (q : Int) + 1 - 1 = (q : Int) by omega]; exact IntWalk.i64_in _ (by omega)
    have HWR2 : Hid (IntKind.i64.wrap (q : Int) = (q : Int)) := IntWalk.i64_in _ (by omega)
    refine loads_begin_n 13 [(8, fun W' => W'.cell? ⟨b1, o1 + q, none⟩ = some (.slice Au m.length cu)), (10, fun W' => Blk W' w.heap.size 30 (root.map bv))] rfl (by kernel_rfl) ?_
    refine wpAnyL_move (oi := ⟨some 21, _, _, _, _, _⟩) 0 ?_ rfl (by kernel_rfl) (by kernel_rfl) (by kernel_rfl) (by kernel_rfl) (fun _ _ _ h => h) (by kernel_rfl) ?_ (Hooks.add hcu (Hooks.add HR2.out (Hooks.nil _ _))) ?_
    rotate_left
    · intro W'; go_simp; first | done | with_reducible rfl
    try simp only [Act.put]
    try simp only [List.setIfInBounds_toArray]
    try simp only [List.set_cons_succ]
    try simp only [List.set_cons_zero]
    refine wpAnyL_move (oi := ⟨some 22, _, _, _, _, _⟩) 1 ?_ rfl (by kernel_rfl) (by kernel_rfl) (by kernel_rfl) (by kernel_rfl) (fun _ _ _ h => h) (by kernel_rfl) ?_ (Hooks.add hcu (Hooks.add HR2.out (Hooks.nil _ _))) ?_
    rotate_left
    · intro W'; go_simp; first | done | with_reducible rfl
    try simp only [Act.put]
    try simp only [List.setIfInBounds_toArray]
    try simp only [List.set_cons_succ]
    try simp only [List.set_cons_zero]
    refine wpAnyL_move (oi := ⟨some 23, _, _, _, _, _⟩) 2 ?_ rfl (by kernel_rfl) (by kernel_rfl) (by kernel_rfl) (by kernel_rfl) (fun _ _ _ h => h) (by kernel_rfl) ?_ (Hooks.add hcu (Hooks.add HR2.out (Hooks.nil _ _))) ?_
    rotate_left
    · intro W'; go_simp; first | done | with_reducible rfl
    try simp only [Act.put]
    try simp only [List.setIfInBounds_toArray]
    try simp only [List.set_cons_succ]
    try simp only [List.set_cons_zero]
    refine wpAnyL_move (oi := ⟨some 24, _, _, _, _, _⟩) 3 ?_ rfl (by kernel_rfl) (by kernel_rfl) (by kernel_rfl) (by kernel_rfl) (fun _ _ _ h => h) (by kernel_rfl) ?_ (Hooks.add hcu (Hooks.add HR2.out (Hooks.nil _ _))) ?_
    rotate_left
    · intro W'; go_simp; first | done | with_reducible rfl
    try simp only [Act.put]
    try simp only [List.setIfInBounds_toArray]
    try simp only [List.set_cons_succ]
    try simp only [List.set_cons_zero]
    refine wpAnyL_move (oi := ⟨some 25, _, _, _, _, _⟩) 4 ?_ rfl (by kernel_rfl) (by kernel_rfl) (by kernel_rfl) (by kernel_rfl) (fun _ _ _ h => h) (by kernel_rfl) ?_ (Hooks.add hcu (Hooks.add HR2.out (Hooks.nil _ _))) ?_
    rotate_left
    · intro W'; go_simp; first | done | with_reducible rfl
    try simp only [Act.put]
    try simp only [List.setIfInBounds_toArray]
    try simp only [List.set_cons_succ]
    try simp only [List.set_cons_zero]
    refine wpAnyL_move (oi := ⟨some 26, _, _, _, _, _⟩) 5 ?_ rfl (by kernel_rfl) (by kernel_rfl) (by kernel_rfl) (by kernel_rfl) (fun _ _ _ h => h) (by kernel_rfl) ?_ (Hooks.add hcu (Hooks.add HR2.out (Hooks.nil _ _))) ?_
    rotate_left
    · intro W'; go_simp; first | done | with_reducible rfl
    try simp only [Act.put]
    try simp only [List.setIfInBounds_toArray]
    try simp only [List.set_cons_succ]
    try simp only [List.set_cons_zero]
    try simp only [HWR1.out]
    try simp only [HWR2.out]
    refine wpAnyL_move (oi := ⟨some 27, _, _, _, _, _⟩) 6 ?_ rfl (by kernel_rfl) (by kernel_rfl) (by kernel_rfl) (by kernel_rfl) (fun _ _ _ h => h) (by kernel_rfl) ?_ (Hooks.add hcu (Hooks.add HR2.out (Hooks.nil _ _))) ?_
    rotate_left
    · intro W'; go_simp; first | done | with_reducible rfl
    try simp only [Act.put]
    try simp only [List.setIfInBounds_toArray]
    try simp only [List.set_cons_succ]
    try simp only [List.set_cons_zero]
    refine wpAnyL_take (oi := ⟨some 28, _, _, _, _, _⟩) 7 8 (.slice Au m.length cu) _ rfl (by kernel_rfl) (by kernel_rfl) (by kernel_rfl) (by kernel_rfl) (by kernel_rfl) (by kernel_rfl) (.head _) (fun _ _ _ h => h) (by kernel_rfl) (fun W' hW' => by (try dsimp only at hW'); go_simp) (Hooks.add hcu (Hooks.add HR2.out (Hooks.nil _ _))) ?_
    try simp only [Act.put]
    try simp only [List.setIfInBounds_toArray]
    try simp only [List.set_cons_succ]
    try simp only [List.set_cons_zero]
    refine wpAnyL_take (oi := ⟨some 30, _, _, _, _, _⟩) 9 10 (.agg (root.map bv).toArray) _ rfl (by kernel_rfl) (by kernel_rfl) (by kernel_rfl) (by kernel_rfl) (by kernel_rfl) (by kernel_rfl) (.tail _ (.head _)) (fun _ _ _ h => h) (by kernel_rfl) (fun W' hW' => exec_load_blk rfl rfl (hW') (.array 16 5) (by kernel_rfl) rfl (isize16 _ HR.out)) (Hooks.add hcu (Hooks.add HR2.out (Hooks.nil _ _))) ?_
    try simp only [Act.put]
    try simp only [List.setIfInBounds_toArray]
    try simp only [List.set_cons_succ]
    try simp only [List.set_cons_zero]
    refine wpAnyL_one 8 (by kernel_rfl) rfl (fun K hK => ?_)
    go_wp2_with (go_at_call 29; refine (HSH.out _ (own_kept HU.out ((Below.refl _ _).drew)) (HT.out.keep HB2.out.drew)).mono ?_; rintro e w3 ⟨rfl, hb⟩; have hb' : Below w2.heap.size w2 w3 := ((Below.refl _ _).drew).trans hb; have HR3 := hideIt (HR2.out.kept hb' HR2.out.lt); have HB3 := hideIt (HB2.out.trans (hb'.mono HB2.out.size)); clear hb hb')
    refine hK _ _ (Hooks.skip (by kernel_rfl) (Hooks.add HR3.out (Hooks.nil _ _))) ?_
    clear hK K
    refine loads_tail 10 (by kernel_rfl) (by kernel_rfl) (by kernel_rfl) (by kernel_rfl) ?_
    simp only [List.drop_succ_cons, List.drop_zero]
    go_wp2_with fail
    go_ret
    exact ⟨by simp, HB3.out⟩

theorem rver_any (root leaf : List UInt8) (hr : root.length = 16) (hl : leaf.length = 16) (n i : Int) (hn : n ≤ 9223372036854775807) (A : Option Addr) (c : Nat) (ds : List (List UInt8)) (w : World) (hD : Ds w w.heap.size A ds.length ds) (hpc : ds.length ≤ c) (hp9 : ds.length ≤ 1000000000) (hT : Tab w 0) :
    Calls Tryd.prog 23 #[dv root, .int .i64 n, .int .i64 i, dv leaf, .slice A ds.length c] w fun e w' => e = .returned (.bool (verB root n i leaf ds)) ∧ Below w.heap.size w w' := by
  have h16 : ∀ k, k < ds.length → (ds.getD k []).length = 16 := fun k hk => by
    rw [List.getD_eq_getElem?_getD, List.getElem?_eq_getElem hk]; exact hD.2.1 _ (List.getElem_mem _)
  obtain ⟨m, hm1, hm2⟩ := insK_last (dirsN n.toNat i.toNat) ds leaf ds.length
  have hm3 := insK_le (dirsN n.toNat i.toNat) ds leaf hl ds.length h16 m (List.mem_of_getElem? hm1)
  have hv : verB root n i leaf ds = (fitB n i ds && decide (rootK (dirsN n.toNat i.toNat) ds leaf ds.length = root)) := by
    unfold verB fitB
    have hbs := dirs_of n.toNat i.toNat (by omega)
    have hsl : (sibs 0 n.toNat i.toNat).length = (dirsN n.toNat i.toNat).length := by rw [← hbs]; unfold befD; rw [List.length_map]
    rw [hbs, hsl, Bool.eq_iff_iff]
    simp only [decide_eq_true_eq, Bool.and_eq_true]
    exact ⟨fun h => ⟨⟨h.1, h.2.1, h.2.2.1⟩, h.2.2.2⟩, fun h => ⟨h.1.1, h.1.2.1, h.1.2.2, h.2⟩⟩
  rw [hv]
  exact rver_of root leaf hr hl n i A ds.length c w hT (insK (dirsN n.toNat i.toNat) ds leaf ds.length) m _ ds.length (insK_len _ _ _ _) hm1 hm2 hm3 hp9 (fitB n i ds)
    (fun W hW => inputs_all leaf hl A c ds n i W hn hpc hp9 ((hD.below hW (Nat.le_refl _)).wide hW.size) (hT.keep hW))

end Go.Proofs.YtkjnimcapjjfdaaDoor
