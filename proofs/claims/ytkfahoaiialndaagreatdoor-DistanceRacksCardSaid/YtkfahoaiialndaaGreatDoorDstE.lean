/-
  The library's AppendSeq, Collect and Sorted over Values at integers; the names of the racks, sorted, each once.
-/
import Derived.Test.YtkfahoaiialndaaGreatDoorDstT
namespace Go.Proofs.YtkfahoaiialndaaGreatDoor
open Go.RowKit Go.Shelf
set_option linter.unusedVariables false
set_option linter.unusedSimpArgs false
attribute [local go_sem] Oper.semAt_some

/-- What a row of the call's own keeps where a loop's record turns. -/
theorem own_stays {l : Nat} {W W' : World} {base : Nat} {e : TypeId} {size n : Nat} {v : Value} {xs : List Value} (h : W.ownsRow base e size v n xs) (hk : Stays l W W') (hl : l < base) : W'.ownsRow base e size v n xs := by
  refine ⟨h.1, h.2.imp id ?_⟩
  rintro ⟨g, cap, cur, q1, q2, q3, q4⟩
  exact ⟨g, cap, cur, q1, q2, (hk.block g (Array.getElem?_eq_some_iff.1 q3).1 (by omega)).trans q3, q4⟩
theorem blk_stays {l : Nat} {W W' : World} {g : Nat} {t : TypeId} {cs : List Value} (h : Blk W g t cs) (hk : Stays l W W') (hl : g ≠ l) : Blk W' g t cs := (hk.block g h.lt hl).trans h
theorem below_stays {l B : Nat} {w W W' : World} (h : Below B w W) (hk : Stays l W W') (hl : B ≤ l) (hB : B ≤ W.heap.size) : Below B w W' :=
  ⟨hk.os.trans h.os, hk.tape.trans h.tape, hk.output.trans h.output, Nat.le_trans h.size hk.size, fun i hi => (hk.block i (by omega) (by omega)).trans (h.block i hi)⟩
theorem own_putD {W : World} {base base' D : Nat} {e : TypeId} {size n : Nat} {v : Value} {xs : List Value} {x : Option (List Deferred)} (h : W.ownsRow base e size v n xs) (hD : W.heap[D]? = some (.deferred x)) (hb : base' ≤ base) (o : Obj) : (W.putObj D o).ownsRow base' e size v n xs := by
  refine ⟨h.1, h.2.imp id ?_⟩
  rintro ⟨g, cap, cur, q1, q2, q3, q4⟩
  refine ⟨g, cap, cur, q1, Nat.le_trans hb q2, (World.putObj_heap_other (fun e => ?_)).trans q3, q4⟩
  subst e
  rw [hD] at q3
  cases q3
/-- Between two rounds of AppendSeq. -/
def ApI (w : World) (pre : List Int) (W : World) : Prop :=
  ∃ v, Blk W w.heap.size 26 [v] ∧ W.ownsRow (w.heap.size + 3) 3 1 v pre.length (pre.map iv) ∧ Below w.heap.size w W ∧ w.heap.size + 3 ≤ W.heap.size
set_option maxHeartbeats 1000000 in
set_option maxRecDepth 100000 in
theorem apseq_any (zs : List Int) (hz : zs.length ≤ 1000) (Bs b o c : Nat) (w : World) (hBl : Bs < w.heap.size) (hbl : b < w.heap.size) (hBs : w.cell? ⟨Bs, 0, none⟩ = some (.slice (some ⟨b, o, none⟩) zs.length c))
    (hc : ∀ j (h : j < zs.length), w.cell? ⟨b, o + j, none⟩ = some (.int .i64 zs[j])) :
    Calls Tryz.prog 97 #[.slice none 0 0, .func (.func 76) #[] #[.pointer (some ⟨Bs, 0, none⟩)]] w fun e w' => ∃ v, e = .returned v ∧ w'.ownsRow w.heap.size 3 1 v zs.length (zs.map iv) ∧ Below w.heap.size w w' := by
  obtain ⟨w1, hw1⟩ : ∃ W, W = w.alloc (.cells #[.slice none 0 0] 26) := ⟨_, rfl⟩
  have hs1 : w1.heap.size = w.heap.size + 1 := by rw [hw1]; simp
  have hb1 : Below w.heap.size w w1 := by rw [hw1]; exact below_new w _
  have HBX := hideIt (show Blk w1 w.heap.size 26 [.slice none 0 0] by rw [hw1]; exact Blk.new w _ _)
  have HIT := hideIt (values_iter zs hz Bs b o c w1 (by rw [hb1.cell (p := ⟨Bs, 0, none⟩) hBl]; exact hBs) (fun j h => by rw [hb1.cell (p := ⟨b, o + j, none⟩) hbl]; exact hc j h))
  have HB1 := hideIt hb1
  have HS1 := hideIt hs1
  have HL := hideIt (And.intro hBl hbl)
  have HW1 := hideIt hw1
  clear hBs hc hb1 hs1 hBl hbl hw1
  refine callsIn_wide.1 (callsIn_of_wp_marks (n := 0) Tryz.func97 rfl trivial ((wpIn_wide (n := 0)).2 ?_))
  simp only [Tryz.ntmps97, List.size_toArray, List.length_cons, List.length_nil, Nat.reduceAdd, Nat.reduceSub, Array.replicate_succ, Array.replicate_zero, List.push_toArray, List.append_toArray, List.nil_append, List.cons_append]
  go_wp2_with fail
  rw [← HW1.out]
  refine range_rd (gf := 76) (lb := #[.pointer (some ⟨Bs, 0, none⟩)]) rfl (enters_of Tryz.func76 (by kernel_rfl) rfl) HIT.out
    (fun q hq => ⟨by have := HL.out; have := HS1.out; rcases hq with rfl | rfl <;> omega, rfl⟩) (fun _ => rfl) (fun k => k = w.heap.size ∨ w.heap.size + 3 ≤ k)
    (fun k hk => by have := HL.out; have := HS1.out; refine ⟨by omega, by omega, ?_⟩; omega)
    (ApI w) (fun _ _ _ => False) ?hI (fun _ _ _ _ _ h _ _ => h) ?h0 ?a1 ?assign ?body ?done ?stop
  case hI =>
    rintro s W W' r ⟨v, h1, h2, h3, h4⟩ _ hk
    rw [HS1.out] at hk
    exact ⟨v, blk_stays h1 hk (by omega), own_stays h2 hk (by omega), below_stays h3 hk (by omega) (by omega), Nat.le_trans h4 hk.size⟩
  case h0 =>
    intro W hb hs
    have := HS1.out
    exact ⟨_, HBX.out.kept hb (by omega), World.ownsRow_nil _ _ _ _, HB1.out.trans (hb.mono (by omega)), by omega⟩
  case assign =>
    intro l' x W K hK
    have HK2 := hideIt hK
    clear hK
    gi_wp2
    exact HK2.out
  case body =>
    rintro l' pre x W hpre hKW ⟨v, h1, h2, h3, h4⟩
    have hlen : pre.length + 1 ≤ zs.length := by have := hpre.length_le; simpa using this
    have hcell : W.cell? ⟨w.heap.size, 0, none⟩ = some v := h1.cell 0
    have H1 := hideIt h1
    have H2 := hideIt h2
    have H3 := hideIt h3
    have H4 := hideIt h4
    clear hpre hKW h1 h2 h3 h4
    refine wpIn_block (region_in (by kernel_rfl) (fun hh => by obtain ⟨_, _, hh⟩ := hh; exact hh) ?_)
    go_wp2_with ((with_reducible refine at_append ?_); refine wpList_apI (y := x) (n := pre.length) (us := pre) rfl (.tmp 8) (.tmp 10) rfl rfl H2.out rfl (by omega) H4.out ?_; intro v6 w6 HO6 HG6 HA6 HB6; obtain ⟨A6, c6, rfl, _, _⟩ := own_form HO6.out; have HX6 := hideIt (show Blk w6 w.heap.size 26 [v] from (HG6.out.block _ (by simp; have := H1.out.lt; omega) (fun e => by have := (H2.out.lt _ e.symm).1; omega)).trans (H1.out.alloc _)); have hc6 : w6.cell? ⟨w.heap.size, 0, none⟩ = some v := HX6.out.cell 0; have hf6 := HX6.out.free 0)
    refine ⟨?_, ?_⟩
    · refine Keeps.setCell ?_ (Or.inl rfl) _
      refine ⟨HG6.out.os, HG6.out.tape, HG6.out.output, Nat.le_trans (by simp) HG6.out.size, fun k hk hn => ?_⟩
      refine (HG6.out.block k (by simp; omega) (fun e => ?_)).trans (Below.heap_alloc _ _ _ hk)
      have := (H2.out.lt _ e.symm).1
      exact hn (Or.inr this)
    · have hs := H4.out
      refine ⟨_, HX6.out.store 0 _, ?_, (H3.out.trans (HB6.out.mono (Nat.le_add_right _ 3))).setCell (p := ⟨w.heap.size, 0, none⟩) (Nat.le_refl _) _, ?_⟩
      · rw [List.length_append]
        exact own_set HO6.out HX6.out (by decide) 0 _
      · have := HB6.out.size
        simp [World.setCell]
        omega
  case done =>
    rintro D W hD hKW ⟨v, h1, h2, h3, h4⟩ hDf
    have hcell : W.cell? ⟨w.heap.size, 0, none⟩ = some v := h1.cell 0
    have H2 := hideIt h2
    have H3 := hideIt h3
    have HDF := hideIt hDf
    have HD := hideIt (show w.heap.size + 1 ≤ D by rw [← HS1.out]; exact hD)
    clear h1 h2 h3 h4 hDf hKW hD
    go_wp2_with fail
    refine ⟨by simp, .inl ⟨_, _, rfl, run_takeDeferred HDF.out, ?_⟩⟩
    exact ⟨_, results_tmp rfl _ _ _, v, rfl, own_putD H2.out HDF.out (Nat.le_add_right _ 3) _, H3.out.trans (below_putObj W (by have := HD.out; omega) _)⟩
  case stop =>
    intro D c' pre W _ _ _ h _
    exact h.elim
theorem collect_any (zs : List Int) (hz : zs.length ≤ 1000) (Bs b o c : Nat) (w : World) (hBl : Bs < w.heap.size) (hbl : b < w.heap.size) (hBs : w.cell? ⟨Bs, 0, none⟩ = some (.slice (some ⟨b, o, none⟩) zs.length c))
    (hc : ∀ j (h : j < zs.length), w.cell? ⟨b, o + j, none⟩ = some (.int .i64 zs[j])) :
    Calls Tryz.prog 74 #[.func (.func 76) #[] #[.pointer (some ⟨Bs, 0, none⟩)]] w fun e w' => ∃ v, e = .returned v ∧ w'.ownsRow w.heap.size 3 1 v zs.length (zs.map iv) ∧ Below w.heap.size w w' := by
  have HA := hideIt (apseq_any zs hz Bs b o c w hBl hbl hBs hc)
  clear hBl hbl hBs hc
  go_enter Tryz.func74, Tryz.ntmps74
  go_wp2_with (go_at_call 97; refine HA.out.mono ?_; rintro e w1 ⟨v, rfl, ho, hb⟩; have HO := hideIt ho; have HB := hideIt hb; clear ho hb)
  go_ret
  exact ⟨v, rfl, HO.out, HB.out⟩
/-- The names, sorted. -/
abbrev srt (zs : List Int) : List Int := zs.mergeSort fun x y => decide (x ≤ y)
theorem sorted_any (zs : List Int) (h0 : 0 < zs.length) (hz : zs.length ≤ 1000) (Bs b o c : Nat) (w : World) (hBl : Bs < w.heap.size) (hbl : b < w.heap.size) (hBs : w.cell? ⟨Bs, 0, none⟩ = some (.slice (some ⟨b, o, none⟩) zs.length c))
    (hc : ∀ j (h : j < zs.length), w.cell? ⟨b, o + j, none⟩ = some (.int .i64 zs[j])) :
    Calls Tryz.prog 50 #[.func (.func 76) #[] #[.pointer (some ⟨Bs, 0, none⟩)]] w fun e w' => ∃ g cap cur, e = .returned (.slice (some ⟨g, 0, none⟩) zs.length cap) ∧ w.heap.size ≤ g ∧ w'.heap[g]? = some (.cells cur 3 (0, 0)) ∧ zs.length ≤ cap ∧ cap ≤ maxLen ∧ cur.size = cap * 1 ∧ cur.toList.take zs.length = (srt zs).map iv ∧ Below w.heap.size w w' := by
  have HA := hideIt (collect_any zs hz Bs b o c w hBl hbl hBs hc)
  clear hBl hbl hBs hc
  go_enter Tryz.func50, Tryz.ntmps50
  go_wp2_with (go_at_call 74; refine HA.out.mono ?_; rintro e w1 ⟨v, rfl, ho, hb⟩; obtain ⟨_, ⟨_, h9⟩ | ⟨g, cap, cur, rfl, h1, h2, h3, h4, h5, h6⟩⟩ := ho; exact absurd h9 (by omega); have HB := hideIt hb; clear hb)
  have HS := hideIt (show Calls Tryz.prog 75 #[.slice (some ⟨g, 0, none⟩) zs.length cap] w1 _ from AnyM.slices_Sort_int layS g 0 cap zs w1 (holds_of_block_i h2 (by rw [Nat.mul_one] at h6; exact h6)) (Array.getElem?_eq_some_iff.1 h2).1 (by omega))
  have HR := hideIt (fun n os => ownsRow_sorted_i (w := w1) (n := n) (os := os) (ss := zs) (ts := srt zs) (List.length_mergeSort zs) h1 h2 h3 h4 h5)
  have H1 := hideIt h1
  clear h1 h2 h3 h4 h5 h6
  go_wp2_with (go_at_call 75; refine HS.out.mono ?_; rintro e w2 ⟨rfl, n, os, hw2⟩)
  go_ret
  obtain ⟨_, ⟨h9, _⟩ | ⟨g', cap', cur', h9, q1, q2, q3, q4, q5, q6⟩⟩ := HR.out n os
  · cases h9
  · injection h9 with e1 e2 e3
    injection e1 with e1
    injection e1 with e1 _ _
    subst e1 e3
    rw [Nat.mul_one] at q6
    subst hw2
    exact ⟨g, cap, cur', rfl, q1, q2, q3, q4, q5, q6, HB.out.grown (grownBy_sorted_i _) HB.out.size (fun j hj => by cases hj; exact H1.out)⟩
/-- The names, sorted, each once. -/
abbrev nmS (zs : List Int) : List Int := Lib.compact (srt zs)
theorem compact_up (d : Array Int) (hs : ∀ i j, i ≤ j → j < d.size → d[i]! ≤ d[j]!) : ∀ m, m ≤ d.size → (Lib.compactUpTo d m).Pairwise (· < ·) ∧ ∀ r, r ∈ Lib.compactUpTo d m ↔ ∃ j, j < m ∧ d[j]! = r
  | 0, _ => ⟨List.Pairwise.nil, fun r => ⟨fun h => (by cases h), fun ⟨j, h, _⟩ => absurd h (Nat.not_lt_zero j)⟩⟩
  | m + 1, hm => by
    obtain ⟨h1, h2⟩ := compact_up d hs m (by omega)
    rw [Lib.compactUpTo_succ]
    have hor : ∀ r, (∃ j, j < m + 1 ∧ d[j]! = r) ↔ (∃ j, j < m ∧ d[j]! = r) ∨ d[m]! = r := fun r => by
      constructor
      · rintro ⟨j, hj, h⟩
        by_cases e : j = m
        · exact .inr (e ▸ h)
        · exact .inl ⟨j, by omega, h⟩
      · rintro (⟨j, hj, h⟩ | h)
        · exact ⟨j, by omega, h⟩
        · exact ⟨m, by omega, h⟩
    by_cases hk : Lib.keeps d m = true
    · rw [if_pos hk]
      refine ⟨List.pairwise_append.2 ⟨h1, List.pairwise_singleton _ _, fun a ha b hb => ?_⟩, fun r => ?_⟩
      · rw [List.mem_singleton] at hb
        subst hb
        obtain ⟨j, hj, rfl⟩ := (h2 a).1 ha
        have a1 := hs j (m - 1) (by omega) (by omega)
        have a2 := hs (m - 1) m (by omega) (by omega)
        have a3 : d[m]! ≠ d[m - 1]! := fun e => by rw [Lib.keeps_neg (by omega) e] at hk; cases hk
        omega
      · rw [List.mem_append, List.mem_singleton, h2, hor]
        exact ⟨fun q => q.imp id Eq.symm, fun q => q.imp id Eq.symm⟩
    · rw [if_neg hk, List.append_nil]
      refine ⟨h1, fun r => ?_⟩
      rw [h2, hor]
      refine ⟨Or.inl, fun q => q.elim id fun e => ?_⟩
      have hm0 : 0 < m := Nat.pos_of_ne_zero fun e => hk (by subst e; exact Lib.keeps_lt_one d 0 (by decide))
      have e2 : d[m]! = d[m - 1]! := Classical.byContradiction fun q => hk (Lib.keeps_pos q)
      exact ⟨m - 1, by omega, by rw [← e2]; exact e⟩
theorem nmS_facts (zs : List Int) : (nmS zs).Nodup ∧ (∀ r, r ∈ nmS zs ↔ r ∈ zs) ∧ (nmS zs).length ≤ zs.length := by
  have hl : (srt zs).length = zs.length := List.length_mergeSort zs
  have hp : (srt zs).Pairwise fun x y => decide (x ≤ y) = true := List.pairwise_mergeSort (fun a b c h1 h2 => by simp only [decide_eq_true_eq] at *; omega) (fun a b => by simp only [Bool.or_eq_true, decide_eq_true_eq]; omega) zs
  have hg : ∀ j (h : j < (srt zs).length), (srt zs).toArray[j]! = (srt zs)[j] := fun j h => by
    rw [getElem!_pos _ j (by simpa using h)]; rfl
  obtain ⟨h1, h2⟩ := compact_up (srt zs).toArray (fun i j hij hj => by
    have hj' : j < (srt zs).length := by simpa using hj
    rw [hg i (by omega), hg j hj']
    rcases Nat.lt_or_ge i j with h | h
    · exact of_decide_eq_true (List.pairwise_iff_getElem.1 hp i j (by omega) hj' h)
    · obtain rfl : i = j := by omega
      exact Int.le_refl _) (srt zs).length (by simp)
  have hnd : (nmS zs).Nodup := h1.imp fun h => Int.ne_of_lt h
  suffices hm : ∀ r, r ∈ nmS zs ↔ r ∈ zs from ⟨hnd, hm, nodup_len hnd fun r hr => (hm r).1 hr⟩
  intro r
  show r ∈ Lib.compactUpTo _ _ ↔ _
  rw [h2, ← List.mem_mergeSort (le := fun x y : Int => decide (x ≤ y)) (l := zs)]
  constructor
  · rintro ⟨j, hj, rfl⟩
    rw [hg j hj]; exact List.getElem_mem hj
  · intro h
    obtain ⟨j, hj, e⟩ := List.getElem_of_mem h
    exact ⟨j, hj, by rw [hg j hj, e]⟩
end Go.Proofs.YtkfahoaiialndaaGreatDoor
