/-
  A row's cells, walked: parityCells, localCells, cells.
-/
import Derived.Test.YtcogkdnlpjfgdaaGreatDoorCodA
namespace Go.Proofs.YtcogkdnlpjfgdaaGreatDoor
open Go.RowKit
set_option linter.unusedVariables false
set_option linter.unusedSimpArgs false

/-- A row of integers of the call's own. -/
def IR (w : World) (C : Nat) (v : Value) (l : List Int) : Prop := w.ownsRow C 3 1 v l.length (l.map iv)
theorem TkS.tok {w : World} {B : Nat} {v : Value} {l : List Tk} (h : TkS w B v l) {j : Nat} (hj : j < l.length) :
    ∃ g c, v = .slice (some ⟨g, 0, none⟩) l.length c ∧ g < w.heap.size ∧ w.cell? ⟨g, j * 2, none⟩ = some (.int .i64 ((l[j]).ps : Int)) ∧ w.cell? ⟨g, j * 2 + 1, none⟩ = some (sv (l[j]).tx) := by
  rcases h.2 with ⟨rfl, h0⟩ | ⟨g, cap, cur, rfl, _, hg, _, _, _, ht⟩
  · omega
  · have hx : ∀ k u, (l.flatMap tkC)[k]? = some u → w.cell? ⟨g, k, none⟩ = some u := fun k u hu => by
      have := World.ownsRow.cells h (g := g) rfl k u hu
      rwa [addr_add, Nat.zero_add] at this
    have hf : ∀ (l : List Tk) (j : Nat) (hj : j < l.length), (l.flatMap tkC)[j * 2]? = some (.int .i64 ((l[j]).ps : Int)) ∧ (l.flatMap tkC)[j * 2 + 1]? = some (sv (l[j]).tx) := by
      intro l
      induction l with
      | nil => intro j hj; exact absurd hj (Nat.not_lt_zero _)
      | cons x l ih =>
        intro j hj
        cases j with
        | zero => exact ⟨rfl, rfl⟩
        | succ j =>
          have := ih j (by simpa using hj)
          rw [List.flatMap_cons]
          rw [show (j + 1) * 2 = j * 2 + 2 by omega]
          exact this
    have hh := hf l j hj
    exact ⟨g, cap, rfl, (Array.getElem?_eq_some_iff.1 hg).1, hx _ _ hh.1, hx _ _ hh.2⟩
/-- How a row's cells are handed back. -/
def CellsE (C : Nat) (r : List Int × Nat × Int) (e : Ending) (w' : World) : Prop :=
  (r.2.2 = 0 ∧ ∃ A c, e = .returned (.tuple #[.slice A r.1.length c, .int .i64 0, .int .i64 0]) ∧ IR w' C (.slice A r.1.length c) r.1) ∨
  (r.2.2 ≠ 0 ∧ e = .returned (.tuple #[.slice none 0 0, .int .i64 (r.2.1 : Int), .int .i64 r.2.2]))

theorem own_blk {w : World} {base n g : Nat} {e : TypeId} {xs : List Value} (h : w.ownsRow base e 1 (.slice (some ⟨g, 0, none⟩) n n) n xs) : Blk w g e xs ∧ base ≤ g := by
  rcases h.2 with ⟨h0, _⟩ | ⟨k, cap, cur, hv, hb, hg, h1, h2, h3, h4⟩
  · cases h0
  · injection hv with e1 e2 e3
    injection e1 with e1
    injection e1 with e1
    subst e1 e3
    refine ⟨?_, hb⟩
    have : cur.toList = xs := by
      rw [← h4, List.take_of_length_le]
      rw [Array.length_toList, h3]; exact Nat.le_refl _
    unfold Blk
    rw [← this, hg]
theorem blk_own {w : World} {base n g : Nat} {e : TypeId} {xs : List Value} (h : Blk w g e xs) (hb : base ≤ g) (hn : xs.length = n) (hm : n ≤ maxLen) : w.ownsRow base e 1 (.slice (some ⟨g, 0, none⟩) n n) n xs :=
  ⟨by rw [Nat.mul_one]; exact hn, .inr ⟨g, n, xs.toArray, rfl, hb, h, Nat.le_refl _, hm, by simp [hn], by simp [← hn]⟩⟩
/-- 'make([]int, n)': a block of zeros. -/
theorem wpList_zeros (w : World) {ops : Array Oper} {rest : List Oper} {o : Oper} {a : Act} {Q : Exit → Act → World → Prop} (hg : o.guard = none) (l c : Operand) (hop : o.op = Op.makeSlice 61 l c)
    (n : Nat) (hl : a.eval l = .int .i64 (n : Int)) (hc : a.eval c = .int .i64 (n : Int)) (hn : n ≤ 100000)
    (hK : ∀ w', Hid (Blk w' w.heap.size 3 (List.replicate n (.int .i64 0))) → Hid (Below w.heap.size w w') → wpList Tryz.prog ops Q rest (a.put o.dst (.slice (some ⟨w.heap.size, 0, none⟩) n n)) w') :
    wpList Tryz.prog ops Q (o :: rest) a w := by
  obtain ⟨i0, hi, hz0, hz1, hz2⟩ := info_three (show (Tryz.prog.info? 3).map (fun i => (i.zero, i.size, i.bytes)) = some (some (Value.int .i64 0), 1, 8) by kernel_rfl)
  refine wpList_make_full w hg l c 61 hop w.heap.size 3 i0 (.int .i64 0) 1 Tryz.underlying61 hi hz0 hz1 .i64 .i64 (n : Int) (n : Int) n hl hc rfl rfl (by rw [hz2]; omega) (by unfold maxLen; omega) (Nat.le_refl _) ?_
  intro w2 hown hgr
  have hb := (own_blk hown).1
  rw [Nat.mul_one, show (madeCells (Value.int .i64 0).cells n).toList = List.replicate n (.int .i64 0) from toList_madeCells_one _ n] at hb
  exact hK w2 hb ((Below.refl w.heap.size w).grown hgr (Nat.le_refl _) (by simp))
theorem inc_c (t : TypeId) (k : Nat) (h : k ≤ 200000) : binOp .add t (.int .i64 (k : Int)) (.int .i64 1) = pure (.int .i64 ((k + 1 : Nat) : Int)) := by
  rw [binOp_add]
  simp only [Op.intArith]
  rw [IntWalk.i64_in _ (by omega)]
  rfl
/-- The coefficients read so far, and zeros. -/
def pcL (a : List Tk) (d j : Nat) : List Int := (a.take j).map (fun x => (x.n : Int)) ++ List.replicate (d - j) 0
theorem pcL_zero (a : List Tk) (d : Nat) : (pcL a d 0).map iv = List.replicate d (.int .i64 0) := by unfold pcL; simp
theorem pcL_at {a : List Tk} {d j : Nat} (h : j < d) (ha : a.length = d) : ((pcL a d j).map iv)[j]? = some (.int .i64 0) := by
  unfold pcL
  have hl : (((a.take j).map (fun x : Tk => (x.n : Int))).map iv).length = j := by simp; omega
  rw [List.map_append, List.getElem?_append_right (by rw [hl]; exact Nat.le_refl _), hl, Nat.sub_self, List.map_replicate, List.getElem?_replicate, if_pos (by omega)]
theorem pcL_step {a : List Tk} {d j : Nat} (h : j < d) (ha : a.length = d) (hj : j < a.length) : ((pcL a d j).map iv).set j (.int .i64 ((a[j]).n : Int)) = (pcL a d (j + 1)).map iv := by
  unfold pcL
  rw [take_snoc a j hj, show d - j = (d - (j + 1)) + 1 by omega, List.replicate_succ]
  simp only [List.map_append, List.map_cons, List.map_nil, List.append_assoc]
  have hl : (((a.take j).map (fun x : Tk => (x.n : Int))).map iv).length = j := by simp; omega
  rw [List.set_append_right _ _ (by rw [hl]; exact Nat.le_refl _), hl, Nat.sub_self]
  rfl
theorem pcL_end {a : List Tk} {d : Nat} (ha : a.length = d) : pcL a d d = a.map (fun x => (x.n : Int)) := by
  unfold pcL
  rw [List.take_of_length_le (by omega)]
  simp
theorem find_first {α : Type} {p : α → Bool} {l : List α} {j : Nat} (hj : j < l.length) (h1 : ∀ x ∈ l.take j, p x = false) (h2 : p l[j] = true) : l.find? p = some l[j] := by
  have e : l = l.take j ++ l[j] :: l.drop (j + 1) := by rw [← List.drop_eq_getElem_cons hj, List.take_append_drop]
  have h3 : (l.take j).find? p = none := List.find?_eq_none.2 fun x hx => by rw [h1 x hx]; simp
  conv => lhs; rw [e]
  rw [List.find?_append, h3, List.find?_cons_of_pos h2]
  rfl
theorem one_ne : (1 : Int) ≠ 0 := by decide

set_option maxHeartbeats 1000000 in
set_option maxRecDepth 100000 in
theorem parityCells_any (p : Nat) (tx : Bs) (va : Value) (A : Option Addr) (c : Nat) (f : Int) (hf : f = 8 ∨ f = 16) (d : Nat) (hd1 : 1 ≤ d) (hd2 : d ≤ 31) (a b : List Tk) (B : Nat) (w : World) (hva : va.oneCell' = true) (ht : TkS w B (.slice A a.length c) a) (hN : ∀ x ∈ a, NumT x) (kd0 n0 : Nat) :
    Calls Tryz.prog 98 #[.agg #[.int .i64 (p : Int), sv tx, va, .slice A a.length c], .int .i64 f, .int .i64 (d : Int)] w fun e w' =>
      CellsE w.heap.size (parityB ⟨⟨tx, p, kd0, n0⟩, a, b⟩ d (topF f)) e w' ∧ Below w.heap.size w w' := by
  obtain ⟨n, hn⟩ : ∃ n, n = a.length := ⟨_, rfl⟩
  rw [← hn] at ht ⊢
  have HN0 := hideIt hn
  have hne := i_neq 3 .i64 (n : Int) (d : Int)
  have HR0 := hideIt (Blk.new w 107 [.int .i64 (p : Int), sv tx, va, .slice A n c])
  have HW0 := hideIt (below_new w (.cells #[.int .i64 (p : Int), sv tx, va, .slice A n c] 107))
  by_cases h1 : n = d
  · rw [decide_eq_false (by omega)] at hne
    subst h1
    have HT := hideIt ht
    have HNT := hideIt hN
    have HF := hideIt hf
    have hs1 : (w.alloc (.cells #[.int .i64 (p : Int), sv tx, va, .slice A n c] 107)).heap.size = w.heap.size + 1 := by simp
    clear ht hN hf hn
    go_enter Tryz.func98, Tryz.ntmps98
    go_wp2_with ((with_reducible refine at_make ?_); refine wpList_zeros _ rfl (.tmp 20) (.tmp 20) rfl n rfl rfl (by omega) ?_; intro w2 HB2 HW2; have hr2 := HR0.out.kept HW2.out HR0.out.lt; have c3 : w2.cell? ⟨w.heap.size, 3, none⟩ = _ := hr2.cell 3; have HR2 := hideIt hr2; clear hr2)
    have hg2 := HB2.out
    rw [hs1, ← pcL_zero a n] at hg2
    have HG2 := hideIt hg2
    have HX2 := hideIt (HW0.out.trans (HW2.out.mono HW0.out.size))
    have HSZ := hideIt (show w.heap.size + 2 ≤ w2.heap.size from by have := HG2.out.lt; omega)
    clear hg2 c3
    go_loopg [25] n (fun gk s25 wr => ∃ j : Nat, j + gk = n ∧ s25 = .int .i64 (j : Int) ∧ Aside (Below w.heap.size w wr ∧ Blk wr w.heap.size 107 [.int .i64 (p : Int), sv tx, va, .slice A n c] ∧ Blk wr (w.heap.size + 1) 3 ((pcL a n j).map iv) ∧ (∀ x ∈ a.take j, decide (topF f < (x.n : Int)) = false) ∧ w.heap.size + 2 ≤ wr.heap.size))
    case atStart => exact ⟨0, by omega, rfl, HX2.out, HR2.out, HG2.out, fun x hx => by simp at hx, HSZ.out⟩
    case round =>
      obtain ⟨j, hj, rfl, HI⟩ := hrel
      by_cases hlt : j < n
      · have hjl : j < a.length := by rw [← HN0.out]; exact hlt
        have htk := HT.out
        unfold TkS at htk
        rw [HN0.out] at htk
        obtain ⟨g, cc, hA, hg, hc1, hc2⟩ := TkS.tok htk hjl
        have hA : A = some ⟨g, 0, none⟩ := by
          injection hA
        subst hA
        have t1 := (HI.out.1.cell (p := ⟨g, j * 2, none⟩) hg).trans hc1
        have t2 := (HI.out.1.cell (p := ⟨g, j * 2 + 1, none⟩) hg).trans hc2
        have HTK := hideIt (take_snoc a j hjl)
        have HNX := hideIt (HNT.out _ (List.getElem_mem hjl))
        have HST := hideIt (pcL_step hlt HN0.out.symm hjl)
        have HFF := hideIt (fun (h2 : decide (topF f < ((a[j]).n : Int)) = true) => find_first hjl HI.out.2.2.2.1 h2)
        have hinc := inc_c 3 j (by omega)
        have hji : (j : Int) < (n : Int) := by omega
        have HV := hideIt (fun W => value_any a[j] HNX.out W)
        have HC := hideIt (fun W => isCoef_any f ((a[j]).n : Int) HF.out W)
        have HCB : Hid (coefB f ((a[j]).n : Int) = !decide (topF f < ((a[j]).n : Int))) := by
          show coefB f ((a[j]).n : Int) = !decide (topF f < ((a[j]).n : Int))
          unfold coefB
          rw [Bool.eq_iff_iff, decide_eq_true_iff, Bool.not_eq_true', decide_eq_false_iff_not]
          omega
        have HPA := hideIt (pcL_at hlt HN0.out.symm)
        generalize a[j] = x at *
        clear hjl hg hc1 hc2 hA htk
        cases hq : decide (topF f < (x.n : Int)) with
        | true =>
          rw [hq] at HCB HFF
          have HP : Hid (parityB ⟨⟨tx, p, kd0, n0⟩, a, b⟩ n (topF f) = ([], x.ps, 1)) := by
            show parityB ⟨⟨tx, p, kd0, n0⟩, a, b⟩ n (topF f) = ([], x.ps, 1)
            unfold parityB
            rw [if_neg (by dsimp only; rw [← HN0.out]; simp)]
            dsimp only
            rw [HFF.out rfl]
          clear hq
          go_wp2_with (first
            | (go_at_call 68; refine (HV.out _).mono ?_; rintro e w1 ⟨rfl, hb⟩; have hg1 := (HI.out.2.2.1.alloc (.cells #[.int .i64 (x.ps : Int), .string (ss x.tx)] 77)).kept hb (HI.out.2.2.1.alloc _).lt; have ht1 := (Blk.new wr 77 [.int .i64 (x.ps : Int), .string (ss x.tx)]).kept hb (Blk.new wr 77 [.int .i64 (x.ps : Int), .string (ss x.tx)]).lt; have hr1 := (HI.out.2.1.alloc (.cells #[.int .i64 (x.ps : Int), .string (ss x.tx)] 77)).kept hb (HI.out.2.1.alloc _).lt; have cg : w1.cell? ⟨w.heap.size + 1, j, none⟩ = _ := (hg1.cell j).trans HPA.out; have fg := hg1.free j; have cs : (w1.setCell ⟨w.heap.size + 1, j, none⟩ (.int .i64 (x.n : Int))).cell? ⟨w.heap.size + 1, j, none⟩ = some (.int .i64 (x.n : Int)) := World.cell?_setCell_same' _ _ _ (by rw [cg]; rfl); have ct : (w1.setCell ⟨w.heap.size + 1, j, none⟩ (.int .i64 (x.n : Int))).cell? ⟨wr.heap.size, 0, none⟩ = _ := (ht1.store_other (k := w.heap.size + 1) (i := j) (u := .int .i64 (x.n : Int)) (by have := HI.out.2.2.2.2; omega)).cell 0; have HX1 := hideIt ((HI.out.1.alloc HI.out.1.size (.cells #[.int .i64 (x.ps : Int), .string (ss x.tx)] 77)).trans (hb.mono (by have := HI.out.1.size; simp; omega))); have HG1 := hideIt hg1; have HR1 := hideIt hr1; have HS1 := hideIt (Nat.le_trans HI.out.2.2.2.2 (Nat.le_trans (below_new wr _).size hb.size)); clear hb hg1 ht1 hr1)
            | (go_at_call 59; refine (HC.out _).mono ?_; rw [HCB.out]; rintro e w' ⟨rfl, rfl⟩))
          go_quiet (fail)
          go_wp2_with fail
          go_ret3
          rw [HP.out]
          exact ⟨.inr ⟨one_ne, rfl⟩, below_drewN (below_set HX1.out (Nat.le_succ _) _ _) _⟩
        | false =>
          rw [hq] at HCB
          have HQ := hideIt hq
          clear hq
          go_wp2_with (first
            | (go_at_call 68; refine (HV.out _).mono ?_; rintro e w1 ⟨rfl, hb⟩; have hg1 := (HI.out.2.2.1.alloc (.cells #[.int .i64 (x.ps : Int), .string (ss x.tx)] 77)).kept hb (HI.out.2.2.1.alloc _).lt; have ht1 := (Blk.new wr 77 [.int .i64 (x.ps : Int), .string (ss x.tx)]).kept hb (Blk.new wr 77 [.int .i64 (x.ps : Int), .string (ss x.tx)]).lt; have hr1 := (HI.out.2.1.alloc (.cells #[.int .i64 (x.ps : Int), .string (ss x.tx)] 77)).kept hb (HI.out.2.1.alloc _).lt; have cg : w1.cell? ⟨w.heap.size + 1, j, none⟩ = _ := (hg1.cell j).trans HPA.out; have fg := hg1.free j; have cs : (w1.setCell ⟨w.heap.size + 1, j, none⟩ (.int .i64 (x.n : Int))).cell? ⟨w.heap.size + 1, j, none⟩ = some (.int .i64 (x.n : Int)) := World.cell?_setCell_same' _ _ _ (by rw [cg]; rfl); have ct : (w1.setCell ⟨w.heap.size + 1, j, none⟩ (.int .i64 (x.n : Int))).cell? ⟨wr.heap.size, 0, none⟩ = _ := (ht1.store_other (k := w.heap.size + 1) (i := j) (u := .int .i64 (x.n : Int)) (by have := HI.out.2.2.2.2; omega)).cell 0; have HX1 := hideIt ((HI.out.1.alloc HI.out.1.size (.cells #[.int .i64 (x.ps : Int), .string (ss x.tx)] 77)).trans (hb.mono (by have := HI.out.1.size; simp; omega))); have HG1 := hideIt hg1; have HR1 := hideIt hr1; have HS1 := hideIt (Nat.le_trans HI.out.2.2.2.2 (Nat.le_trans (below_new wr _).size hb.size)); clear hb hg1 ht1 hr1)
            | (go_at_call 59; refine (HC.out _).mono ?_; rw [HCB.out]; rintro e w' ⟨rfl, rfl⟩))
          go_roundg (gk - 1)
          case measure => omega
          case rel =>
            refine ⟨j + 1, by omega, by go_num, below_set HX1.out (Nat.le_succ _) _ _, HR1.out.store_other (by omega), ?_, ?_, ?_⟩
            · have := HG1.out.store j (.int .i64 (x.n : Int))
              rw [HST.out] at this
              exact this
            · rw [HTK.out]
              intro y hy
              rcases List.mem_append.1 hy with h | h
              · exact HI.out.2.2.2.1 y h
              · rw [List.mem_singleton] at h; rw [h]; exact HQ.out
            · have := HS1.out; simp [World.setCell]; omega
      · obtain rfl : j = n := by omega
        have hji : ¬ (j : Int) < (j : Int) := by omega
        have hg0 := HI.out.2.2.1
        have hln : (pcL a j j).length = j := by rw [pcL_end HN0.out.symm, List.length_map]; exact HN0.out.symm
        have hown := blk_own (n := j) (base := w.heap.size) hg0 (Nat.le_succ _) (by rw [List.length_map]; exact hln) (by unfold maxLen; omega)
        have hsl := Sl.of_own hown
        have HZ := hideIt (isZero_any (pcL a j j) (by omega) (some ⟨w.heap.size + 1, 0, none⟩) j wr.heap.size wr (by rw [hln]; exact hsl))
        rw [hln] at HZ
        have HNO : Hid (a.find? (fun t => decide (topF f < (t.n : Int))) = none) := List.find?_eq_none.2 fun x hx => by
          rw [HI.out.2.2.2.1 x (by rw [List.take_of_length_le (by rw [← HN0.out]; exact Nat.le_refl _)]; exact hx)]; simp
        have HAN : Hid ((!(pcL a j j).any nz) = a.all (fun t => decide (t.n = 0))) := by
          show (!(pcL a j j).any nz) = a.all (fun t => decide (t.n = 0))
          rw [pcL_end HN0.out.symm, List.any_map, Bool.eq_iff_iff, Bool.not_eq_true', List.any_eq_false, List.all_eq_true]
          constructor
          · intro h x hx
            have := h x hx
            unfold nz at this
            simpa using this
          · intro h x hx
            have := of_decide_eq_true (h x hx)
            unfold nz
            simp [this]
        have HOWN := hideIt hown
        have c0 : wr.cell? ⟨w.heap.size, 0, none⟩ = some (.int .i64 (p : Int)) := HI.out.2.1.cell 0
        have HPC := hideIt (pcL_end HN0.out.symm)
        clear hg0 hln hown hsl
        cases hq : a.all (fun t => decide (t.n = 0)) with
        | true =>
          rw [hq] at HAN
          have HP : Hid (parityB ⟨⟨tx, p, kd0, n0⟩, a, b⟩ j (topF f) = ([], p, 1)) := by
            show parityB ⟨⟨tx, p, kd0, n0⟩, a, b⟩ j (topF f) = ([], p, 1)
            unfold parityB
            rw [if_neg (by dsimp only; rw [← HN0.out]; simp)]
            dsimp only
            rw [HNO.out]
            dsimp only
            rw [if_pos hq]
          clear hq
          go_wp2_with (go_at_call 61; refine HZ.out.mono ?_; rw [HAN.out]; rintro e w' ⟨rfl, rfl⟩)
          go_quiet (fail)
          go_wp2_with fail
          go_ret3
          rw [HP.out]
          exact ⟨.inr ⟨one_ne, rfl⟩, below_drewN HI.out.1 _⟩
        | false =>
          rw [hq] at HAN
          have HP : Hid (parityB ⟨⟨tx, p, kd0, n0⟩, a, b⟩ j (topF f) = (a.map (fun t => (t.n : Int)), 0, 0)) := by
            show parityB ⟨⟨tx, p, kd0, n0⟩, a, b⟩ j (topF f) = (a.map (fun t => (t.n : Int)), 0, 0)
            unfold parityB
            rw [if_neg (by dsimp only; rw [← HN0.out]; simp)]
            dsimp only
            rw [HNO.out]
            dsimp only
            rw [if_neg (by rw [hq]; simp)]
          clear hq
          go_wp2_with (go_at_call 61; refine HZ.out.mono ?_; rw [HAN.out]; rintro e w' ⟨rfl, rfl⟩)
          go_ret3
          rw [HP.out]
          refine ⟨.inl ⟨rfl, some ⟨w.heap.size + 1, 0, none⟩, j, ?_, ?_⟩, HI.out.1⟩
          · rw [List.length_map, ← HN0.out]; rfl
          · unfold IR
            rw [List.length_map, ← HN0.out, ← HPC.out]
            exact HOWN.out
  · rw [decide_eq_true (by omega)] at hne
    have hP : parityB ⟨⟨tx, p, kd0, n0⟩, a, b⟩ d (topF f) = ([], p, 1) := by
      unfold parityB
      rw [if_pos (by dsimp only; omega)]
    rw [hP]
    have c0 : (w.alloc (.cells #[.int .i64 (p : Int), sv tx, va, .slice A n c] 107)).cell? ⟨w.heap.size, 0, none⟩ = some (.int .i64 (p : Int)) := HR0.out.cell 0
    clear hP h1 hn ht hN hf
    go_enter Tryz.func98, Tryz.ntmps98
    go_wp2_with fail
    go_quiet (fail)
    go_wp2_with fail
    go_ret3
    exact ⟨.inr ⟨one_ne, rfl⟩, below_drewN HW0.out _⟩

end Go.Proofs.YtcogkdnlpjfgdaaGreatDoor
