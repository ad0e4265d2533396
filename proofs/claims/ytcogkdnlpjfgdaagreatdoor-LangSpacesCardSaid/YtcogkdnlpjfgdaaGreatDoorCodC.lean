/-
  A row's cells, walked: localCells, cells.
-/
import Derived.Test.YtcogkdnlpjfgdaaGreatDoorCodB
namespace Go.Proofs.YtcogkdnlpjfgdaaGreatDoor
open Go.RowKit
set_option linter.unusedVariables false
set_option linter.unusedSimpArgs false

theorem fillL_snoc : ∀ (a b : List Tk) (x y : Tk) (o : List Int), a.length = b.length → fillL (a ++ [x]) (b ++ [y]) o = (fillL a b o).set x.n (y.n : Int)
  | [], [], x, y, o, _ => rfl
  | [], _ :: _, x, y, o, h => by simp at h
  | _ :: _, [], x, y, o, h => by simp at h
  | u :: a, v :: b, x, y, o, h => by
    show fillL (a ++ [x]) (b ++ [y]) (o.set u.n (v.n : Int)) = _
    rw [fillL_snoc a b x y _ (by simpa using h)]
    rfl
theorem fillL_len : ∀ (a b : List Tk) (o : List Int), (fillL a b o).length = o.length
  | [], b, o => by cases b <;> rfl
  | u :: a, [], o => rfl
  | u :: a, v :: b, o => by
    show (fillL a b (o.set u.n (v.n : Int))).length = _
    rw [fillL_len a b, List.length_set]
theorem rep_iv (d : Nat) : (List.replicate d (0 : Int)).map iv = List.replicate d (.int .i64 0) := by simp

set_option maxHeartbeats 2000000 in
set_option maxRecDepth 100000 in
theorem localCells_any (p : Nat) (tx : Bs) (A : Option Addr) (c : Nat) (A' : Option Addr) (c' : Nat) (f : Int) (hf : f = 8 ∨ f = 16) (d : Nat) (hd1 : 1 ≤ d) (hd2 : d ≤ 31) (a b : List Tk) (hla : a.length ≤ 100000) (hlb : b.length ≤ 100000) (B : Nat) (w : World) (ht : TkS w B (.slice A a.length c) a) (hu : TkS w B (.slice A' b.length c') b) (hN : ∀ x ∈ a, NumT x) (hM : ∀ x ∈ b, NumT x) (kd0 n0 : Nat) :
    Calls Tryz.prog 97 #[.agg #[.int .i64 (p : Int), sv tx, .slice A a.length c, .slice A' b.length c'], .int .i64 f, .int .i64 (d : Int)] w fun e w' =>
      CellsE w.heap.size (localB ⟨⟨tx, p, kd0, n0⟩, a, b⟩ d (topF f)) e w' ∧ Below w.heap.size w w' := by
  obtain ⟨n, hn⟩ : ∃ n, n = a.length := ⟨_, rfl⟩
  obtain ⟨m, hm⟩ : ∃ m, m = b.length := ⟨_, rfl⟩
  rw [← hn] at ht hla ⊢
  rw [← hm] at hu hlb ⊢
  have HN0 := hideIt hn
  have HM0 := hideIt hm
  have hne := i_neq 3 .i64 (m : Int) (n : Int)
  have HR0 := hideIt (Blk.new w 107 [.int .i64 (p : Int), sv tx, .slice A n c, .slice A' m c'])
  have HW0 := hideIt (below_new w (.cells #[.int .i64 (p : Int), sv tx, .slice A n c, .slice A' m c'] 107))
  have HS0 : Hid (w.heap.size + 1 ≤ (w.alloc (.cells #[.int .i64 (p : Int), sv tx, .slice A n c, .slice A' m c'] 107)).heap.size) := by
    show w.heap.size + 1 ≤ (w.alloc _).heap.size
    simp
  have HT := hideIt ht
  have HU := hideIt hu
  have HNT := hideIt hN
  have HMT := hideIt hM
  have HF := hideIt hf
  have hq0 : (w.alloc (.cells #[.int .i64 (p : Int), sv tx, .slice A n c, .slice A' m c'] 107)).cell? ⟨w.heap.size, 2, none⟩ = some (.slice A n c) := HR0.out.cell 2
  clear ht hu hN hM hf hn hm
  go_enter Tryz.func97, Tryz.ntmps97
  go_wp2_with fail
  go_loopg [20, 9] n (fun gk s20 s9 wr => ∃ i q : Nat, i + gk = n ∧ s20 = .int .i64 (i : Int) ∧ s9 = .int .i64 (q : Int) ∧ Aside (locI d 0 a = locI d q (a.drop i) ∧ q ≤ d ∧ Below w.heap.size w wr ∧ Blk wr w.heap.size 107 [.int .i64 (p : Int), sv tx, .slice A n c, .slice A' m c'] ∧ w.heap.size + 1 ≤ wr.heap.size))
  case atStart => exact ⟨0, 0, by omega, rfl, rfl, rfl, by omega, HW0.out, HR0.out, HS0.out⟩
  case round =>
    obtain ⟨i, q, hi, rfl, rfl, HI⟩ := hrel
    by_cases hlt : i < n
    · have hil : i < a.length := by rw [← HN0.out]; exact hlt
      have htk := HT.out
      unfold TkS at htk
      rw [HN0.out] at htk
      obtain ⟨g, cc, hA, hg, hc1, hc2⟩ := TkS.tok htk hil
      have hA : A = some ⟨g, 0, none⟩ := by
        injection hA
      subst hA
      have t1 := (HI.out.2.2.1.cell (p := ⟨g, i * 2, none⟩) hg).trans hc1
      have t2 := (HI.out.2.2.1.cell (p := ⟨g, i * 2 + 1, none⟩) hg).trans hc2
      have HDR := hideIt (List.drop_eq_getElem_cons hil)
      have HNX := hideIt (HNT.out _ (List.getElem_mem hil))
      have hinc := inc_c 3 i (by omega)
      have hji : (i : Int) < (n : Int) := by omega
      have HV := hideIt (fun W => value_any a[i] HNX.out W)
      have hxl := HNX.out.lt
      generalize a[i] = x at *
      have hinq := inc_c 3 x.n (by omega)
      clear hil hg hc1 hc2 hA htk
      by_cases h1 : x.n < q
      · have h1i : (x.n : Int) < (q : Int) := by omega
        have HP : Hid (localB ⟨⟨tx, p, kd0, n0⟩, a, b⟩ d (topF f) = ([], x.ps, 1)) := by
          show localB ⟨⟨tx, p, kd0, n0⟩, a, b⟩ d (topF f) = ([], x.ps, 1)
          unfold localB
          dsimp only
          rw [HI.out.1, HDR.out, locI, if_pos (.inr h1)]
        clear h1 hinq
        go_wp2_with (go_at_call 68; refine (HV.out _).mono ?_; rintro e w1 ⟨rfl, hb⟩; have ht1 := (Blk.new wr 77 [.int .i64 (x.ps : Int), .string (ss x.tx)]).kept hb (Blk.new wr 77 [.int .i64 (x.ps : Int), .string (ss x.tx)]).lt; have ct : w1.cell? ⟨wr.heap.size, 0, none⟩ = _ := ht1.cell 0; have HX1 := hideIt ((HI.out.2.2.1.alloc HI.out.2.2.1.size (.cells #[.int .i64 (x.ps : Int), .string (ss x.tx)] 77)).trans (hb.mono (by have := HI.out.2.2.1.size; simp; omega))); clear hb ht1)
        go_quiet (fail)
        go_wp2_with fail
        go_ret3
        rw [HP.out]
        exact ⟨.inr ⟨one_ne, rfl⟩, below_drewN HX1.out _⟩
      · have h1i : ¬ (x.n : Int) < (q : Int) := by omega
        by_cases h2 : d ≤ x.n
        · have h2i : (x.n : Int) ≥ (d : Int) := by omega
          have HP : Hid (localB ⟨⟨tx, p, kd0, n0⟩, a, b⟩ d (topF f) = ([], x.ps, 1)) := by
            show localB ⟨⟨tx, p, kd0, n0⟩, a, b⟩ d (topF f) = ([], x.ps, 1)
            unfold localB
            dsimp only
            rw [HI.out.1, HDR.out, locI, if_pos (.inl (by omega))]
          clear h1 h2 hinq
          go_wp2_with (go_at_call 68; refine (HV.out _).mono ?_; rintro e w1 ⟨rfl, hb⟩; have ht1 := (Blk.new wr 77 [.int .i64 (x.ps : Int), .string (ss x.tx)]).kept hb (Blk.new wr 77 [.int .i64 (x.ps : Int), .string (ss x.tx)]).lt; have ct : w1.cell? ⟨wr.heap.size, 0, none⟩ = _ := ht1.cell 0; have HX1 := hideIt ((HI.out.2.2.1.alloc HI.out.2.2.1.size (.cells #[.int .i64 (x.ps : Int), .string (ss x.tx)] 77)).trans (hb.mono (by have := HI.out.2.2.1.size; simp; omega))); clear hb ht1)
          go_quiet (fail)
          go_wp2_with fail
          go_ret3
          rw [HP.out]
          exact ⟨.inr ⟨one_ne, rfl⟩, below_drewN HX1.out _⟩
        · have h2i : ¬ (x.n : Int) ≥ (d : Int) := by omega
          have HL : Hid (locI d 0 a = locI d (x.n + 1) (a.drop (i + 1))) := by
            show locI d 0 a = locI d (x.n + 1) (a.drop (i + 1))
            rw [HI.out.1, HDR.out, locI, if_neg (by omega)]
          have HQ := hideIt (show x.n + 1 ≤ d by omega)
          clear h1 h2
          go_wp2_with (go_at_call 68; refine (HV.out _).mono ?_; rintro e w1 ⟨rfl, hb⟩; have HR1 := hideIt ((HI.out.2.2.2.1.alloc (.cells #[.int .i64 (x.ps : Int), .string (ss x.tx)] 77)).kept hb (HI.out.2.2.2.1.alloc _).lt); have HX1 := hideIt ((HI.out.2.2.1.alloc HI.out.2.2.1.size (.cells #[.int .i64 (x.ps : Int), .string (ss x.tx)] 77)).trans (hb.mono (by have := HI.out.2.2.1.size; simp; omega))); have HS1 := hideIt (Nat.le_trans HI.out.2.2.2.2 (Nat.le_trans (below_new wr _).size hb.size)); clear hb)
          go_roundg (gk - 1)
          case measure => omega
          case rel => exact ⟨i + 1, x.n + 1, by omega, by go_num, by go_num, HL.out, HQ.out, HX1.out, HR1.out, HS1.out⟩
    · obtain rfl : i = n := by omega
      have hji : ¬ (i : Int) < (i : Int) := by omega
      have HNO : Hid (locI d 0 a = none) := by
        show locI d 0 a = none
        rw [HI.out.1, List.drop_of_length_le (by rw [← HN0.out]; exact Nat.le_refl _)]
        rfl
      have c0 : wr.cell? ⟨w.heap.size, 0, none⟩ = some (.int .i64 (p : Int)) := HI.out.2.2.2.1.cell 0
      have c2 : wr.cell? ⟨w.heap.size, 2, none⟩ = some (.slice A i c) := HI.out.2.2.2.1.cell 2
      have c3 : wr.cell? ⟨w.heap.size, 3, none⟩ = some (.slice A' m c') := HI.out.2.2.2.1.cell 3
      by_cases hmn : m = i
      · rw [decide_eq_false (by omega)] at hne
        subst hmn
        have HLE := hideIt (show a.length = b.length by rw [← HN0.out, ← HM0.out])
        have HSI := hideIt HI.out.2.2.2.2
        have HWI := hideIt HI.out.2.2.1
        go_wp2_with ((with_reducible refine at_make ?_); refine wpList_zeros _ rfl (.tmp 49) (.tmp 49) rfl d rfl rfl (by omega) ?_; intro w3 HB3 HW3; have hr3 := HI.out.2.2.2.1.kept HW3.out HI.out.2.2.2.1.lt; have d3 : w3.cell? ⟨w.heap.size, 3, none⟩ = _ := hr3.cell 3; have HR3 := hideIt hr3; have HX3 := hideIt (HWI.out.trans (HW3.out.mono HWI.out.size)); have HS3 := hideIt HB3.out.lt; clear hr3)
        obtain ⟨G, hG⟩ : ∃ G, G = wr.heap.size := ⟨_, rfl⟩
        rw [← hG] at HB3 HS3
        rw [← hG]
        have HG0 := hideIt (show w.heap.size + 1 ≤ G by rw [hG]; exact HSI.out)
        clear hG c0 c2 c3 d3 hq0
        go_loopg [54] m (fun gk s54 wr => ∃ k : Nat, k + gk = m ∧ s54 = .int .i64 (k : Int) ∧ Aside (Below w.heap.size w wr ∧ Blk wr w.heap.size 107 [.int .i64 (p : Int), sv tx, .slice A m c, .slice A' m c'] ∧ Blk wr G 3 ((fillL (a.take k) (b.take k) (List.replicate d 0)).map iv) ∧ (∀ y ∈ b.take k, decide (y.n = 0 ∨ topF f < (y.n : Int)) = false)))
        case atStart =>
          refine ⟨0, by omega, rfl, HX3.out, HR3.out, ?_, fun y hy => by simp at hy⟩
          have := HB3.out
          rw [← rep_iv d] at this
          exact this
        case round =>
          obtain ⟨k, hk, rfl, HJ⟩ := hrel
          by_cases hkt : k < m
          · have hka : k < a.length := by rw [← HN0.out]; exact hkt
            have hkb : k < b.length := by rw [← HM0.out]; exact hkt
            have htk := HU.out
            unfold TkS at htk
            rw [HM0.out] at htk
            obtain ⟨g, cc, hA, hg, hc1, hc2⟩ := TkS.tok htk hkb
            have hA : A' = some ⟨g, 0, none⟩ := by
              injection hA
            subst hA
            have htk2 := HT.out
            unfold TkS at htk2
            rw [HN0.out] at htk2
            obtain ⟨g2, cc2, hA2, hg2, hc3, hc4⟩ := TkS.tok htk2 hka
            have hA2 : A = some ⟨g2, 0, none⟩ := by
              injection hA2
            subst hA2
            have t1 := (HJ.out.1.cell (p := ⟨g, k * 2, none⟩) hg).trans hc1
            have t2 := (HJ.out.1.cell (p := ⟨g, k * 2 + 1, none⟩) hg).trans hc2
            have HC3 := hideIt (And.intro hg2 (And.intro hc3 hc4))
            have HTA := hideIt (take_snoc a k hka)
            have HTB := hideIt (take_snoc b k hkb)
            have HNY := hideIt (HMT.out _ (List.getElem_mem hkb))
            have HNX := hideIt (HNT.out _ (List.getElem_mem hka))
            have HXD := hideIt (show a[k].n < d by have := (locI_none HNO.out _ (List.getElem_mem hka)).1; omega)
            have HFF := hideIt (fun (h2 : decide ((b[k]).n = 0 ∨ topF f < ((b[k]).n : Int)) = true) => find_first hkb HJ.out.2.2.2 h2)
            have hinc := inc_c 3 k (by omega)
            have hji : (k : Int) < (m : Int) := by omega
            have HV := hideIt (fun W => value_any b[k] HNY.out W)
            have HVX := hideIt (fun W => value_any a[k] HNX.out W)
            have HC := hideIt (fun W => isCoef_any f ((b[k]).n : Int) HF.out W)
            have HLK := hideIt (show (a.take k).length = (b.take k).length by rw [List.length_take, List.length_take, HLE.out])
            have hz := i_eql 3 .i64 ((b[k]).n : Int) 0
            generalize a[k] = x at *
            generalize b[k] = y at *
            clear hka hkb hg hc1 hc2 hA htk htk2 hA2 hg2 hc3 hc4
            have HCB : Hid (coefB f (y.n : Int) = !decide (topF f < (y.n : Int))) := by
              show coefB f (y.n : Int) = !decide (topF f < (y.n : Int))
              unfold coefB
              rw [Bool.eq_iff_iff, decide_eq_true_iff, Bool.not_eq_true', decide_eq_false_iff_not]
              omega
            by_cases h0 : y.n = 0
            · rw [decide_eq_true (by omega)] at hz
              have HP : Hid (localB ⟨⟨tx, p, kd0, n0⟩, a, b⟩ d (topF f) = ([], y.ps, 1)) := by
                show localB ⟨⟨tx, p, kd0, n0⟩, a, b⟩ d (topF f) = ([], y.ps, 1)
                unfold localB
                dsimp only
                rw [HNO.out]
                dsimp only
                rw [if_neg (by rw [HLE.out]; simp), HFF.out (decide_eq_true (.inl h0))]
              clear h0
              go_wp2_with (first
                | (go_at_call 59; refine (HC.out _).mono ?_; rw [HCB.out]; rintro e w' ⟨rfl, rfl⟩)
                | (go_at_call 68; refine (HV.out _).mono ?_; rintro e w1 ⟨rfl, hb⟩; have ht1 := (Blk.new wr 77 [.int .i64 (y.ps : Int), .string (ss y.tx)]).kept hb (Blk.new wr 77 [.int .i64 (y.ps : Int), .string (ss y.tx)]).lt; have ct : w1.cell? ⟨wr.heap.size, 0, none⟩ = _ := ht1.cell 0; have hx1 := ((HJ.out.1.alloc HJ.out.1.size (.cells #[.int .i64 (y.ps : Int), .string (ss y.tx)] 77)).trans (hb.mono (by have := HJ.out.1.size; simp; omega))); have HX1 := hideIt hx1; have hr1 := (HJ.out.2.1.alloc (.cells #[.int .i64 (y.ps : Int), .string (ss y.tx)] 77)).kept hb (HJ.out.2.1.alloc _).lt; have hg1 := (HJ.out.2.2.1.alloc (.cells #[.int .i64 (y.ps : Int), .string (ss y.tx)] 77)).kept hb (HJ.out.2.2.1.alloc _).lt; have e2 : w1.cell? ⟨w.heap.size, 2, none⟩ = _ := hr1.cell 2; have e3 := (hx1.cell (p := ⟨g2, k * 2, none⟩) HC3.out.1).trans HC3.out.2.1; have e4 := (hx1.cell (p := ⟨g2, k * 2 + 1, none⟩) HC3.out.1).trans HC3.out.2.2; have HR1 := hideIt hr1; have HG1 := hideIt hg1; clear hb ht1 hx1 hr1 hg1))
              go_quiet (fail)
              go_wp2_with fail
              go_ret3
              rw [HP.out]
              exact ⟨.inr ⟨one_ne, rfl⟩, below_drewN HX1.out _⟩
            · rw [decide_eq_false (by omega)] at hz
              cases hq : decide (topF f < (y.n : Int)) with
              | true =>
                rw [hq] at HCB
                have HP : Hid (localB ⟨⟨tx, p, kd0, n0⟩, a, b⟩ d (topF f) = ([], y.ps, 1)) := by
                  show localB ⟨⟨tx, p, kd0, n0⟩, a, b⟩ d (topF f) = ([], y.ps, 1)
                  unfold localB
                  dsimp only
                  rw [HNO.out]
                  dsimp only
                  rw [if_neg (by rw [HLE.out]; simp), HFF.out (decide_eq_true (.inr (of_decide_eq_true hq)))]
                clear hq h0
                go_wp2_with (first
                  | (go_at_call 59; refine (HC.out _).mono ?_; rw [HCB.out]; rintro e w' ⟨rfl, rfl⟩)
                  | (go_at_call 68; refine (HV.out _).mono ?_; rintro e w1 ⟨rfl, hb⟩; have ht1 := (Blk.new wr 77 [.int .i64 (y.ps : Int), .string (ss y.tx)]).kept hb (Blk.new wr 77 [.int .i64 (y.ps : Int), .string (ss y.tx)]).lt; have ct : w1.cell? ⟨wr.heap.size, 0, none⟩ = _ := ht1.cell 0; have hx1 := ((HJ.out.1.alloc HJ.out.1.size (.cells #[.int .i64 (y.ps : Int), .string (ss y.tx)] 77)).trans (hb.mono (by have := HJ.out.1.size; simp; omega))); have HX1 := hideIt hx1; have hr1 := (HJ.out.2.1.alloc (.cells #[.int .i64 (y.ps : Int), .string (ss y.tx)] 77)).kept hb (HJ.out.2.1.alloc _).lt; have hg1 := (HJ.out.2.2.1.alloc (.cells #[.int .i64 (y.ps : Int), .string (ss y.tx)] 77)).kept hb (HJ.out.2.2.1.alloc _).lt; have e2 : w1.cell? ⟨w.heap.size, 2, none⟩ = _ := hr1.cell 2; have e3 := (hx1.cell (p := ⟨g2, k * 2, none⟩) HC3.out.1).trans HC3.out.2.1; have e4 := (hx1.cell (p := ⟨g2, k * 2 + 1, none⟩) HC3.out.1).trans HC3.out.2.2; have HR1 := hideIt hr1; have HG1 := hideIt hg1; clear hb ht1 hx1 hr1 hg1))
                go_quiet (fail)
                go_wp2_with fail
                go_ret3
                rw [HP.out]
                exact ⟨.inr ⟨one_ne, rfl⟩, below_drewN HX1.out _⟩
              | false =>
                rw [hq] at HCB
                have HQ : Hid (decide (y.n = 0 ∨ topF f < (y.n : Int)) = false) := decide_eq_false (fun h => h.elim h0 (fun h => absurd h (of_decide_eq_false hq)))
                have hxd : 0 ≤ (x.n : Int) ∧ (x.n : Int) < (d : Int) := by have := HXD.out; omega
                clear hq h0
                go_wp2_with (first
                  | (go_at_call 59; refine (HC.out _).mono ?_; rw [HCB.out]; rintro e w' ⟨rfl, rfl⟩)
                  | (go_at_call 68; have hmark := HX1.out; refine (HVX.out _).mono ?_; rintro e w2 ⟨rfl, hb⟩; have hg2 := HG1.out.kept hb HG1.out.lt; have cg : w2.cell? ⟨G, x.n, none⟩ = some (.int .i64 ((fillL (a.take k) (b.take k) (List.replicate d 0)).getD x.n 0)) := (hg2.cell x.n).trans (by rw [List.getElem?_map, List.getElem?_eq_getElem (by rw [fillL_len, List.length_replicate]; exact HXD.out), List.getD_eq_getElem?_getD, List.getElem?_eq_getElem (by rw [fillL_len, List.length_replicate]; exact HXD.out)]; rfl); have fg := hg2.free x.n; have HG2 := hideIt hg2; have HR2 := hideIt (HR1.out.kept hb HR1.out.lt); have HX2 := hideIt (hmark.trans (hb.mono hmark.size)); clear hb hg2 hmark)
                  | (go_at_call 68; refine (HV.out _).mono ?_; rintro e w1 ⟨rfl, hb⟩; have ht1 := (Blk.new wr 77 [.int .i64 (y.ps : Int), .string (ss y.tx)]).kept hb (Blk.new wr 77 [.int .i64 (y.ps : Int), .string (ss y.tx)]).lt; have ct : w1.cell? ⟨wr.heap.size, 0, none⟩ = _ := ht1.cell 0; have hx1 := ((HJ.out.1.alloc HJ.out.1.size (.cells #[.int .i64 (y.ps : Int), .string (ss y.tx)] 77)).trans (hb.mono (by have := HJ.out.1.size; simp; omega))); have HX1 := hideIt hx1; have hr1 := (HJ.out.2.1.alloc (.cells #[.int .i64 (y.ps : Int), .string (ss y.tx)] 77)).kept hb (HJ.out.2.1.alloc _).lt; have hg1 := (HJ.out.2.2.1.alloc (.cells #[.int .i64 (y.ps : Int), .string (ss y.tx)] 77)).kept hb (HJ.out.2.2.1.alloc _).lt; have e2 : w1.cell? ⟨w.heap.size, 2, none⟩ = _ := hr1.cell 2; have e3 := (hx1.cell (p := ⟨g2, k * 2, none⟩) HC3.out.1).trans HC3.out.2.1; have e4 := (hx1.cell (p := ⟨g2, k * 2 + 1, none⟩) HC3.out.1).trans HC3.out.2.2; have HR1 := hideIt hr1; have HG1 := hideIt hg1; clear hb ht1 hx1 hr1 hg1))
                go_roundg (gk - 1)
                case measure => omega
                case rel =>
                  refine ⟨k + 1, by omega, by go_num, below_set HX2.out (by have := HG0.out; omega) _ _, HR2.out.store_other (by have := HG0.out; omega), ?_, ?_⟩
                  · have := HG2.out.store x.n (.int .i64 (y.n : Int))
                    rw [HTA.out, HTB.out, fillL_snoc _ _ _ _ _ HLK.out, List.map_set]
                    exact this
                  · rw [HTB.out]
                    intro z hz
                    rcases List.mem_append.1 hz with h | h
                    · exact HJ.out.2.2.2 z h
                    · rw [List.mem_singleton] at h; rw [h]; exact HQ.out
          · obtain rfl : k = m := by omega
            have hji : ¬ (k : Int) < (k : Int) := by omega
            have HP : Hid (localB ⟨⟨tx, p, kd0, n0⟩, a, b⟩ d (topF f) = (fillL a b (List.replicate d 0), 0, 0)) := by
              show localB ⟨⟨tx, p, kd0, n0⟩, a, b⟩ d (topF f) = (fillL a b (List.replicate d 0), 0, 0)
              unfold localB
              dsimp only
              rw [HNO.out]
              dsimp only
              rw [if_neg (by rw [HLE.out]; simp), List.find?_eq_none.2 (fun y hy => by rw [HJ.out.2.2.2 y (by rw [List.take_of_length_le (by rw [← HM0.out]; exact Nat.le_refl _)]; exact hy)]; simp)]
              dsimp only
              rw [Int.toNat_natCast]
            go_wp2_with fail
            go_ret3
            rw [HP.out]
            have hln : (fillL a b (List.replicate d 0)).length = d := by rw [fillL_len, List.length_replicate]
            refine ⟨.inl ⟨rfl, some ⟨G, 0, none⟩, d, by rw [hln]; rfl, ?_⟩, HJ.out.1⟩
            unfold IR
            have hg0 := HJ.out.2.2.1
            rw [List.take_of_length_le (by rw [← HN0.out]; exact Nat.le_refl _), List.take_of_length_le (by rw [← HM0.out]; exact Nat.le_refl _)] at hg0
            rw [hln]
            exact blk_own hg0 (by have := HG0.out; omega) (by rw [List.length_map, hln]) (by unfold maxLen; omega)
      · rw [decide_eq_true (by omega)] at hne
        have HP : Hid (localB ⟨⟨tx, p, kd0, n0⟩, a, b⟩ d (topF f) = ([], p, 1)) := by
          show localB ⟨⟨tx, p, kd0, n0⟩, a, b⟩ d (topF f) = ([], p, 1)
          unfold localB
          dsimp only
          rw [HNO.out]
          dsimp only
          rw [if_pos (by rw [← HN0.out, ← HM0.out]; exact fun h => hmn h.symm)]
        clear hmn
        go_wp2_with fail
        go_quiet (fail)
        go_wp2_with fail
        go_ret3
        rw [HP.out]
        exact ⟨.inr ⟨one_ne, rfl⟩, below_drewN HI.out.2.2.1 _⟩


set_option maxHeartbeats 1000000 in
set_option maxRecDepth 100000 in
theorem cells_any (p : Nat) (tx : Bs) (va vb : Value) (f : Int) (hf : f = 8 ∨ f = 16) (d : Nat) (hd1 : 1 ≤ d) (hd2 : d ≤ 31) (x : Ln) (hla : x.a.length ≤ 100000) (hlb : x.b.length ≤ 100000) (B : Nat) (w : World) (hr : RowR w B x [.int .i64 (p : Int), sv tx, va, vb]) (hN : ∀ y ∈ x.a, NumT y) (hM : ∀ y ∈ x.b, NumT y) :
    Calls Tryz.prog 69 #[.agg #[.int .i64 (p : Int), sv tx, va, vb], .int .i64 f, .int .i64 (d : Int)] w fun e w' =>
      CellsE w.heap.size (rowB x d (topF f)) e w' ∧ Below w.heap.size w w' := by
  obtain ⟨⟨ktx, kps, kkd, kn⟩, a, b⟩ := x
  obtain ⟨va', vb', he, hc⟩ := hr
  have he' : p = kps ∧ tx = ktx ∧ va = va' ∧ vb = vb' := by
    injection he with e1 e2
    injection e2 with e2 e3
    injection e3 with e3 e4
    injection e4 with e4 _
    injection e1 with _ e1
    injection e2 with e2
    exact ⟨by exact_mod_cast e1, ss_inj.1 e2, e3, e4⟩
  obtain ⟨rfl, rfl, rfl, rfl⟩ := he'
  clear he
  dsimp only at hc hla hlb hN hM
  have hcl : binOp .eql 9 (sv tx) (.string ⟨#[108, 111, 99, 97, 108]⟩) = pure (.bool (decide (tx = kLocal))) := s_eql _ tx kLocal
  rcases hc with ⟨h1, h2, h3⟩ | ⟨h1, rfl, h2, rfl⟩
  · rw [decide_eq_true h1] at hcl
    obtain ⟨A1, c1, rfl, _⟩ := own_form h2
    obtain ⟨A2, c2, rfl, _⟩ := own_form h3
    have hb := below_new w (.cells #[.int .i64 (p : Int), .string (ss tx), .slice A1 a.length c1, .slice A2 b.length c2] 107)
    have HL := hideIt (localCells_any p tx A1 c1 A2 c2 f hf d hd1 hd2 a b hla hlb B (w.alloc (.cells #[.int .i64 (p : Int), .string (ss tx), .slice A1 a.length c1, .slice A2 b.length c2] 107)) (own_kept h2 hb) (own_kept h3 hb) hN hM kkd kn)
    have HB := hideIt hb
    have HRB : Hid (rowB ⟨⟨tx, p, kkd, kn⟩, a, b⟩ d (topF f) = localB ⟨⟨tx, p, kkd, kn⟩, a, b⟩ d (topF f)) := by
      show rowB _ _ _ = _
      unfold rowB
      rw [if_pos h1]
    clear h1 h2 h3 hb
    rw [HRB.out]
    generalize localB ⟨⟨tx, p, kkd, kn⟩, a, b⟩ d (topF f) = r at *
    go_enter Tryz.func69, Tryz.ntmps69
    go_wp2_with (go_at_call 97; refine HL.out.mono ?_; rintro e w1 ⟨⟨h0, A, c, rfl, ho⟩ | ⟨h0, rfl⟩, hb⟩ <;> have H0 := hideIt h0 <;> have HB1 := hideIt hb <;> clear h0 hb)
    · go_ret3
      exact ⟨.inl ⟨H0.out, A, c, rfl, own_low ho HB.out.size⟩, HB.out.trans (HB1.out.mono HB.out.size)⟩
    · go_ret3
      exact ⟨.inr ⟨H0.out, rfl⟩, HB.out.trans (HB1.out.mono HB.out.size)⟩
  · have hne : tx ≠ kLocal := by rw [h1]; decide
    rw [decide_eq_false hne] at hcl
    obtain ⟨A2, c2, rfl, _⟩ := own_form h2
    have hb := below_new w (.cells #[.int .i64 (p : Int), .string (ss tx), .slice none 0 0, .slice A2 a.length c2] 107)
    have HL := hideIt (parityCells_any p tx (.slice none 0 0) A2 c2 f hf d hd1 hd2 a [] B (w.alloc (.cells #[.int .i64 (p : Int), .string (ss tx), .slice none 0 0, .slice A2 a.length c2] 107)) rfl (own_kept h2 hb) hN kkd kn)
    have HB := hideIt hb
    have HRB : Hid (rowB ⟨⟨tx, p, kkd, kn⟩, a, []⟩ d (topF f) = parityB ⟨⟨tx, p, kkd, kn⟩, a, []⟩ d (topF f)) := by
      show rowB _ _ _ = _
      unfold rowB
      rw [if_neg hne]
    clear h1 h2 hb hne
    rw [HRB.out]
    generalize parityB ⟨⟨tx, p, kkd, kn⟩, a, []⟩ d (topF f) = r at *
    go_enter Tryz.func69, Tryz.ntmps69
    go_wp2_with (go_at_call 98; refine HL.out.mono ?_; rintro e w1 ⟨⟨h0, A, c, rfl, ho⟩ | ⟨h0, rfl⟩, hb⟩ <;> have H0 := hideIt h0 <;> have HB1 := hideIt hb <;> clear h0 hb)
    · go_ret3
      exact ⟨.inl ⟨H0.out, A, c, rfl, own_low ho HB.out.size⟩, HB.out.trans (HB1.out.mono HB.out.size)⟩
    · go_ret3
      exact ⟨.inr ⟨H0.out, rfl⟩, HB.out.trans (HB1.out.mono HB.out.size)⟩

end Go.Proofs.YtcogkdnlpjfgdaaGreatDoor
