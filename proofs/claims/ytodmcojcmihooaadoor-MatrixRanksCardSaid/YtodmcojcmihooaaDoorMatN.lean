/-
  Independent and Rank, walked.
-/
import Derived.Test.YtodmcojcmihooaaDoorMatG
namespace Go.Proofs.YtodmcojcmihooaaDoor
open Go.RowKit
set_option linter.unusedVariables false

theorem own_ints {w : World} {base n c : Nat} {A : Option Addr} {f : Nat → Nat} (h : w.ownsRow base 3 1 (.slice A n c) n ((nl n f).map iv)) : ∃ g, Ints w A g 0 n f ∧ (0 < n → base ≤ g ∧ ∀ j, w.frozen? ⟨g, j, none⟩ = false) := by
  rcases h.2 with ⟨h0, h1⟩ | ⟨g, cap, cur, hv, hb, hg, h1, h2, h3, h4⟩
  · have hn : n = 0 := h1
    subst hn
    exact ⟨0, ⟨fun q => by omega, fun q => by omega, fun j hj => by omega⟩, fun q => by omega⟩
  · injection hv with e1 e2 e3
    subst e1
    refine ⟨g, ⟨fun _ => rfl, fun _ => (Array.getElem?_eq_some_iff.1 hg).1, fun j hj => ?_⟩, fun _ => ⟨hb, fun j => ?_⟩⟩
    · have := h.cells (g := g) rfl j (.int .i64 (f j : Int)) (iv_at hj)
      rw [addr_add] at this
      exact this
    · simp [World.frozen?, hg]
theorem MRes.mk {W w' : World} {m R C : Nat} {M : Mx} {x : Int} {e : Ending} (h : MRes W (mkM m R C M, x) e w') : ∃ A c, e = .returned (.tuple #[mtV (m : Int) (R : Int) (C : Int) (.slice A (R * C) c), .int .i64 x]) ∧
    w'.ownsRow W.heap.size 3 1 (.slice A (R * C) c) (R * C) ((nl (R * C) (gl C M)).map iv) ∧ R * C ≤ c ∧ c ≤ maxLen ∧ Below W.heap.size W w' := by
  obtain ⟨s, he, ho, hb⟩ := h
  have ho2 : w'.ownsRow W.heap.size 3 1 s (mkM m R C M).l.length ((nl (R * C) (gl C M)).map iv) := ho
  rw [mk_len] at ho2
  obtain ⟨A, c, rfl, h1, h2⟩ := own_form ho2
  exact ⟨A, c, he, ho2, h1, h2, hb⟩
/-- Slices as cells. -/
def hl (n : Nat) (hv : Nat → Value) : List Value := (List.range n).map hv
theorem hl_len (n : Nat) (hv : Nat → Value) : (hl n hv).length = n := by unfold hl; simp
theorem hl_at {n : Nat} (hv : Nat → Value) {k : Nat} (hk : k < n) : (hl n hv)[k]? = some (hv k) := by unfold hl; simp [hk]
theorem hl_set {n : Nat} (hv : Nat → Value) (i : Nat) (v : Value) (hi : i < n) : (hl n hv).set i v = hl n (fun k => if k = i then v else hv k) := by
  apply List.ext_getElem?
  intro k
  rw [List.getElem?_set]
  by_cases hk : k < n
  · rw [hl_at _ hk, hl_at _ hk, hl_len]
    by_cases e : i = k
    · rw [if_pos e, if_pos hi, if_pos e.symm]
    · rw [if_neg e, if_neg (Ne.symm e)]
  · rw [List.getElem?_eq_none (by rw [hl_len]; omega), List.getElem?_eq_none (by rw [hl_len]; omega), hl_len]
    rw [if_neg (by omega)]
theorem hl_congr {n : Nat} {f g : Nat → Value} (h : ∀ k, k < n → f k = g k) : hl n f = hl n g := by
  unfold hl
  apply List.map_congr_left
  intro k hk
  exact h k (List.mem_range.1 hk)
/-- 'make([][]int, n)': a block of nil slices. -/
theorem wpList_hdrs (w : World) {ops : Array Oper} {rest : List Oper} {o : Oper} {a : Act} {Q : Exit → Act → World → Prop} (hg : o.guard = none) (l c : Operand) (hop : o.op = Op.makeSlice 51 l c)
    (n : Nat) (hl' : a.eval l = .int .i64 (n : Int)) (hc : a.eval c = .int .i64 (n : Int)) (hn : n ≤ 100000)
    (hK : ∀ w', Hid (Blk w' w.heap.size 22 (hl n fun _ => .slice none 0 0)) → Hid (Below w.heap.size w w') → wpList Tryd.prog ops Q rest (a.put o.dst (.slice (some ⟨w.heap.size, 0, none⟩) n n)) w') :
    wpList Tryd.prog ops Q (o :: rest) a w := by
  obtain ⟨i0, hi, hz0, hz1, hz2⟩ := info_parts (show (Tryd.prog.info? 22).map (fun i => (i.zero, i.size, i.bytes)) = some (some (Value.slice none 0 0), 1, 24) by kernel_rfl)
  refine wpList_make_full w hg l c 51 hop w.heap.size 22 i0 (.slice none 0 0) 1 Tryd.underlying51 hi hz0 hz1 .i64 .i64 (n : Int) (n : Int) n hl' hc rfl rfl (by rw [hz2]; omega) (by unfold maxLen; omega) (Nat.le_refl _) ?_
  intro w2 hown hgr
  have hb := (own_blk hown).1
  rw [Nat.mul_one, show (madeCells (Value.slice none 0 0).cells n).toList = List.replicate n (.slice none 0 0) from toList_madeCells_one _ n, show List.replicate n (Value.slice none 0 0) = hl n fun _ => .slice none 0 0 by unfold hl; rw [List.map_const', List.length_range]] at hb
  exact hK w2 hb ((Below.refl w.heap.size w).grown hgr (Nat.le_refl _) (by simp))

/-- What Independent answers. -/
def pvL (pv : List Nat) : List Int := nl pv.length fun k => pv.getD k 0
def indM (a : Mt) : List Int := if vM a = true then pvL (red a.F.toNat a.C.toNat (tr a.e) a.R.toNat).2 else []
def rankM (a : Mt) : Int := if vM a = true then ((indM a).length : Int) else -1
def LRes (w : World) (l : List Int) (e : Ending) (w' : World) : Prop := ∃ v, e = .returned v ∧ w'.ownsRow w.heap.size 3 1 v l.length (l.map iv) ∧ Below w.heap.size w w'

set_option maxHeartbeats 2000000 in
set_option maxRecDepth 100000 in
theorem indep_any (a : Mt) (A : Option Addr) (c : Nat) (w : World) (hT : Tabs w) (hs : MIn w a A c) :
    Calls Tryd.prog 28 #[mtV a.F a.R a.C (.slice A a.l.length c)] w (LRes w (indM a)) := by
  have HTR := hideIt (fun W (hW : Below w.heap.size w W) => transp_any a A c W (hT.keep hW) (hs.keep hW))
  obtain ⟨l, hl0⟩ : ∃ l, l = indM a := ⟨_, rfl⟩
  rw [← hl0]
  have HL := hideIt hl0
  clear hl0
  by_cases hv : vM a = true
  · have HL2 : Hid (l = pvL (red a.F.toNat a.C.toNat (tr a.e) a.R.toNat).2) := hideIt (by rw [HL.out]; exact if_pos hv)
    rw [show trM a = (mkM a.F.toNat a.C.toNat a.R.toNat (tr a.e), 0) from if_pos hv] at HTR
    obtain ⟨m, R, C, hm, hR, hC, hE, ha⟩ := vM_is hv
    generalize a.e = E at ha hE HL2 HTR
    subst ha
    rw [mk_len] at HTR ⊢
    change Hid (∀ W, Below w.heap.size w W → Calls Tryd.prog 14 #[mtV (m : Int) (R : Int) (C : Int) (.slice A (R * C) c)] W (MRes W (mkM ((m : Int)).toNat ((C : Int)).toNat ((R : Int)).toNat (tr E), 0))) at HTR
    show Calls Tryd.prog 28 #[mtV (m : Int) (R : Int) (C : Int) (.slice A (R * C) c)] w _
    change Hid (l = pvL (red ((m : Int)).toNat ((C : Int)).toNat (tr E) ((R : Int)).toNat).2) at HL2
    rw [Int.toNat_natCast, Int.toNat_natCast, Int.toNat_natCast] at HL2 HTR
    have HE := hideIt (show Vm m (tr E) from fun i j => hE j i)
    have HM := hideIt hm
    have HTT := hideIt hT
    clear hv hE hs hT HL hm
    generalize tr E = F at *
    go_enter Tryd.func28, Tryd.ntmps28
    go_wp2_with fail
    refine (HTR.out _ (below_new w _)).mono ?_
    rintro e w2 hM
    obtain ⟨A', c', rfl, ho, hc1, hc2, hb⟩ := hM.mk
    obtain ⟨gt, hI, hg⟩ := own_ints ho
    have HW2 := hideIt ((below_new w (.cells (mtC (m : Int) (R : Int) (C : Int) (.slice A (R * C) c)).toArray 24)).trans (hb.mono (by simp)))
    have HI := hideIt hI
    have HG := hideIt (show 0 < C * R → w.heap.size + 1 ≤ gt ∧ ∀ j, w2.frozen? ⟨gt, j, none⟩ = false from fun h0 => by have h := hg h0; rw [World.size_alloc] at h; exact h)
    have hsz2 : w.heap.size + 1 ≤ w2.heap.size := by have := hb.size; rw [World.size_alloc] at this; exact this
    unfold maxLen at hc2
    clear hM ho hI hg hb HTR
    have HB3 := hideIt (Blk.new w2 24 (mtC (m : Int) (C : Int) (R : Int) (.slice A' (C * R) c')))
    have HW3 := hideIt (below_new w2 (.cells (mtC (m : Int) (C : Int) (R : Int) (.slice A' (C * R) c')).toArray 24))
    go_wp2_with ((with_reducible refine at_make ?_); refine wpList_hdrs _ rfl (.tmp 15) (.tmp 15) rfl C rfl rfl (by omega) ?_; intro w4 HB4 HW4)
    rw [World.size_alloc] at HB4 HW4
    obtain ⟨p3, hp3⟩ : ∃ p3, p3 = w2.heap.size := ⟨_, rfl⟩
    have hW24 : Below w2.heap.size w2 w4 := HW3.out.trans (HW4.out.mono (by omega))
    have HW4b := hideIt (HW2.out.trans (hW24.mono (by omega)))
    have HI4 := hideIt (HI.out.below hW24 HI.out.lt)
    have HG4 := hideIt (show 0 < C * R → w.heap.size + 1 ≤ gt ∧ gt < p3 ∧ ∀ j, w4.frozen? ⟨gt, j, none⟩ = false from fun h0 => ⟨(HG.out h0).1, by rw [hp3]; exact HI.out.lt h0, fun j => (hW24.frozen (p := ⟨gt, j, none⟩) (HI.out.lt h0)).trans ((HG.out h0).2 j)⟩)
    have HP3 := hideIt (show Blk w4 p3 24 (mtC (m : Int) (C : Int) (R : Int) (.slice A' (C * R) c')) by rw [hp3]; exact HB3.out.kept HW4.out (by omega))
    obtain ⟨g, hg⟩ : ∃ g, g = p3 + 1 := ⟨_, rfl⟩
    have hgw : w.heap.size + 2 ≤ g := by omega
    rw [← hp3, ← hg] at HB4 ⊢
    have HGP := hideIt hg
    clear hp3 hg hW24 HW2 HI HG HB3 HW3 HW4 hsz2
    go_loopg [19] C (fun gk s19 wr => ∃ i : Nat, i + gk = C ∧ s19 = .int .i64 (i : Int) ∧ Aside (Sel (fun k _ => k = g) w4 wr ∧ Blk wr g 22 (hl C fun k => if k < i then .slice (rowA A' c' (k * R)) R (c' - k * R) else .slice none 0 0)))
    case atStart => exact ⟨0, by omega, rfl, Sel.refl _ _, by rw [hl_congr (g := fun _ => .slice none 0 0) (fun k _ => by rw [if_neg (by omega)])]; exact HB4.out⟩
    case round =>
      obtain ⟨i, hi, rfl, HA⟩ := hrel
      by_cases hlt : i < C
      · have hinc := inc_c 3 i (by omega)
        have hiC : (i : Int) < (C : Int) := by omega
        have HBX := hideIt (HA.out.1.at_ HP3.out (by have := HGP.out; omega))
        have HROW := hideIt (fun W => row_any (m : Int) C R A' (C * R) c' i hlt (by omega) (by omega) (Nat.le_refl _) hc1 W)
        have HSL := hideIt HA.out.1
        have HBG := hideIt HA.out.2
        clear HA HB4
        obtain ⟨D, hD⟩ : ∃ D, D = rowA A' c' (i * R) := ⟨_, rfl⟩
        obtain ⟨cc, hcc⟩ : ∃ cc, cc = c' - i * R := ⟨_, rfl⟩
        rw [← hD, ← hcc] at HROW
        have HDD := hideIt (And.intro hD hcc)
        clear hD hcc
        go_wp2_with (first
          | ((with_reducible refine at_load ?_); refine wpList_ldM rfl (.tmp 3) rfl p3 _ _ _ _ rfl HBX.out ?_)
          | (go_at_call 36; refine (HROW.out _).mono ?_; rintro e w7 ⟨rfl, hb7⟩; have HB7 := hideIt (HBG.out.kept hb7 HBG.out.lt); have HS7 := hideIt (HSL.out.trans (Sel.of_below _ hb7)); have hcell := (HB7.out.cell i).trans (hl_at _ hlt); have hfr := HB7.out.free i; clear hb7))
        go_roundg (gk - 1)
        case measure => omega
        case rel =>
          refine ⟨i + 1, by omega, by go_num, HS7.out.setCell (S := fun k _ => k = g) rfl _, ?_⟩
          have h := HB7.out.store i (.slice D R cc)
          rw [hl_set _ _ _ hlt] at h
          rw [hl_congr (g := fun k => if k = i then Value.slice D R cc else if k < i then .slice (rowA A' c' (k * R)) R (c' - k * R) else .slice none 0 0) (fun k _ => ?_)]
          · exact h
          · by_cases e : k = i
            · rw [if_pos e, if_pos (by omega), HDD.out.1, HDD.out.2, e]
            · rw [if_neg e]
              by_cases e2 : k < i
              · rw [if_pos e2, if_pos (by omega)]
              · rw [if_neg e2, if_neg (by omega)]
      · have hiC : ¬ (i : Int) < (C : Int) := by omega
        obtain rfl : i = C := by omega
        have HSL := hideIt HA.out.1
        have HBG := hideIt HA.out.2
        have HBX := hideIt (HA.out.1.at_ HP3.out (by have := HGP.out; omega))
        clear HA HB4
        have x0 := HBX.out.cell 0
        have x2 := HBX.out.cell 2
        have hEM : EM wr (w.heap.size + 1) g i R ⟨fun k => rowA A' c' (k * R), fun _ => gt, fun k => k * R, fun k => c' - k * R⟩ F := by
          have hle : ∀ k, k < i → k * R + R ≤ i * R := fun k hk => by
            have h := Nat.mul_le_mul_right R (show k + 1 ≤ i from hk)
            rw [Nat.add_mul, Nat.one_mul] at h; exact h
          have hpos : ∀ k j, k < i → j < R → 0 < i * R := fun k j hk hj => by have := hle k hk; omega
          have hgtg : 0 < i * R → gt ≠ g := fun h0 => by have := (HG4.out h0).2.1; have := HGP.out; omega
          refine ⟨HBG.out.lt, by omega, fun k hk => ?_, fun k hk => HBG.out.free k, fun k hk => ⟨by have := hle k hk; show R ≤ c' - k * R; omega, by show c' - k * R ≤ maxLen; unfold maxLen; omega⟩, fun k hk => ?_, fun h0 k hk => ?_, fun k hk j hj => ?_, fun k k2 hk hk2 hne j l hj hl e => ?_⟩
          · rw [HBG.out.cell, hl_at _ hk, if_pos hk]
          · have h := HI4.out.row hk hc1
            rw [Nat.zero_add] at h
            exact h.sel HSL.out (fun j hj e => hgtg (hpos k j hk hj) e)
          · have hp := hpos k 0 hk h0
            exact ⟨(HG4.out hp).1, hgtg hp⟩
          · have hp := hpos k j hk hj
            exact (HSL.out.frozen gt _ (HI4.out.lt hp)).trans ((HG4.out hp).2.2 _)
          · have e : k * R + j = k2 * R + l := e.2
            rcases Nat.lt_or_ge k k2 with h | h
            · have := Nat.mul_le_mul_right R (show k + 1 ≤ k2 from h)
              rw [Nat.add_mul, Nat.one_mul] at this
              omega
            · have := Nat.mul_le_mul_right R (show k2 + 1 ≤ k by omega)
              rw [Nat.add_mul, Nat.one_mul] at this
              omega
        have hbw : Below w.heap.size w wr := HW4b.out.trans (HSL.out.below HW4b.out.size (fun k o hk q => by omega))
        have HEL := hideIt (elim_any m (w.heap.size + 1) g i R R i HM.out _ F HE.out wr (HTT.out.keep hbw) (by have := HTT.out.lo; omega) (by have := hEM.glt; omega) (by omega) (by omega) (Nat.le_refl _) hEM)
        have HBW := hideIt hbw
        have HLOW := hideIt hEM.low
        clear hEM hbw
        go_wp2_with fail
        refine HEL.out.mono ?_
        rintro e w8 ⟨v, D', rfl, ho, hem, hsel⟩
        have HO := hideIt ho
        have HS8 := hideIt hsel
        clear ho hem hsel
        go_wp2_with fail
        go_ret
        refine ⟨v, rfl, ?_, HBW.out.trans (HS8.out.below HBW.out.size (fun k o hk q => ?_))⟩
        · rw [HL2.out]
          show w8.ownsRow w.heap.size 3 1 v (nl (red m i F R).2.length _).length _
          rw [nl_len]
          exact own_low HO.out HBW.out.size
        · rcases q with q | ⟨h0, j, hj, q⟩
          · omega
          · have := (HLOW.out h0 j hj).1
            omega
  · have HL2 : Hid (l = []) := hideIt (by rw [HL.out]; exact if_neg hv)
    rw [show trM a = (zeroM, 1) from if_neg hv] at HTR
    clear hv hs hT HL
    generalize a.l.length = n at *
    generalize a.F = F at *
    generalize a.R = R at *
    generalize a.C = C at *
    go_enter Tryd.func28, Tryd.ntmps28
    go_wp2_with fail
    refine (HTR.out _ (below_new w _)).mono ?_
    rintro e w2 ⟨s, rfl, ho, hb⟩
    obtain ⟨A', c', rfl, hc1, hc2⟩ := own_form ho
    have HW2 := hideIt ((below_new w (.cells (mtC F R C (.slice A n c)).toArray 24)).trans (hb.mono (by simp)))
    clear ho hb HTR
    go_wp2_with fail
    go_ret
    refine ⟨.slice none 0 0, rfl, by rw [HL2.out]; exact World.ownsRow_nil _ _ _ _, HW2.out.alloc HW2.out.size _⟩

end Go.Proofs.YtodmcojcmihooaaDoor
