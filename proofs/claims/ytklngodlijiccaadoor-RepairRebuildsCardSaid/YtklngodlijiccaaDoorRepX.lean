/-
  The reference's Plan, walked.
-/
import Derived.Test.YtklngodlijiccaaDoorRepW
namespace Go.Proofs.YtklngodlijiccaaDoor
open Go.RowKit
set_option linter.unusedVariables false
set_option linter.unusedSimpArgs false

/-- The checks that contain u, by their indices. -/
def ixs (x : Cd) (u : Int) (p : Nat) : List Nat := (List.range p).filter fun i => hasZ (chk x i) u
theorem chks_ixs (x : Cd) (u : Int) (p : Nat) : chks x u p = (ixs x u p).map (chk x) := by unfold chks ixs; rw [List.filter_map]; rfl
noncomputable def besI (x : Cd) (hs : List Bool) (u k : Nat) : Option (List (Nat × Nat)) := ((ixs x (u : Int) x.par.length).take k).foldl (stpP x hs u) (bes0 x hs u)
theorem foldl_filt {α : Type} (p : Nat → Bool) (f : α → Nat → α) (h : ∀ b i, p i = false → f b i = b) : ∀ (l : List Nat) (b : α), (l.filter p).foldl f b = l.foldl f b
  | [], _ => rfl
  | i :: l, b => by
    cases hp : p i with
    | true => rw [List.filter_cons, if_pos hp]; exact foldl_filt p f h l _
    | false => rw [List.filter_cons, if_neg (by rw [hp]; decide), List.foldl_cons, h b i hp]; exact foldl_filt p f h l b
theorem besI_all (x : Cd) (hs : List Bool) (u : Nat) : besI x hs u (ixs x (u : Int) x.par.length).length = besK x hs u x.par.length := by
  unfold besI besK
  rw [List.take_length]
  exact foldl_filt _ _ (fun b i hp => by unfold stpP cand; rw [hp, Bool.false_and, if_neg (by decide)]) _ _
theorem besI_next (x : Cd) (hs : List Bool) (u : Nat) {k : Nat} (hk : k < (ixs x (u : Int) x.par.length).length) : besI x hs u (k + 1) = stpP x hs u (besI x hs u k) (ixs x (u : Int) x.par.length)[k] := by
  unfold besI
  rw [take_snoc _ k hk, List.foldl_append]; rfl
/-- What Plan leaves. -/
def PlRes (w : World) (r : (Int × List (Nat × Nat)) × Int) (e : Ending) (w' : World) : Prop :=
  ∃ A c, e = .returned (.tuple #[.agg #[.int .i64 r.1.1, .slice A r.1.2.length c], .int .i64 r.2]) ∧ Sl w' w'.heap.size A 2 r.1.2.length (tcs r.1.2) ∧ (∀ b o, A = some ⟨b, o, none⟩ → w.heap.size ≤ b) ∧ Below w.heap.size w w'
/-- The best candidate so far. -/
def Bst (B : Nat) (W : World) (v : Value) (b : Option (List (Nat × Nat))) : Prop := ∀ L, b = some L → L.length ≤ 100 ∧ ∃ A c, v = .slice A L.length c ∧ Sl W W.heap.size A 2 L.length (tcs L) ∧ ∀ b o, A = some ⟨b, o, none⟩ → B ≤ b
theorem Bst.keep {B : Nat} {W W' : World} {v : Value} {b : Option (List (Nat × Nat))} (h : Bst B W v b) (hb : Below W.heap.size W W') : Bst B W' v b := fun L hL => by
  obtain ⟨h1, A, c, e, hs, hl⟩ := h L hL
  exact ⟨h1, A, c, e, (hs.below hb).wide hb.size, hl⟩
theorem own_lo {w : World} {base size n c : Nat} {e : TypeId} {A : Option Addr} {xs : List Value} (h : w.ownsRow base e size (.slice A n c) n xs) : ∀ b o, A = some ⟨b, o, none⟩ → base ≤ b := fun b o hA => by
  rcases h.2 with ⟨h0, _⟩ | ⟨g, cap, cur, hv, hb, _⟩
  · subst hA; cases h0
  · subst hA
    injection hv with hv1
    injection hv1 with hv1
    injection hv1 with hv1
    subst hv1
    exact hb
theorem Sl.turned {w w' : World} {B g size n : Nat} {A : Option Addr} {xs : List Value} (h : Sl w B A size n xs) (ht : Turned g w w') (hne : ∀ b o, A = some ⟨b, o, none⟩ → b ≠ g) : Sl w' B A size n xs :=
  ⟨h.1, fun h0 => by
    obtain ⟨b, o, e, hb, hc⟩ := h.2 h0
    exact ⟨b, o, e, hb, fun j y hj => by rw [ht.cell (hne b o e)]; exact hc j y hj⟩⟩
theorem iszP : (Tryd.prog.info? 30).map (·.size) = some 2 := by kernel_rfl
section
variable {ops : Array Oper} {rest : List Oper} {o : Oper} {a : Act} {Q : Exit → Act → World → Prop} {w : World}
/-- Appending one truth value. -/
theorem wpList_apB {y : Bool} (hgd : o.guard = none) (hs0 : Operand) (hx0 : Operand) (ho : o.op = .call { callee := .builtin .append, args := #[hs0, hx0], argTypes := #[25, 25] })
    {base : Nat} {v : Value} {n : Nat} {us : List Bool} (hs : a.eval hs0 = v) (hown : w.ownsRow base 4 1 v n (us.map bl)) (hx : a.eval hx0 = .slice (some ⟨w.heap.size, 0, none⟩) 1 1) (hn : n + 1 ≤ 100000) (hbase : base ≤ w.heap.size)
    (h : ∀ v' w', Hid (w'.ownsRow base 4 1 v' (n + 1) ((us ++ [y]).map bl)) → Hid ((w.alloc (.cells #[.bool y] 4)).grownBy w' v.ownBlock) → Hid (v'.ownBlock = v.ownBlock ∨ v'.ownBlock = some (w.alloc (.cells #[.bool y] 4)).heap.size) → Hid (Below base w w') → wpList Tryd.prog ops Q rest (a.put o.dst v') w') :
    wpList Tryd.prog ops Q (o :: rest) a (w.alloc (.cells #[.bool y] 4)) :=
  wpList_ap1 (z := .bool false) (size := 1) (bytes := 1) Tryd.underlying25 (by kernel_rfl) rfl (by decide) (by decide) hgd hs0 hx0 ho hs hown hx rfl (ones_one rfl) hn hbase fun v' w' q1 q2 q3 q4 => h v' w' (by rw [List.map_append]; exact q1) q2 q3 q4
end
/-- The present units other than u, up to j. -/
def otK (hs : List Bool) (u j : Nat) : List Bool := (List.range j).map fun q => hs.getD q false && decide (q ≠ u)
theorem otK_next (hs : List Bool) (u j : Nat) : otK hs u (j + 1) = otK hs u j ++ [hs.getD j false && decide (j ≠ u)] := by unfold otK; rw [List.range_succ, List.map_append]; rfl
theorem otK_all (hs : List Bool) (u : Nat) : otK hs u hs.length = ot hs u := by
  refine List.ext_getElem (by unfold otK; rw [List.length_map, List.length_range, ot_len]) fun i h1 h2 => ?_
  have h3 : (ot hs u)[i] = (ot hs u).getD i false := by simp [List.getD_eq_getElem?_getD, h2]
  rw [h3, ot_getD]
  simp only [otK, List.getElem_map, List.getElem_range]
theorem gDb {l : List Bool} {k : Nat} (h : k < l.length) : l.getD k false = l[k] := by simp [List.getD_eq_getElem?_getD, h]
set_option maxHeartbeats 4000000 in
set_option maxRecDepth 100000 in
theorem rplan_any (x : Cd) (A : Option Addr) (c : Nat) (w : World) (hx : CIn w x A) (hsm : Sm x) (hs : List Bool) (D : Option Addr) (cd : Nat) (hD : Sl w w.heap.size D 1 hs.length (hs.map bl)) (u : Int) :
    Calls Tryd.prog 13 #[x.v A c, .slice D hs.length cd, .int .i64 u] w (PlRes w (planR x hs u)) := by
  obtain ⟨W1, hW1⟩ : ∃ W, W = w.alloc (.cells (x.cs A c).toArray 24) := ⟨_, rfl⟩
  obtain ⟨W, hW⟩ : ∃ W, W = W1.alloc (.cells #[.int .i64 0, .slice none 0 0] 30) := ⟨_, rfl⟩
  have hb1 : Below w.heap.size w W1 := by rw [hW1]; exact below_new w _
  have hb2 : Below W1.heap.size W1 W := by rw [hW]; exact below_new W1 _
  have hbw := hb1.trans (hb2.mono hb1.size)
  have hs1 : W1.heap.size = w.heap.size + 1 := by rw [hW1]; simp
  have hs2 : W.heap.size = w.heap.size + 2 := by rw [hW]; simp [hs1]
  have HS2 := hideIt hs2
  have HB := hideIt hbw
  have HBC := hideIt (show BC W w.heap.size x A c by
    have : BC W1 w.heap.size x A c := by rw [hW1]; exact BC.new c hx
    exact this.keep hb2)
  have HPL := hideIt (show Blk W (w.heap.size + 1) 30 [.int .i64 0, .slice none 0 0] by
    rw [← hs1, hW]; exact Blk.new W1 30 [.int .i64 0, .slice none 0 0])
  have HSD := hideIt ((hD.below hbw).wide hbw.size)
  have HV := hideIt (rwidth_any x A c W HBC.out.cin hsm)
  have HWE1 := hideIt hW1
  have HWE := hideIt hW
  have hnot := not_b
  clear hb1 hb2 hbw hs1 hs2 hx hD hW hW1
  by_cases hok : okB x hs = true ∧ idxB hs u = true
  · obtain ⟨hok1, hidx⟩ := hok
    have hv : vC x = true := by unfold okB at hok1; rw [Bool.and_eq_true] at hok1; exact hok1.1
    obtain ⟨m, n, hvc⟩ := vC_spec hv
    have hlz : (hs.length : Int) = x.data + x.par.length := by unfold okB at hok1; rw [Bool.and_eq_true] at hok1; exact of_decide_eq_true hok1.2
    have hwz : wC x = (hs.length : Int) := (if_pos hv).trans hlz.symm
    have hln : hs.length = n + x.par.length := by have := hvc.d; omega
    have hwid := hvc.wid
    obtain ⟨k, rfl⟩ : ∃ k : Nat, u = (k : Int) := ⟨u.toNat, by have := of_decide_eq_true hidx; omega⟩
    have hkN : k < hs.length := by have := of_decide_eq_true hidx; omega
    have HR := hideIt (show planR x hs (k : Int) = (match besK x hs k x.par.length with | some l => (((k : Int), l), 0) | none => ((0, []), 11)) by
      unfold planR
      rw [if_pos ⟨hok1, hidx⟩, Int.toNat_natCast]
      cases besK x hs k x.par.length <;> rfl)
    have HBA := hideIt (besI_all x hs k)
    have hq0 := i_eql 3 .i64 (hs.length : Int) 0
    rw [decide_eq_false (by omega)] at hq0
    have hq1 := i_neq 3 .i64 (hs.length : Int) (hs.length : Int)
    rw [decide_eq_false (fun h => h rfl)] at hq1
    have h6 : ¬ (k : Int) < 0 := by omega
    have h7 : ¬ (k : Int) ≥ (hs.length : Int) := by omega
    rw [hwz] at HV
    have HVC := hideIt hvc
    have HOK := hideIt hok1
    have HIX := hideIt hidx
    have hp8 := hsm.par
    obtain ⟨N, hN⟩ : ∃ N, N = hs.length := ⟨_, rfl⟩
    have HN := hideIt hN
    rw [← hN] at HV hq0 hq1 h7 hln hkN
    have HLN := hideIt hln
    have hN40 : N ≤ 40 := by omega
    rw [← hN]
    clear hv hlz hwz hok1 hidx hvc hln hwid hN
    go_enter Tryd.func13, Tryd.ntmps13
    go_wp2_with (first
      | ((with_reducible refine at_load ?_); refine wpList_ldC (by kernel_rfl) (.tmp 3) rfl (p := w.heap.size) (c := c) rfl (by rw [← HWE1.out, ← HWE.out]; exact HBC.out.box) ?_)
      | (go_at_call 27; rw [← HWE1.out, ← HWE.out]; refine HV.out.mono ?_; rintro e w1 ⟨rfl, hb1⟩; have HB1 := hideIt hb1; clear hb1 HV))
    simp only [show decide (N ≤ k) = false from decide_eq_false (by omega), show decide ((k : Int) < 0) = false from decide_eq_false (by omega), Bool.or_false]
    clear hq0 hq1 h6 h7
    go_loopg [9, 10] N (fun gk s9 s10 wr => ∃ j : Nat, j + gk = N ∧ s10 = .int .i64 (j : Int) ∧ Aside (wr.ownsRow W.heap.size 4 1 s9 j ((otK hs k j).map bl)) ∧ Aside (Below W.heap.size W wr))
    case atStart => exact ⟨0, by omega, rfl, World.ownsRow_nil _ _ _ _, HB1.out⟩
    case round =>
      obtain ⟨j, hj, rfl, HO2, HL⟩ := hrel
      obtain ⟨w4, rfl⟩ : ∃ x, x = wr := ⟨wr, rfl⟩
      have HSZ := hideIt HL.out.size
      obtain ⟨A3, c3v, hv3, _, _⟩ := own_form HO2.out
      subst hv3
      by_cases hlt : j < N
      · have hlt2 : j < hs.length := by rw [← HN.out]; exact hlt
        obtain ⟨b, o, v, rfl, hb, hv, hc⟩ := (HSD.out.below HL.out).at_ hlt2
        rw [List.getElem?_map, List.getElem?_eq_getElem hlt2] at hv
        injection hv with hv
        subst hv
        change w4.cell? ⟨b, o + j, none⟩ = some (.bool hs[j]) at hc
        have HNX := hideIt (otK_next hs k j)
        rw [gDb hlt2] at HNX
        have hinc := inc_c 3 j (by omega)
        have hki : (j : Int) < (N : Int) := by omega
        have hki2 : (j : Int) < (hs.length : Int) := by omega
        have hne := i_neq 3 .i64 (j : Int) (k : Int)
        rw [show decide ((j : Int) ≠ (k : Int)) = decide (j ≠ k) from decide_eq_decide.2 ⟨fun h e => h (by omega), fun h e => h (by omega)⟩] at hne
        generalize decide (j ≠ k) = dn at *
        generalize hs[j] = bb at *
        clear hb hlt2
        cases bb with
        | false =>
          go_wp2_with ((with_reducible refine at_append ?_); refine wpList_apB (y := false) (n := j) (us := otK hs k j) rfl (.tmp 44) (.tmp 54) rfl rfl HO2.out rfl (by omega) HSZ.out ?_; intro v8 w8 HO8 HG8 HA8 HB8)
          go_roundg (gk - 1)
          case measure => omega
          case rel => exact ⟨j + 1, by omega, by go_num, by rw [HNX.out]; exact HO8.out, HL.out.trans HB8.out⟩
        | true =>
          go_wp2_with ((with_reducible refine at_append ?_); refine wpList_apB (y := dn) (n := j) (us := otK hs k j) rfl (.tmp 44) (.tmp 54) rfl rfl HO2.out rfl (by omega) HSZ.out ?_; intro v8 w8 HO8 HG8 HA8 HB8)
          go_roundg (gk - 1)
          case measure => omega
          case rel => exact ⟨j + 1, by omega, by go_num, by rw [HNX.out]; exact HO8.out, HL.out.trans HB8.out⟩
      · have hki : ¬ (j : Int) < (N : Int) := by omega
        have hjN : N = j := by omega
        subst hjN
        have ho3 := Sl.of_own HO2.out
        have hotl : (ot hs k).length = hs.length := ot_len hs k
        rw [HN.out, otK_all, ← HN.out] at ho3
        have HS3 := hideIt ho3
        have hcm := rcomb_any x A c w4 (HBC.out.keep HL.out).cin hsm (ot hs k) A3 c3v (by rw [hotl, ← HN.out]; exact ho3) (k : Int)
        rw [hotl, ← HN.out] at hcm
        have HCM := hideIt hcm
        have HB0 := hideIt (show bes0 x hs k = if (combR x (ot hs k) (k : Int)).2 = 0 then some (combR x (ot hs k) (k : Int)).1 else none from rfl)
        have HB0L := hideIt (fun L (h : bes0 x hs k = some L) => (bes0_good HVC.out HOK.out (by rw [← HN.out]; exact hkN) h).len)
        have HBX4 := hideIt (HBC.out.keep HL.out).box
        have HCK := hideIt (fun W2 (h : Below W.heap.size W W2) => show Calls Tryd.prog 15 #[x.v A c, .int .i64 (k : Int)] W2 (fun e w' => ∃ A6 c6, e = .returned (.slice A6 (ixs x (k : Int) x.par.length).length c6) ∧ PM w' w'.heap.size A6 (((ixs x (k : Int) x.par.length).map (chk x)).map nI) ∧ Below W2.heap.size W2 w') by
          refine (rchks_any x A c W2 (HBC.out.keep h).cin hsm (k : Int)).mono ?_
          rintro e w' ⟨v, rfl, hj, hb⟩
          have hv : vC x = true := by have := HOK.out; unfold okB at this; rw [Bool.and_eq_true] at this; exact this.1
          rw [show chksR x (k : Int) = (ixs x (k : Int) x.par.length).map (chk x) by rw [← chks_ixs]; exact if_pos ⟨hv, by omega⟩] at hj
          obtain ⟨A6, c6, rfl, _, hpm⟩ := hj.pm
          exact ⟨A6, c6, by rw [List.length_map], hpm, hb⟩)
        have HMI := hideIt (fun i (h : i ∈ ixs x (k : Int) x.par.length) => show i < x.par.length ∧ k ∈ chk x i by
          obtain ⟨h1, h2⟩ := List.mem_filter.1 h
          rw [hasZ_nat, decide_eq_true_eq] at h2
          exact ⟨List.mem_range.1 h1, h2⟩)
        have HNX := hideIt (fun i (h : i < (ixs x (k : Int) x.par.length).length) => besI_next x hs k h)
        have HF0 := hideIt (show besI x hs k 0 = bes0 x hs k from rfl)
        have hIl : (ixs x (k : Int) x.par.length).length ≤ 100 := by
          have h1 := List.length_filter_le (fun i => hasZ (chk x i) (k : Int)) (List.range x.par.length)
          rw [List.length_range] at h1
          unfold ixs
          omega
        generalize ixs x (k : Int) x.par.length = I at *
        generalize besI x hs k = f at *
        generalize combR x (ot hs k) (k : Int) = r at *
        obtain ⟨r1, r2⟩ := r
        have hq3 := i_eql 31 .i64 r2 0
        clear ho3 hcm hotl hlt hj
        go_wp2_with (first
          | (go_at_call 29; refine HCM.out.mono ?_; rintro e w5 ⟨v5, rfl, ho5, hb5⟩; have HO5 := hideIt ho5; have HL5 := hideIt (HL.out.trans (hb5.mono HL.out.size)); have H45 := hideIt hb5; have HBX5 := hideIt (HBC.out.keep (HL.out.trans (hb5.mono HL.out.size))).box; clear ho5 hb5 HCM)
          | ((with_reducible refine at_load ?_); refine wpList_ldC (by kernel_rfl) (.tmp 3) rfl (p := w.heap.size) (c := c) rfl (by first | exact HBX5.out | exact HBX4.out) ?_)
          | (go_at_call 15; refine (HCK.out _ HL5.out).mono ?_; rintro e w6 ⟨A6, c6, rfl, hpm, hb6⟩; have HPM := hideIt hpm; have HB6 := hideIt hb6; clear hpm hb6))
        have HLW6 := hideIt (HL5.out.trans (HB6.out.mono HL5.out.size))
        have HS6 := hideIt ((((HS3.out.below H45.out).wide H45.out.size).below HB6.out).wide HB6.out.size)
        have HFI := hideIt (show decide (r2 = 0) = (f 0).isSome by
          rw [HF0.out, HB0.out]
          by_cases h : r2 = 0
          · rw [if_pos h, decide_eq_true h]; rfl
          · rw [if_neg h, decide_eq_false h]; rfl)
        have HBS := hideIt (show Bst W.heap.size w6 v5 (f 0) from fun L hL => by
          rw [HF0.out] at hL
          have h1 := HB0L.out L hL
          rw [HB0.out] at hL
          by_cases h : r2 = 0
          · rw [if_pos h] at hL
            injection hL with hL
            subst hL
            obtain ⟨A5, c5, e5, _, _⟩ := own_form HO5.out
            rw [e5] at HO5
            exact ⟨by have := HVC.out.wid; omega, A5, c5, e5, ((Sl.of_own HO5.out).below HB6.out).wide HB6.out.size, fun b o hA => Nat.le_trans HL.out.size (own_lo HO5.out b o hA)⟩
          · rw [if_neg h] at hL; cases hL)
        generalize decide (r2 = 0) = fb0 at *
        clear HB0 HB0L HF0 HO5 HCK hq3
        go_loopg [11, 13, 15] I.length (fun gk s11 s13 s15 wr => ∃ i : Nat, i + gk = I.length ∧ s15 = .int .i64 (i : Int) ∧ (∃ fb : Bool, s13 = .bool fb ∧ Aside (fb = (f i).isSome)) ∧ Aside (Bst W.heap.size wr s11 (f i)) ∧ Aside (Below w6.heap.size w6 wr))
        case atStart => exact ⟨0, by omega, rfl, ⟨fb0, rfl, HFI.out⟩, HBS.out, Below.refl _ _⟩
        case round =>
          obtain ⟨i, hi, rfl, ⟨fb, rfl, HFB⟩, HBS2, HL7⟩ := hrel
          obtain ⟨w7, rfl⟩ : ∃ x, x = wr := ⟨wr, rfl⟩
          obtain ⟨g0, rfl⟩ : ∃ x, x = gk := ⟨gk, rfl⟩
          clear HFI HBS
          by_cases hlt : i < I.length
          · have hinc := inc_c 3 i (by omega)
            have hki : (i : Int) < (I.length : Int) := by omega
            have HNi := hideIt (HNX.out i hlt)
            have HMi := hideIt (HMI.out _ (List.getElem_mem hlt))
            obtain ⟨b4, o4, A', c', hA, hb4, hcell, hsl⟩ := (HPM.out.below HL7.out).row (j := i) (by rw [List.length_map, List.length_map]; exact hlt)
            simp only [List.getElem_map, nI_len] at hcell hsl
            generalize I[i] = ii at *
            have hcl := chk_len HVC.out ii
            have HQN := hideIt (fun y (h : y ∈ chk x ii) => show y < N by
              have h1 := HMi.out.1
              have h2 := HLN.out
              rcases (mem_chk HVC.out).1 h with ⟨h3, _⟩ | h3 <;> omega)
            have HTR := hideIt (fun (W2 : World) (h : Below W.heap.size W W2) (L : Option Addr) (cl : Nat) (hL : Sl W2 W2.heap.size L 1 (chk x ii).length ((nI (chk x ii)).map iv)) => rterms_any HVC.out A c W2 (HBC.out.keep h).cin ii HMi.out.1 k HMi.out.2 L cl hL)
            have hcd : cand x hs k ii = avl hs k (chk x ii) := by unfold cand; rw [hasZ_nat, decide_eq_true HMi.out.2, Bool.true_and]
            have HST0 := hideIt (fun (h : avl hs k (chk x ii) = false) => show f (i + 1) = f i by
              rw [HNi.out]; unfold stpP; rw [hcd, h, if_neg (by decide)])
            have HST1 := hideIt (fun (h : avl hs k (chk x ii) = true) (h2 : f i = none) => show f (i + 1) = some (trC x ii k) by
              rw [HNi.out]; unfold stpP; rw [hcd, h, if_pos rfl, h2])
            have HST2 := hideIt (fun (h : avl hs k (chk x ii) = true) (l : List (Nat × Nat)) (h2 : f i = some l) => show f (i + 1) = if bt (trC x ii k) l = true then some (trC x ii k) else some l by
              rw [HNi.out]; unfold stpP; rw [hcd, h, if_pos rfl, h2])
            clear hcd
            have hTL : (trC x ii k).length ≤ 40 := by
              have h1 := trC_len HVC.out HMi.out.2
              omega
            have HAV := hideIt (show avl hs k (chk x ii) = (chk x ii).all (fun y => (ot hs k).getD y false || decide (y = k)) from rfl)
            generalize avl hs k (chk x ii) = av at *
            generalize trC x ii k = T at *
            generalize chk x ii = q at *
            have HSQ := hideIt ((hsl.wide (Nat.le_trans HL7.out.size (Nat.le_refl _))))
            have HS7 := hideIt ((HS6.out.below HL7.out).wide HL7.out.size)
            have HCE := hideIt hcell
            have HB4 := hideIt hb4
            subst hA
            clear hsl hb4 HNi HMi
            go_wp2_with fail
            go_loopg [16, 17] q.length (fun gk s16 s17 wr => ∃ j : Nat, j + gk = q.length ∧ s17 = .int .i64 (j : Int) ∧ (∃ bb : Bool, s16 = .bool bb ∧ Aside (bb = (q.take j).all (fun y => (ot hs k).getD y false || decide (y = k)))) ∧ wr = w7)
            case atStart => exact ⟨0, by omega, rfl, ⟨true, rfl, by simp [Aside]⟩, rfl⟩
            case round =>
              obtain ⟨j, hj, rfl, ⟨bb, rfl, HBB⟩, hw⟩ := hrel
              replace hw := hw.symm
              subst hw
              by_cases hlj : j < q.length
              · have hinj := inc_c 3 j (by omega)
                have hkj : (j : Int) < (q.length : Int) := by omega
                obtain ⟨b5, o5, hA5, _, hc5⟩ := HSQ.out.nat hlj
                subst hA5
                have HTK := hideIt (take_snoc q j hlj)
                have hyN := HQN.out _ (List.getElem_mem hlj)
                obtain ⟨b3, o3, v3, hA3, _, hv3, hc3⟩ := HS7.out.at_ (k := q[j]) hyN
                have hoy : (ot hs k).getD q[j] false = (ot hs k)[q[j]]'(by rw [ot_len, ← HN.out]; exact hyN) := gDb _
                have hv3' : v3 = .bool ((ot hs k).getD q[j] false) := by
                  rw [hoy]
                  rw [List.getElem?_map, List.getElem?_eq_getElem (by rw [ot_len, ← HN.out]; exact hyN)] at hv3
                  injection hv3 with hv3
                  exact hv3.symm
                subst hv3' hA3
                have hyi : ((q[j] : Nat) : Int) < (N : Int) := by omega
                have heq := i_eql 3 .i64 ((q[j] : Nat) : Int) (k : Int)
                rw [show decide (((q[j] : Nat) : Int) = (k : Int)) = decide (q[j] = k) from decide_eq_decide.2 ⟨fun h => by omega, fun h => by omega⟩] at heq
                have HNB := hideIt (show (q.take (j + 1)).all (fun y => (ot hs k).getD y false || decide (y = k)) = (bb && ((ot hs k).getD q[j] false || decide (q[j] = k))) by
                  rw [HTK.out, List.all_append, ← HBB.out]
                  simp only [List.all_cons, List.all_nil, Bool.and_true])
                generalize (ot hs k).getD q[j] false = oo at *
                generalize decide (q[j] = k) = dk at *
                generalize q[j] = y at *
                have hcell := HCE.out
                clear HTK hv3 hoy hyN
                cases bb with
                | false =>
                  go_wp2_with fail
                  go_roundg (gk - 1)
                  case measure => omega
                  case rel => exact ⟨j + 1, by omega, by go_num, ⟨false, rfl, by rw [HNB.out]; rfl⟩, rfl⟩
                | true =>
                  cases oo with
                  | true =>
                    go_wp2_with fail
                    go_roundg (gk - 1)
                    case measure => omega
                    case rel => exact ⟨j + 1, by omega, by go_num, ⟨true, rfl, by rw [HNB.out]; rfl⟩, rfl⟩
                  | false =>
                    go_wp2_with fail
                    go_roundg (gk - 1)
                    case measure => omega
                    case rel => exact ⟨j + 1, by omega, by go_num, ⟨dk, rfl, by rw [HNB.out]; rfl⟩, rfl⟩
              · have hkj : ¬ (j : Int) < (q.length : Int) := by omega
                have HAB : Hid (bb = av) := hideIt (by
                  have := HBB.out
                  rw [List.take_of_length_le (by omega)] at this
                  exact this.trans HAV.out.symm)
                have hcell := HCE.out
                clear HBB hlj HQN
                cases bb with
                | false =>
                  have HE := hideIt (HST0.out HAB.out.symm)
                  clear HST0 HST1 HST2
                  go_wp2_with fail
                  go_roundg (g0 - 1)
                  case measure => omega
                  case rel => exact ⟨i + 1, by omega, by go_num, ⟨fb, rfl, by rw [HE.out]; exact HFB.out⟩, by rw [HE.out]; exact HBS2.out, HL7.out⟩
                | true =>
                  have HBX7 := hideIt (HBC.out.keep (HLW6.out.trans (HL7.out.mono HLW6.out.size))).box
                  have HTR2 := hideIt (HTR.out _ (HLW6.out.trans (HL7.out.mono HLW6.out.size)).drew A' c' (HSQ.out.below (Below.refl _ _).drew))
                  clear HTR
                  go_wp2_with fail
                  refine loads_begin_n 8 [(6, fun W => Blk W w.heap.size 24 (x.cs A c)), (6, fun W => W.cell? ⟨b4, o4 + i, none⟩ = some (.slice A' q.length c'))] rfl (by kernel_rfl) ?_
                  try simp only [Act.put]
                  try simp only [List.setIfInBounds_toArray]
                  try simp only [List.set_cons_succ]
                  try simp only [List.set_cons_zero]
                  refine wpAnyL_take (oi := ⟨some 109, _, _, _, _, _⟩) 0 6 (x.v A c) _ rfl (by kernel_rfl) (by kernel_rfl) (by kernel_rfl) (by kernel_rfl) (by kernel_rfl) (by kernel_rfl) (.head _) (fun _ _ _ h => h) (by kernel_rfl) (fun W' hW' => exec_load_blk (cs := x.cs A c) rfl rfl hW' _ Tryd.underlying24 rfl isz5) (Hooks.add HBX7.out (Hooks.add HCE.out (Hooks.nil _ _))) ?_
                  try simp only [Act.put]
                  try simp only [List.setIfInBounds_toArray]
                  try simp only [List.set_cons_succ]
                  try simp only [List.set_cons_zero]
                  refine wpAnyL_move (oi := ⟨some 110, _, _, _, _, _⟩) 1 ?_ rfl (by kernel_rfl) (by kernel_rfl) (by kernel_rfl) (by kernel_rfl) (fun _ _ _ h => h) (by kernel_rfl) ?_ ((Hooks.add HBX7.out (Hooks.add HCE.out (Hooks.nil _ _)))) ?_
                  rotate_left
                  · intro W'; go_simp; first | done | with_reducible rfl
                  try simp only [Act.put]
                  try simp only [List.setIfInBounds_toArray]
                  try simp only [List.set_cons_succ]
                  try simp only [List.set_cons_zero]
                  refine wpAnyL_move (oi := ⟨some 111, _, _, _, _, _⟩) 2 ?_ rfl (by kernel_rfl) (by kernel_rfl) (by kernel_rfl) (by kernel_rfl) (fun _ _ _ h => h) (by kernel_rfl) ?_ ((Hooks.add HBX7.out (Hooks.add HCE.out (Hooks.nil _ _)))) ?_
                  rotate_left
                  · intro W'; go_simp; first | done | with_reducible rfl
                  try simp only [Act.put]
                  try simp only [List.setIfInBounds_toArray]
                  try simp only [List.set_cons_succ]
                  try simp only [List.set_cons_zero]
                  refine wpAnyL_move (oi := ⟨some 112, _, _, _, _, _⟩) 3 ?_ rfl (by kernel_rfl) (by kernel_rfl) (by kernel_rfl) (by kernel_rfl) (fun _ _ _ h => h) (by kernel_rfl) ?_ ((Hooks.add HBX7.out (Hooks.add HCE.out (Hooks.nil _ _)))) ?_
                  rotate_left
                  · intro W'; go_simp; first | done | with_reducible rfl
                  try simp only [Act.put]
                  try simp only [List.setIfInBounds_toArray]
                  try simp only [List.set_cons_succ]
                  try simp only [List.set_cons_zero]
                  refine wpAnyL_take (oi := ⟨some 113, _, _, _, _, _⟩) 4 6 (.slice A' q.length c') _ rfl (by kernel_rfl) (by kernel_rfl) (by kernel_rfl) (by kernel_rfl) (by kernel_rfl) (by kernel_rfl) (.tail _ (.head _)) (fun _ _ _ h => h) (by kernel_rfl) (fun W' hW' => by (try dsimp only at hW'); go_simp) (Hooks.add HBX7.out (Hooks.add HCE.out (Hooks.nil _ _))) ?_
                  try simp only [Act.put]
                  try simp only [List.setIfInBounds_toArray]
                  try simp only [List.set_cons_succ]
                  try simp only [List.set_cons_zero]
                  refine wpAnyL_move (oi := ⟨some 114, _, _, _, _, _⟩) 5 ?_ rfl (by kernel_rfl) (by kernel_rfl) (by kernel_rfl) (by kernel_rfl) (fun _ _ _ h => h) (by kernel_rfl) ?_ ((Hooks.add HBX7.out (Hooks.add HCE.out (Hooks.nil _ _)))) ?_
                  rotate_left
                  · intro W'; go_simp; first | done | with_reducible rfl
                  try simp only [Act.put]
                  try simp only [List.setIfInBounds_toArray]
                  try simp only [List.set_cons_succ]
                  try simp only [List.set_cons_zero]
                  refine wpAnyL_one (o := ⟨some 115, _, _, _, _, _⟩) 6 (by kernel_rfl) rfl (fun K hK => ?_)
                  go_wp2_with (first
                    | (go_at_call 40; refine HTR2.out.mono ?_; rintro e w8 ⟨v8, rfl, ho8, hb8⟩))
                  obtain ⟨A8, c8, hv8, _, _⟩ := own_form ho8
                  subst hv8
                  have HL8 := hideIt ((Below.refl w7.heap.size w7).drew.trans hb8)
                  have HS8 := hideIt (Sl.of_own ho8)
                  have HLO8 := hideIt (fun b o hA => Nat.le_trans (HLW6.out.trans (HL7.out.mono HLW6.out.size)).size (own_lo ho8 b o hA))
                  refine hK _ _ (Hooks.skip (by kernel_rfl) (Hooks.skip (by kernel_rfl) (Hooks.nil _ _))) ?_
                  clear hK K ho8 hb8 HTR2 HBX7
                  try simp only [Act.put]
                  try simp only [List.setIfInBounds_toArray]
                  try simp only [List.set_cons_succ]
                  try simp only [List.set_cons_zero]
                  refine loads_tail 7 (by kernel_rfl) (by kernel_rfl) (by kernel_rfl) (by kernel_rfl) ?_
                  simp only [List.drop_succ_cons, List.drop_zero]
                  have HNBS := hideIt (show Bst W.heap.size w8 (.slice A8 T.length c8) (some T) from fun L hL => by injection hL with hL; subst hL; exact ⟨by omega, A8, c8, rfl, HS8.out, HLO8.out⟩)
                  cases fb with
                  | false =>
                    have HFN : Hid (f i = none) := hideIt (by have := HFB.out; cases h : f i with | none => rfl | some l => rw [h] at this; cases this)
                    have HE := hideIt (HST1.out HAB.out.symm HFN.out)
                    clear HST0 HST1 HST2 HFB
                    go_wp2_with fail
                    go_roundg (g0 - 1)
                    case measure => omega
                    case rel => exact ⟨i + 1, by omega, by go_num, ⟨true, rfl, by rw [HE.out]; rfl⟩, by rw [HE.out]; exact HNBS.out, HL7.out.trans (HL8.out.mono HL7.out.size)⟩
                  | true =>
                    obtain ⟨l, hl⟩ : ∃ l, f i = some l := by have := HFB.out; cases h : f i with | none => rw [h] at this; cases this | some l => exact ⟨l, rfl⟩
                    have HE := hideIt (HST2.out HAB.out.symm l hl)
                    have HLI := hideIt hl
                    obtain ⟨hl1, A9, c9, e9, hs9, _⟩ := HBS2.out l hl
                    subst e9
                    have HBT := hideIt (rbetter_any T l (by omega) (by omega) A8 A9 c8 c9 w8 HS8.out ((hs9.below HL8.out).wide HL8.out.size))
                    clear HST0 HST1 HST2 hl hs9 HS8
                    cases hbt : bt T l with
                    | true =>
                      rw [hbt] at HBT HE
                      have HE2 := hideIt (HE.out.trans (if_pos rfl))
                      clear hbt HE
                      go_wp2_with (go_at_call 41; refine HBT.out.mono ?_; rintro e w9 ⟨rfl, n9, rfl⟩)
                      go_roundg (g0 - 1)
                      case measure => omega
                      case rel => exact ⟨i + 1, by omega, by go_num, ⟨true, rfl, by rw [HE2.out]; rfl⟩, by rw [HE2.out]; exact HNBS.out.keep (below_drewN (Below.refl _ _) _), below_drewN (HL7.out.trans (HL8.out.mono HL7.out.size)) _⟩
                    | false =>
                      rw [hbt] at HBT HE
                      have HE2 := hideIt (HE.out.trans (if_neg (by decide)))
                      clear hbt HE
                      go_wp2_with (go_at_call 41; refine HBT.out.mono ?_; rintro e w9 ⟨rfl, n9, rfl⟩)
                      go_roundg (g0 - 1)
                      case measure => omega
                      case rel => exact ⟨i + 1, by omega, by go_num, ⟨true, rfl, by rw [HE2.out]; rfl⟩, by rw [HE2.out, ← HLI.out]; exact (HBS2.out.keep HL8.out).keep (below_drewN (Below.refl _ _) _), below_drewN (HL7.out.trans (HL8.out.mono HL7.out.size)) _⟩
          · have hki : ¬ (i : Int) < (I.length : Int) := by omega
            obtain rfl : i = I.length := by omega
            have HLW7 := hideIt (HLW6.out.trans (HL7.out.mono HLW6.out.size))
            have HP7 := hideIt (HPL.out.kept HLW7.out HPL.out.lt)
            have HBB7 := hideIt (HB.out.trans (HLW7.out.mono HB.out.size))
            cases fb with
            | false =>
              have HFN : Hid (f I.length = none) := hideIt (by have := HFB.out; cases h : f I.length with | none => rfl | some l => rw [h] at this; cases this)
              have HE := hideIt (show planR x hs (k : Int) = ((0, []), 11) by rw [HR.out, ← HBA.out, HFN.out])
              clear HFB HR
              go_wp2_with ((with_reducible refine at_store ?_); refine wpList_put rfl _ (.tmp 6) (.tmp 126) rfl (w.heap.size + 1) [.int .i64 0, .slice none 0 0] [.int .i64 0, .slice none 0 0] 30 rfl rfl HP7.out iszP rfl (by simp [Value.oneCell']) ?_; intro w8 ht8 hb8; have HT8 := hideIt ht8; have HB8 := hideIt hb8; clear ht8 hb8)
              refine bodyPost_ret (results_two rfl _ _ (w.heap.size + 1) _ _ _ rfl HB8.out Tryd.underlying30 rfl iszP) rfl ?_
              rw [HE.out]
              exact ⟨none, 0, rfl, Sl.nil _ _ _ _, (fun _ _ h => by cases h), HT8.out.below HBB7.out (by omega)⟩
            | true =>
              obtain ⟨l, hl⟩ : ∃ l, f I.length = some l := by have := HFB.out; cases h : f I.length with | none => rw [h] at this; cases this | some l => exact ⟨l, rfl⟩
              have HE := hideIt (show planR x hs (k : Int) = (((k : Int), l), 0) by rw [HR.out, ← HBA.out, hl])
              obtain ⟨_, A9, c9, e9, hs9, hlo9⟩ := HBS2.out l hl
              subst e9
              have HS9 := hideIt hs9
              have HLO9 := hideIt hlo9
              clear HFB HR hl hs9 hlo9 HBS2
              go_wp2_with ((with_reducible refine at_store ?_); refine wpList_put rfl _ (.tmp 6) (.tmp 129) rfl (w.heap.size + 1) [.int .i64 (k : Int), .slice A9 l.length c9] [.int .i64 0, .slice none 0 0] 30 rfl rfl HP7.out iszP rfl (by simp [Value.oneCell']) ?_; intro w8 ht8 hb8; have HT8 := hideIt ht8; have HB8 := hideIt hb8; clear ht8 hb8)
              refine bodyPost_ret (results_two rfl _ _ (w.heap.size + 1) _ _ _ rfl HB8.out Tryd.underlying30 rfl iszP) rfl ?_
              rw [HE.out]
              refine ⟨A9, c9, rfl, ?_, (fun b o hA => by have h1 := HLO9.out b o hA; have h2 := HS2.out; omega), HT8.out.below HBB7.out (by omega)⟩
              rw [HT8.out.size]
              exact HS9.out.turned HT8.out (fun b o hA => by have h1 := HLO9.out b o hA; have h2 := HS2.out; omega)
  · have HR := hideIt (show planR x hs u = ((0, []), 1) from if_neg hok)
    obtain ⟨z, hz⟩ : ∃ z, z = wC x := ⟨_, rfl⟩
    rw [← hz] at HV
    have hq0 := i_eql 3 .i64 z 0
    have hq1 := i_neq 3 .i64 (hs.length : Int) z
    have hcase : (decide (z = 0) = true) ∨ (decide (z = 0) = false ∧ decide ((hs.length : Int) ≠ z) = true) ∨ (decide (z = 0) = false ∧ decide ((hs.length : Int) ≠ z) = false ∧ u < 0) ∨ (decide (z = 0) = false ∧ decide ((hs.length : Int) ≠ z) = false ∧ ¬ u < 0 ∧ u ≥ z) := by
      by_cases h1 : z = 0
      · exact .inl (decide_eq_true h1)
      · by_cases h2 : (hs.length : Int) = z
        · by_cases h3 : u < 0
          · exact .inr (.inr (.inl ⟨decide_eq_false h1, decide_eq_false (fun h => h h2), h3⟩))
          · by_cases h4 : u ≥ z
            · exact .inr (.inr (.inr ⟨decide_eq_false h1, decide_eq_false (fun h => h h2), h3, h4⟩))
            · have hv : vC x = true := by
                by_cases hv : vC x = true
                · exact hv
                · exact absurd (hz.trans (if_neg hv)) h1
              refine absurd ⟨?_, decide_eq_true ⟨by omega, by omega⟩⟩ hok
              unfold okB
              rw [hv, Bool.true_and]
              exact decide_eq_true (h2.trans (hz.trans (if_pos hv)))
        · exact .inr (.inl ⟨decide_eq_false h1, decide_eq_true h2⟩)
    rw [HR.out]
    clear hok hz HR
    rcases hcase with h1 | ⟨h1, h2⟩ | ⟨h1, h2, h3⟩ | ⟨h1, h2, h3, h4⟩
    all_goals
      try rw [h1] at hq0
      try rw [h2] at hq1
      try clear h1
      try clear h2
      go_enter Tryd.func13, Tryd.ntmps13
      go_wp2_with (first
        | ((with_reducible refine at_load ?_); refine wpList_ldC (by kernel_rfl) (.tmp 3) rfl (p := w.heap.size) (c := c) rfl (by rw [← HWE1.out, ← HWE.out]; exact HBC.out.box) ?_)
        | (go_at_call 27; rw [← HWE1.out, ← HWE.out]; refine HV.out.mono ?_; rintro e w1 ⟨rfl, hb1⟩; have HB1 := hideIt hb1; have HP1 := hideIt (HPL.out.kept hb1 HPL.out.lt); clear hb1 HV)
        | ((with_reducible refine at_store ?_); refine wpList_put rfl _ (.tmp 6) (.tmp 38) rfl (w.heap.size + 1) [.int .i64 0, .slice none 0 0] [.int .i64 0, .slice none 0 0] 30 rfl rfl HP1.out iszP rfl (by simp [Value.oneCell']) ?_; intro w8 ht8 hb8; have HT8 := hideIt ht8; have HB8 := hideIt hb8; clear ht8 hb8))
      refine bodyPost_ret (results_two rfl _ _ (w.heap.size + 1) _ _ _ rfl HB8.out Tryd.underlying30 rfl iszP) rfl ?_
      exact ⟨none, 0, rfl, Sl.nil _ _ _ _, (fun _ _ h => by cases h), HT8.out.below (HB.out.trans (HB1.out.mono HB.out.size)) (by omega)⟩
end Go.Proofs.YtklngodlijiccaaDoor
