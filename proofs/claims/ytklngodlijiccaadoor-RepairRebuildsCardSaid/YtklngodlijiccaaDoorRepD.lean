/-
  The program's small functions and the library's Contains, walked: isIndex, isPerUnit, checkOf, Checks.
-/
import Derived.Test.YtklngodlijiccaaDoorRepS
namespace Go.Proofs.YtklngodlijiccaaDoor
open Go.RowKit
set_option linter.unusedVariables false
set_option linter.unusedSimpArgs false

/-- One element for each unit of a stripe of a valid code. -/
def okN (x : Cd) (n : Nat) : Bool := vC x && decide ((n : Int) = x.data + x.par.length)
theorem okB_okN (x : Cd) (hs : List Bool) : okB x hs = okN x hs.length := rfl
theorem okN_wC {x : Cd} (n : Nat) : okN x n = (decide (0 < n) && decide ((n : Int) = wC x)) := by
  unfold okN wC
  cases hv : vC x with
  | true =>
    obtain ⟨m, k, h⟩ := vC_spec hv
    have := h.pos
    have := h.d
    rw [if_pos rfl, Bool.true_and]
    by_cases e : (n : Int) = x.data + x.par.length
    · rw [decide_eq_true e, decide_eq_true (show 0 < n by omega)]; rfl
    · rw [decide_eq_false e, Bool.and_false]
  | false =>
    rw [if_neg (by decide), Bool.false_and]
    by_cases e : (n : Int) = 0
    · rw [decide_eq_false (show ¬ 0 < n by omega), Bool.false_and]
    · rw [decide_eq_false e, Bool.and_false]
theorem index_any (N u : Int) (w : World) :
    Calls Tryd.prog 32 #[.int .i64 N, .int .i64 u] w fun e w' => e = .returned (.bool (decide (0 ≤ u ∧ u < N))) ∧ w = w' := by
  obtain ⟨r, hr⟩ : ∃ r, r = decide (0 ≤ u ∧ u < N) := ⟨_, rfl⟩
  rw [← hr]
  by_cases h0 : u ≥ 0
  · by_cases h1 : u < N
    · have HE := hideIt (hr.trans (decide_eq_true ⟨h0, h1⟩)); clear hr
      go_enter Tryd.func32, Tryd.ntmps32
      go_wp2_with fail
      go_ret
      exact ⟨by rw [HE.out]; rfl, rfl⟩
    · have HE := hideIt (hr.trans (decide_eq_false (fun h => h1 h.2))); clear hr
      go_enter Tryd.func32, Tryd.ntmps32
      go_wp2_with fail
      go_ret
      exact ⟨by rw [HE.out]; rfl, rfl⟩
  · have HE := hideIt (hr.trans (decide_eq_false (fun h => h0 h.1))); clear hr
    go_enter Tryd.func32, Tryd.ntmps32
    go_wp2_with fail
    go_ret
    exact ⟨by rw [HE.out]; rfl, rfl⟩
set_option maxHeartbeats 1000000 in
theorem perBool_any (x : Cd) (A : Option Addr) (c : Nat) (w : World) (hT : Tabs w) (hx : CIn w x A) (n : Nat) (D : Option Addr) (cd : Nat) :
    Calls Tryd.prog 31 #[x.v A c, .slice D n cd] w fun e w' => e = .returned (.bool (okN x n)) ∧ Below w.heap.size w w' := by
  obtain ⟨W, hW⟩ : ∃ W, W = w.alloc (.cells (x.cs A c).toArray 24) := ⟨_, rfl⟩
  have hbw : Below w.heap.size w W := by rw [hW]; exact below_new w _
  have HB := hideIt hbw
  have HBC := hideIt (show BC W w.heap.size x A c by rw [hW]; exact BC.new c hx)
  have HWD := hideIt (width_any x A c W (hT.keep hbw) HBC.out.cin)
  have HWE := hideIt hW
  have HOK := hideIt (okN_wC (x := x) n)
  have hq1 := i_eql 3 .i64 (n : Int) (wC x)
  clear hbw hx hW hT
  by_cases h0 : 0 < n
  · have h0i : (n : Int) > 0 := by omega
    rw [decide_eq_true h0, Bool.true_and] at HOK
    rw [← HOK.out] at hq1
    clear h0 HOK
    generalize okN x n = r at *
    generalize wC x = z at *
    go_enter Tryd.func31, Tryd.ntmps31
    go_wp2_with (first
      | ((with_reducible refine at_load ?_); refine wpList_ldC (by kernel_rfl) (.tmp 2) rfl (p := w.heap.size) (c := c) rfl (by rw [← HWE.out]; exact HBC.out.box) ?_)
      | (go_at_call 42; rw [← HWE.out]; refine HWD.out.mono ?_; rintro e w2 ⟨rfl, hb2⟩; have HB2 := hideIt hb2; clear hb2 HWD))
    go_ret
    exact ⟨rfl, HB.out.trans (HB2.out.mono HB.out.size)⟩
  · have h0i : ¬ (n : Int) > 0 := by omega
    rw [decide_eq_false h0, Bool.false_and] at HOK
    clear h0 hq1
    go_enter Tryd.func31, Tryd.ntmps31
    go_wp2_with fail
    go_ret
    exact ⟨by rw [HOK.out]; rfl, by rw [← HWE.out]; exact HB.out⟩
set_option maxHeartbeats 1000000 in
theorem perStr_any (x : Cd) (A : Option Addr) (c : Nat) (w : World) (hT : Tabs w) (hx : CIn w x A) (n : Nat) (D : Option Addr) (cd : Nat) :
    Calls Tryd.prog 49 #[x.v A c, .slice D n cd] w fun e w' => e = .returned (.bool (okN x n)) ∧ Below w.heap.size w w' := by
  obtain ⟨W, hW⟩ : ∃ W, W = w.alloc (.cells (x.cs A c).toArray 24) := ⟨_, rfl⟩
  have hbw : Below w.heap.size w W := by rw [hW]; exact below_new w _
  have HB := hideIt hbw
  have HBC := hideIt (show BC W w.heap.size x A c by rw [hW]; exact BC.new c hx)
  have HWD := hideIt (width_any x A c W (hT.keep hbw) HBC.out.cin)
  have HWE := hideIt hW
  have HOK := hideIt (okN_wC (x := x) n)
  have hq1 := i_eql 3 .i64 (n : Int) (wC x)
  clear hbw hx hW hT
  by_cases h0 : 0 < n
  · have h0i : (n : Int) > 0 := by omega
    rw [decide_eq_true h0, Bool.true_and] at HOK
    rw [← HOK.out] at hq1
    clear h0 HOK
    generalize okN x n = r at *
    generalize wC x = z at *
    go_enter Tryd.func49, Tryd.ntmps49
    go_wp2_with (first
      | ((with_reducible refine at_load ?_); refine wpList_ldC (by kernel_rfl) (.tmp 2) rfl (p := w.heap.size) (c := c) rfl (by rw [← HWE.out]; exact HBC.out.box) ?_)
      | (go_at_call 42; rw [← HWE.out]; refine HWD.out.mono ?_; rintro e w2 ⟨rfl, hb2⟩; have HB2 := hideIt hb2; clear hb2 HWD))
    go_ret
    exact ⟨rfl, HB.out.trans (HB2.out.mono HB.out.size)⟩
  · have h0i : ¬ (n : Int) > 0 := by omega
    rw [decide_eq_false h0, Bool.false_and] at HOK
    clear h0 hq1
    go_enter Tryd.func49, Tryd.ntmps49
    go_wp2_with fail
    go_ret
    exact ⟨by rw [HOK.out]; rfl, by rw [← HWE.out]; exact HB.out⟩
set_option maxHeartbeats 1000000 in
set_option maxRecDepth 100000 in
theorem checkOf_any {x : Cd} {m n : Nat} (hvc : VC x m n) (A : Option Addr) (c : Nat) (w : World) (hx : CIn w x A) (i : Nat) (hi : i < x.par.length) :
    Calls Tryd.prog 43 #[x.v A c, .int .i64 (i : Int)] w fun e w' => ∃ v, e = .returned v ∧ w'.ownsRow w.heap.size 3 1 v (chk x i).length ((nI (chk x i)).map iv) ∧ Below w.heap.size w w' := by
  obtain ⟨W, hW⟩ : ∃ W, W = w.alloc (.cells (x.cs A c).toArray 24) := ⟨_, rfl⟩
  have hbw : Below w.heap.size w W := by rw [hW]; exact below_new w _
  have HB := hideIt hbw
  have HBC := hideIt (show BC W w.heap.size x A c by rw [hW]; exact BC.new c hx)
  have HWE := hideIt hW
  have hwid := hvc.wid
  obtain ⟨b, o, A', c', hA, hb, hcell, hsl⟩ := HBC.out.cin.pm.row hi
  have hrl := (hvc.row _ (List.getElem_mem hi)).1
  have HGP := hideIt (fun (j : Nat) (q : j < x.par[i].length) => show ((gC x (n + i) j : Nat) : Int) = x.par[i][j] from gC_par hvc hi (by omega))
  have HD := hideIt hvc.d
  have HCK := hideIt (chk_flt hvc i)
  have hip : (i : Int) < (x.par.length : Int) := by omega
  have hadd : binOp .add 3 (.int .i64 (n : Int)) (.int .i64 (i : Int)) = pure (.int .i64 ((n + i : Nat) : Int)) := nadd 3 n i (by omega)
  have c3 := HBC.out.c3
  rw [hW] at c3 hcell
  subst hA
  generalize x.par[i] = l at *
  generalize gC x (n + i) = G at *
  have HSL := hideIt hsl
  have HN := hideIt (show nI (chk x i) = nI (flt G n) ++ [((n + i : Nat) : Int)] by rw [HCK.out, nI_snoc])
  have HNL := hideIt (show (chk x i).length = (flt G n).length + 1 by rw [HCK.out, List.length_append]; rfl)
  generalize (chk x i).length = RL at *
  generalize nI (chk x i) = RN at *
  have HO := hideIt (World.ownsRow_nil W W.heap.size 3 1)
  clear hbw hx hW hsl hb hvc HCK
  go_enter Tryd.func43, Tryd.ntmps43
  go_wp2_with fail
  rw [← HWE.out] at c3 hcell ⊢
  clear c3 hcell
  go_loopg [5, 14] n (fun gk s5 s14 wr => ∃ j : Nat, j + gk = n ∧ s14 = .int .i64 (j : Int) ∧ Aside (wr.ownsRow W.heap.size 3 1 s5 (flt G j).length ((nI (flt G j)).map iv)) ∧ Aside (Below W.heap.size W wr))
  case atStart => exact ⟨0, by omega, rfl, HO.out, Below.refl _ _⟩
  case round =>
    obtain ⟨j, hj, rfl, HO2, HL⟩ := hrel
    obtain ⟨w4, rfl⟩ : ∃ x, x = wr := ⟨wr, rfl⟩
    have HBC2 := hideIt (HBC.out.keep HL.out)
    have c2 := HBC2.out.c2
    rw [HD.out] at c2
    have hfl := flt_len G j
    have HSZ := hideIt HL.out.size
    by_cases hlt : j < n
    · obtain ⟨b2, o2, hA2, hb2, hc4⟩ := HSL.out.num (k := j) (by omega)
      have hcell2 := (HL.out.cell (p := ⟨b2, o2 + j, none⟩) hb2).trans hc4
      have hinc := inc_c 3 j (by omega)
      have hji : (j : Int) < (n : Int) := by omega
      have HNX := hideIt (flt_next G j)
      have HGJ := hideIt (HGP.out j (by omega))
      have hn0 := i_neq 3 .i64 l[j] 0
      generalize l[j] = a at *
      subst hA2
      clear hb2 hc4 c2
      by_cases ha : a = 0
      · rw [decide_eq_false (fun h => h ha)] at hn0
        have HE := hideIt (HNX.out.trans (if_pos (by have := HGJ.out; omega)))
        clear ha HNX HGJ
        go_wp2_with fail
        go_roundg (gk - 1)
        case measure => omega
        case rel => exact ⟨j + 1, by omega, by go_num, by rw [HE.out]; exact HO2.out, HL.out⟩
      · rw [decide_eq_true ha] at hn0
        have HE := hideIt (HNX.out.trans (if_neg (by have := HGJ.out; omega)))
        have HN2 := hideIt (nI_snoc (flt G j) j)
        obtain ⟨A3, c3v, hv3, _, _⟩ := own_form HO2.out
        subst hv3
        clear ha HNX HGJ
        generalize hfn : flt G j = fj at *
        clear hfn
        go_wp2_with ((with_reducible refine at_append ?_); refine wpList_apI (y := (j : Int)) (n := fj.length) (us := nI fj) rfl (.tmp 21) (.tmp 23) rfl rfl HO2.out rfl (by omega) HSZ.out ?_; intro v8 w8 HO8 HG8 HA8 HB8)
        go_roundg (gk - 1)
        case measure => omega
        case rel => exact ⟨j + 1, by omega, by go_num, by rw [HE.out, HN2.out, List.length_append]; exact HO8.out, HL.out.trans HB8.out⟩
    · have hji : ¬ (j : Int) < (n : Int) := by omega
      obtain rfl : j = n := by omega
      obtain ⟨A3, c3v, hv3, _, _⟩ := own_form HO2.out
      subst hv3
      generalize hfn : flt G j = fj at *
      clear hfn
      go_wp2_with ((with_reducible refine at_append ?_); refine wpList_apI (y := ((j + i : Nat) : Int)) (n := fj.length) (us := nI fj) rfl (.tmp 26) (.tmp 31) rfl rfl HO2.out rfl (by omega) HSZ.out ?_; intro v8 w8 HO8 HG8 HA8 HB8)
      go_ret
      refine ⟨v8, rfl, ?_, HB.out.trans ((HL.out.trans HB8.out).mono HB.out.size)⟩
      rw [HN.out, HNL.out]
      exact ⟨HO8.out.1, HO8.out.2.imp id fun ⟨g, cp, cur, q1, q2, q3⟩ => ⟨g, cp, cur, q1, Nat.le_trans HB.out.size q2, q3⟩⟩
/-- Where the library's Index ends. -/
def IdxOk (l : List Int) (a r : Int) : Prop := decide (r ≥ 0) = decide (a ∈ l)
set_option maxHeartbeats 1000000 in
theorem idx_any (l : List Int) (hn : l.length ≤ 100000) (a : Int) (D : Option Addr) (cd : Nat) (w : World) (hD : Sl w w.heap.size D 1 l.length (l.map iv)) :
    Calls Tryd.prog 61 #[.slice D l.length cd, .int .i64 a] w fun e w' => (∃ r : Int, e = .returned (.int .i64 r) ∧ IdxOk l a r) ∧ w = w' := by
  have HS := hideIt hD
  clear hD
  go_enter Tryd.func61, Tryd.ntmps61
  go_wp2_with fail
  go_loopg [8] l.length (fun gk s8 wr => ∃ k : Nat, k + gk = l.length ∧ s8 = .int .i64 (k : Int) ∧ wr = w ∧ Aside (a ∉ l.take k))
  case atStart => exact ⟨0, by omega, rfl, rfl, by simp [Aside]⟩
  case round =>
    obtain ⟨k, hk, rfl, rfl, HA⟩ := hrel
    obtain ⟨w, rfl⟩ : ∃ x, x = wr := ⟨wr, rfl⟩
    by_cases hlt : k < l.length
    · obtain ⟨b, o, rfl, hb, hc⟩ := HS.out.num hlt
      have hinc := inc_c 3 k (by omega)
      have hki : (k : Int) < (l.length : Int) := by omega
      have HT := hideIt (take_snoc l k hlt)
      have HM := hideIt (List.getElem_mem hlt)
      have heq := i_eql 3 .i64 a l[k]
      generalize l[k] = q at *
      clear hb
      by_cases he : a = q
      · rw [decide_eq_true he] at heq
        have HE := hideIt (show IdxOk l a (k : Int) by unfold IdxOk; rw [decide_eq_true (show a ∈ l from he ▸ HM.out), decide_eq_true (by omega)])
        clear he HM HT
        go_wp2_with fail
        go_ret
        exact ⟨⟨_, rfl, HE.out⟩, rfl⟩
      · rw [decide_eq_false he] at heq
        have HE := hideIt (show a ∉ l.take (k + 1) by
          rw [HT.out, List.mem_append, List.mem_singleton]
          rintro (h | h)
          · exact HA.out h
          · exact he h)
        clear he HM HT
        go_wp2_with fail
        go_roundg (gk - 1)
        case measure => omega
        case rel => exact ⟨k + 1, by omega, by go_num, rfl, HE.out⟩
    · have hki : ¬ (k : Int) < (l.length : Int) := by omega
      have HE := hideIt (show IdxOk l a (-1) by
        unfold IdxOk
        rw [decide_eq_false (show ¬ a ∈ l from by have := HA.out; rwa [List.take_of_length_le (by omega)] at this)]; rfl)
      go_wp2_with fail
      go_ret
      exact ⟨⟨_, rfl, HE.out⟩, rfl⟩
theorem contains_any (l : List Int) (hn : l.length ≤ 100000) (a : Int) (D : Option Addr) (cd : Nat) (w : World) (hD : Sl w w.heap.size D 1 l.length (l.map iv)) :
    Calls Tryd.prog 44 #[.slice D l.length cd, .int .i64 a] w fun e w' => e = .returned (.bool (decide (a ∈ l))) ∧ w = w' := by
  have HI := hideIt (idx_any l hn a D cd w hD)
  clear hD
  go_enter Tryd.func44, Tryd.ntmps44
  go_wp2_with (go_at_call 61; refine HI.out.mono ?_; rintro e w1 ⟨⟨r, rfl, hr⟩, rfl⟩; have HR := hideIt hr; clear HI hr)
  go_ret
  refine ⟨?_, rfl⟩
  show Ending.returned (.bool (decide (0 ≤ r))) = _
  rw [show decide (0 ≤ r) = decide (a ∈ l) from HR.out]
theorem chks_far {x : Cd} {m n : Nat} (h : VC x m n) {u : Int} (hu : (n + x.par.length : Nat) ≤ u) : ∀ k, k ≤ x.par.length → chks x u k = []
  | 0, _ => rfl
  | k + 1, hk => by
    rw [chks_next, if_neg, chks_far h hu k (by omega)]
    obtain ⟨v, rfl⟩ : ∃ v : Nat, u = (v : Int) := ⟨u.toNat, by omega⟩
    rw [hasZ_nat, decide_eq_true_eq]
    intro hm
    rcases (mem_chk h).1 hm with ⟨q, _⟩ | q <;> omega
theorem chksR_idx (x : Cd) (u : Int) : chksR x u = if 0 ≤ u ∧ u < wC x then chks x u x.par.length else [] := by
  unfold chksR wC
  cases hv : vC x with
  | false =>
    rw [if_neg (fun h => by cases h.1), if_neg]
    rintro ⟨h0, h1⟩
    rw [if_neg (by decide)] at h1
    omega
  | true =>
    obtain ⟨m, n, h⟩ := vC_spec hv
    have hd := h.d
    rw [if_pos rfl]
    by_cases h0 : 0 ≤ u
    · rw [if_pos ⟨rfl, h0⟩]
      by_cases h1 : u < x.data + x.par.length
      · rw [if_pos ⟨h0, h1⟩]
      · rw [if_neg (fun h => h1 h.2), chks_far h (by omega) _ (Nat.le_refl _)]
    · rw [if_neg (fun h => h0 h.2), if_neg (fun h => h0 h.1)]
set_option maxHeartbeats 1000000 in
set_option maxRecDepth 100000 in
theorem checks_any (x : Cd) (A : Option Addr) (c : Nat) (w : World) (hT : Tabs w) (hx : CIn w x A) (u : Int) :
    Calls Tryd.prog 14 #[x.v A c, .int .i64 u] w fun e w' => ∃ v, e = .returned v ∧ RJ w' w.heap.size v (chksR x u) ∧ Below w.heap.size w w' := by
  obtain ⟨W, hW⟩ : ∃ W, W = w.alloc (.cells (x.cs A c).toArray 24) := ⟨_, rfl⟩
  have hbw : Below w.heap.size w W := by rw [hW]; exact below_new w _
  have HB := hideIt hbw
  have HBC := hideIt (show BC W w.heap.size x A c by rw [hW]; exact BC.new c hx)
  have HV := hideIt (width_any x A c W (hT.keep hbw) HBC.out.cin)
  have HWE := hideIt hW
  have hnot := not_b
  have HR := hideIt (chksR_idx x u)
  have HID := hideIt (fun (z : Int) (W2 : World) => index_any z u W2)
  have HVV := hideIt (show 0 ≤ u ∧ u < wC x → vC x = true from fun h => by
    unfold wC at h
    by_cases hv : vC x = true
    · exact hv
    · rw [if_neg hv] at h; omega)
  clear hbw hx hW hT
  by_cases hok : 0 ≤ u ∧ u < wC x
  · obtain ⟨m, n, hvc⟩ := vC_spec (HVV.out hok)
    have HE := hideIt (HR.out.trans (if_pos hok))
    have hidx := decide_eq_true hok
    have HVC := hideIt hvc
    have hwid := hvc.wid
    have hp32 : x.par.length ≤ 32 := by omega
    clear HR HVV hok hvc hwid
    generalize wC x = z at *
    go_enter Tryd.func14, Tryd.ntmps14
    go_wp2_with (first
      | ((with_reducible refine at_load ?_); refine wpList_ldC (by kernel_rfl) (.tmp 2) rfl (p := w.heap.size) (c := c) rfl (by rw [← HWE.out]; exact HBC.out.box) ?_)
      | (go_at_call 42; rw [← HWE.out]; refine HV.out.mono ?_; rintro e w1 ⟨rfl, hb1⟩; have HB1 := hideIt hb1; have c3 := (HBC.out.keep hb1).c3; clear hb1 HV)
      | (go_at_call 32; refine (HID.out _ _).mono ?_; rintro e w2 ⟨rfl, rfl⟩; rw [hidx]; clear HID))
    have HJ0 := hideIt (RJ.nil w1 W.heap.size)
    clear c3
    go_loopg [5, 16] x.par.length (fun gk s5 s16 wr => ∃ k : Nat, k + gk = x.par.length ∧ s16 = .int .i64 (k : Int) ∧ Aside (RJ wr W.heap.size s5 (chks x u k)) ∧ Aside (Below W.heap.size W wr))
    case atStart => exact ⟨0, by omega, rfl, HJ0.out, HB1.out⟩
    case round =>
      obtain ⟨k, hk, rfl, HJ, HL⟩ := hrel
      obtain ⟨w4, rfl⟩ : ∃ x, x = wr := ⟨wr, rfl⟩
      have HBX4 := hideIt (HBC.out.keep HL.out).box
      by_cases hlt : k < x.par.length
      · have hinc := inc_c 3 k (by omega)
        have hki : (k : Int) < (x.par.length : Int) := by omega
        have HCH := hideIt (checkOf_any HVC.out A c w4 (HBC.out.keep HL.out).cin k hlt)
        have hcl := chk_len HVC.out k
        have HNX := hideIt (chks_next x u k)
        have hpl := chks_len x u k
        generalize chk x k = q at *
        have HHS := hideIt (fun (W : World) (D : Option Addr) (cd : Nat) (h : Sl W W.heap.size D 1 q.length ((nI q).map iv)) => show Calls Tryd.prog 44 #[.slice D q.length cd, .int .i64 u] W (fun e w' => e = .returned (.bool (hasZ q u)) ∧ W = w') by
          have := contains_any (nI q) (by rw [nI_len]; omega) u D cd W (by rw [nI_len]; exact h)
          rw [nI_len] at this
          exact this)
        cases hh : hasZ q u with
        | false =>
          rw [hh] at HHS HNX
          have HN := hideIt (HNX.out.trans (if_neg (by decide)))
          clear hh HNX hlt
          go_wp2_with (first
            | ((with_reducible refine at_load ?_); refine wpList_ldC (by kernel_rfl) (.tmp 2) rfl (p := w.heap.size) (c := c) rfl HBX4.out ?_)
            | (go_at_call 43; refine HCH.out.mono ?_; rintro e w6 ⟨v7, rfl, ho7, hb6⟩; obtain ⟨A7, c7, hv7, _, _⟩ := own_form ho7; subst hv7; have HS7 := hideIt (Sl.of_own ho7); have HB6 := hideIt hb6; clear ho7 hb6 HCH)
            | (go_at_call 44; refine (HHS.out _ _ _ HS7.out).mono ?_; rintro e w7 ⟨rfl, rfl⟩; clear HHS))
          go_roundg (gk - 1)
          case measure => omega
          case rel => exact ⟨k + 1, by omega, by go_num, by rw [HN.out]; exact HJ.out.keep HB6.out, HL.out.trans (HB6.out.mono HL.out.size)⟩
        | true =>
          rw [hh] at HHS HNX
          have HN := hideIt (HNX.out.trans (if_pos rfl))
          obtain ⟨pl, hpl2⟩ : ∃ l, l = chks x u k := ⟨_, rfl⟩
          rw [← hpl2] at hpl HN HJ
          obtain ⟨A3, c3v, hv3, _, _⟩ := own_form HJ.out.choose_spec.1
          subst hv3
          clear hh HNX hlt hpl2
          have hq0 := hcl.1
          go_wp2_with (first
            | ((with_reducible refine at_load ?_); refine wpList_ldC (by kernel_rfl) (.tmp 2) rfl (p := w.heap.size) (c := c) rfl HBX4.out ?_)
            | (go_at_call 43; refine HCH.out.mono ?_; rintro e w6 ⟨v7, rfl, ho7, hb6⟩; obtain ⟨g7, c7, cs7, hv7, hg7, hb7, ht7⟩ := own_blkN ho7 hq0; subst hv7; have HS7 := hideIt (Sl.of_own ho7); have HB6 := hideIt hb6; have HB7 := hideIt hb7; have HT7 := hideIt ht7; obtain ⟨vs, hvs1, hvs2⟩ := HJ.out.keep hb6; have HV1 := hideIt hvs1; have HV2 := hideIt hvs2; have HSZ := hideIt (Nat.le_trans HL.out.size hb6.size); clear ho7 hb6 hb7 ht7 hg7 hvs1 hvs2 HCH HJ)
            | (go_at_call 44; refine (HHS.out _ _ _ HS7.out).mono ?_; rintro e w7 ⟨rfl, rfl⟩; clear HHS)
            | ((with_reducible refine at_append ?_); refine wpList_apR (A := some ⟨g7, 0, none⟩) (k := q.length) (c := c7) (n := pl.length) (us := vs) rfl (.tmp 25) (.tmp 27) rfl rfl HV1.out rfl (by omega) HSZ.out ?_; intro v8 w8 HO8 HG8 HA8 HB8))
          go_roundg (gk - 1)
          case measure => omega
          case rel =>
            refine ⟨k + 1, by omega, by go_num, ?_, HL.out.trans ((HB6.out.mono HL.out.size).trans HB8.out)⟩
            rw [HN.out]
            exact RJ.snoc (b := q) HV2.out HV1.out HB7.out HT7.out HO8.out HG8.out
      · have hki : ¬ (k : Int) < (x.par.length : Int) := by omega
        obtain rfl : k = x.par.length := by omega
        go_wp2_with fail
        go_ret
        exact ⟨_, rfl, by rw [HE.out]; exact HJ.out.low HB.out.size, HB.out.trans (HL.out.mono HB.out.size)⟩
  · have HE := hideIt (HR.out.trans (if_neg hok))
    have hidx := decide_eq_false hok
    clear HR HVV hok
    generalize wC x = z at *
    go_enter Tryd.func14, Tryd.ntmps14
    go_wp2_with (first
      | ((with_reducible refine at_load ?_); refine wpList_ldC (by kernel_rfl) (.tmp 2) rfl (p := w.heap.size) (c := c) rfl (by rw [← HWE.out]; exact HBC.out.box) ?_)
      | (go_at_call 42; rw [← HWE.out]; refine HV.out.mono ?_; rintro e w1 ⟨rfl, hb1⟩; have HB1 := hideIt hb1; clear hb1 HV)
      | (go_at_call 32; refine (HID.out _ _).mono ?_; rintro e w2 ⟨rfl, rfl⟩; rw [hidx]; clear HID))
    go_ret
    exact ⟨_, rfl, by rw [HE.out]; exact RJ.nil _ _, HB.out.trans (HB1.out.mono HB.out.size)⟩
end Go.Proofs.YtklngodlijiccaaDoor
