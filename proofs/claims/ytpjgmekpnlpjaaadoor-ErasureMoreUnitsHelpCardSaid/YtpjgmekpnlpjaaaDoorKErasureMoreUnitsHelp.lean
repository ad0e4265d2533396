/-
  The walk of the law: for every valid code and every selection of present units, making one more unit present keeps every recoverable unit recoverable and makes that unit recoverable
-/
import Derived.Test.YtpjgmekpnlpjaaaDoorLwE
import Derived.Test.YtpjgmekpnlpjaaaDoorArgK
namespace Go.Proofs.YtpjgmekpnlpjaaaDoor.erasureMoreUnitsHelp
open Go.RowKit
set_option linter.unusedVariables false

theorem hv_set {hs : List Bool} {k : Nat} (hk : k < hs.length) (u : Nat) : hvF (hs.set k true) u = if u = k then true else hvF hs u := by
  unfold hvF
  rw [List.getD_eq_getElem?_getD, List.getD_eq_getElem?_getD, List.getElem?_set]
  by_cases e : u = k
  · subst e; simp [hk]
  · rw [if_neg (Ne.symm e), if_neg e]
theorem sel_is (G : Mx) (B : List Nat) (i : Nat) : sel G B i = G (B.getD i 0) := rfl
/-- One more unit present. -/
theorem more_help {x : Cd} {m n : Nat} (h : VC x m n) {hs : List Bool} {k : Nat} (hk : k < hs.length) :
    (basL x hs).length ≤ (basL x (hs.set k true)).length ∧ (basL x (hs.set k true)).length ≤ (basL x hs).length + 1 ∧ (∀ u, recov x hs u → recov x (hs.set k true) u) ∧ recov x (hs.set k true) k := by
  have hG := gC_v h
  have hm := h.fm
  have hlen : (hs.set k true).length = hs.length := List.length_set
  simp only [recov_vc h]
  rw [basL_vc h, basL_vc h, hlen]
  have hsB : Vm m (sel (gC x) (bas m n (gC x) (hvF hs) hs.length)) := fun i j => hG _ j
  have hsB' : Vm m (sel (gC x) (bas m n (gC x) (hvF (hs.set k true)) hs.length)) := fun i j => hG _ j
  have h1 : ∀ i, i < (bas m n (gC x) (hvF hs) hs.length).length → Dep m n (bas m n (gC x) (hvF (hs.set k true)) hs.length).length (sel (gC x) (bas m n (gC x) (hvF (hs.set k true)) hs.length)) (sel (gC x) (bas m n (gC x) (hvF hs) hs.length) i) := fun i hi => by
    obtain ⟨q1, q2⟩ := bas_at hi
    refine bas_span hm hG hs.length _ q1 ?_
    rw [hv_set hk]
    split
    · rfl
    · exact q2
  refine ⟨Ind.exchange hm hsB hsB' (bas_ind hm hG hs.length) h1, ?_, fun u hu => Dep.trans hm hsB' hu h1, bas_span hm hG hs.length k hk (by rw [hv_set hk, if_pos rfl])⟩
  have hsU : Vm m (sel (gC x) (bas m n (gC x) (hvF hs) hs.length ++ [k])) := fun i j => hG _ j
  refine Ind.exchange hm hsB' hsU (bas_ind hm hG hs.length) fun i hi => ?_
  obtain ⟨q1, q2⟩ := bas_at hi
  rw [hv_set hk] at q2
  rw [sel_is]
  generalize (bas m n (gC x) (hvF (hs.set k true)) hs.length).getD i 0 = u at *
  by_cases e : u = k
  · subst e
    have := Dep.mem (n := n) (p := (bas m n (gC x) (hvF hs) hs.length).length + 1) hm hsU (t := (bas m n (gC x) (hvF hs) hs.length).length) (Nat.lt_succ_self _)
    refine this.congr (fun _ _ _ _ => rfl) fun j _ => ?_
    rw [sel_is]
    simp [List.getD_eq_getElem?_getD]
  · rw [if_neg e] at q2
    exact ((bas_span hm hG hs.length u q1 q2).congr (fun i hi j _ => sel_snoc _ k i hi j) fun _ _ => rfl).more
theorem comb_zero {x : Cd} {hs : List Bool} (hok : okB x hs = true) {i : Nat} (hi : i < hs.length) : (combR x hs (i : Int)).2 = 0 ↔ recov x hs i := by
  unfold combR
  rw [if_pos ⟨hok, decide_eq_true (by omega)⟩, Int.toNat_natCast]
  unfold trmR
  split
  · next h => exact ⟨fun _ => h, fun _ => rfl⟩
  · next h => exact ⟨fun h0 => absurd h0 (by decide), fun h0 => absurd h0 h⟩
/-- What a call owns, cell by cell. -/
theorem own_cur {w : World} {base n : Nat} {e : TypeId} {v : Value} {xs : List Value} (h : w.ownsRow base e 1 v n xs) (hn : 0 < n) : ∃ g cap cur, v = .slice (some ⟨g, 0, none⟩) n cap ∧ base ≤ g ∧ Blk w g e cur ∧ (∀ (j : Nat) (u : Value), xs[j]? = some u → cur[j]? = some u) ∧ xs.length = n := by
  rcases h.2 with ⟨_, h0⟩ | ⟨g, cap, cur, hv, hb, hg, _, _, _, ht⟩
  · omega
  · refine ⟨g, cap, cur.toList, hv, hb, by unfold Blk; exact hg, fun j u hj => ?_, by have := h.1; omega⟩
    rw [← ht, List.getElem?_take] at hj
    split at hj
    · exact hj
    · cases hj
theorem sl_set {w : World} {g n k : Nat} {e : TypeId} {cur xs : List Value} {u : Value} (h : Blk w g e cur) (hx : ∀ (j : Nat) (v : Value), xs[j]? = some v → cur[j]? = some v) (hl : xs.length = n) : Sl (w.setCell ⟨g, k, none⟩ u) (w.setCell ⟨g, k, none⟩ u).heap.size (some ⟨g, 0, none⟩) 1 n (xs.set k u) := by
  have hb := h.store k u
  refine ⟨by rw [List.length_set, hl, Nat.mul_one], fun _ => ⟨g, 0, rfl, hb.lt, fun j v hj => ?_⟩⟩
  rw [Nat.zero_add, hb.cell]
  rw [List.getElem?_set] at hj ⊢
  by_cases e : k = j
  · rw [if_pos e] at hj ⊢
    split at hj
    · next h0 =>
      rw [if_pos (by
        have h1 : xs[j]? = some xs[j] := List.getElem?_eq_getElem (by omega)
        have h2 := hx j _ h1
        have := (List.getElem?_eq_some_iff.1 h2).1
        omega)]
      exact hj
    · cases hj
  · rw [if_neg e] at hj ⊢
    exact hx j v hj
theorem u8_int (y : Nat) (h : y < 256) (W : World) : (convert 5 3 (.int .u8 (y : Int))).run Tryd.prog W = .ok (.int .i64 (y : Int)) W := by
  have := conv_u8 (UInt8.ofNat y) W
  rwa [show (UInt8.ofNat y).toNat = y from by rw [UInt8.toNat_ofNat']; omega, show bv (UInt8.ofNat y) = .int .u8 (y : Int) by show Value.int .u8 (((UInt8.ofNat y).toNat : Nat) : Int) = _; rw [show (UInt8.ofNat y).toNat = y from by rw [UInt8.toNat_ofNat']; omega]] at this
theorem basis_len (x : Cd) (A : Option Addr) (c : Nat) (w : World) (hT : Tabs w) (hx : CIn w x A) (hs : List Bool) (D : Option Addr) (cd : Nat) (hl : hs.length ≤ 100000) (hD : Sl w w.heap.size D 1 hs.length (hs.map bl)) (hok : okB x hs = true) :
    Calls Tryd.prog 24 #[x.v A c, .slice D hs.length cd] w fun e w' => ∃ B cb, e = .returned (.tuple #[.slice B (basL x hs).length cb, .int .i64 0]) ∧ Below w.heap.size w w' := by
  have h := basis_any x A c w hT hx hs D cd hl hD
  unfold basR at h
  rw [if_pos hok] at h
  refine h.mono ?_
  rintro e w' ⟨v, rfl, ho, hb⟩
  obtain ⟨B, cb, rfl, _, _⟩ := own_form ho
  exact ⟨B, cb, by simp, hb⟩

set_option maxHeartbeats 1600000 in
set_option maxRecDepth 100000 in
theorem walk (a0 : Cd) (A0 : Option Addr) (c0 : Nat) (l1 : List Bool) (A1 : Option Addr) (c1 : Nat) (y2 : Nat) (w : World) (x0 : CIn w a0 A0) (x1 : Sl w w.heap.size A1 1 l1.length (l1.map bl)) (m1 : l1.length ≤ 9223372036854775807) (w2 : y2 < 256) (T1 : Tabs w) :
    Calls Tryd.prog 7 #[a0.v A0 c0, .slice A1 l1.length c1, .int .u8 (y2 : Int)] w fun e w' => e = .returned (.bool true) ∧ Below w.heap.size w w' := by
  obtain ⟨W0, hW0⟩ : ∃ W, W = w.alloc (.cells (a0.cs A0 c0).toArray 24) := ⟨_, rfl⟩
  have hb0 : Below w.heap.size w W0 := by rw [hW0]; exact below_new w _
  have HB0 := hideIt hb0
  have HBC := hideIt (show BC W0 w.heap.size a0 A0 c0 by rw [hW0]; exact BC.new c0 x0)
  have HT := hideIt (T1.keep hb0)
  have HX := hideIt ((x1.below hb0).wide hb0.size)
  have HWE := hideIt hW0
  have HSA := hideIt (sanity_any W0 HT.out)
  have hnot := not_b
  have HWI := hideIt (fun (W : World) (h : Below W0.heap.size W0 W) => width_any a0 A0 c0 W (HT.out.keep h) (HBC.out.cin.keep h))
  have HSM := hideIt (fun (W : World) (h : Below W0.heap.size W0 W) => small_any a0 A0 c0 W (HBC.out.cin.keep h))
  have hq0 := i_eql 3 .i64 (wC a0) 0
  have hq1 := i_neq 3 .i64 (l1.length : Int) (wC a0)
  have HM := hideIt m1
  clear hW0 hb0 x0 x1 T1 m1
  by_cases hsm : smB a0 = true
  · rw [hsm] at HSM
    by_cases hz : wC a0 = 0
    · rw [decide_eq_true hz] at hq0
      clear hsm hz
      generalize wC a0 = wz at *
      go_enter Tryd.func7, Tryd.ntmps7
      go_wp2_with (first | (go_at_call 11; rw [← HWE.out]; refine HSA.out.mono ?_; rintro e w1 ⟨rfl, hb1⟩; have HB1 := hideIt hb1; clear hb1 HSA) | (go_at_call 21; refine (HWI.out _ HB1.out).mono ?_; rintro e w2 ⟨rfl, hb2⟩; have HB2 := hideIt (HB1.out.trans (hb2.mono HB1.out.size)); clear hb2 HWI) | (go_at_call 12; refine (HSM.out _ HB2.out).mono ?_; rintro e w3 ⟨rfl, hb3⟩; have HB3 := hideIt (HB2.out.trans (hb3.mono HB2.out.size)); clear hb3 HSM) | ((with_reducible refine at_load ?_); refine wpList_ldC (by kernel_rfl) (.tmp 3) rfl (p := w.heap.size) (c := c0) rfl (HBC.out.keep HB2.out).box ?_) | ((with_reducible refine at_load ?_); refine wpList_ldC (by kernel_rfl) (.tmp 3) rfl (p := w.heap.size) (c := c0) rfl (HBC.out.keep HB1.out).box ?_))
      go_ret
      exact ⟨rfl, HB0.out.trans (HB3.out.mono HB0.out.size)⟩
    · rw [decide_eq_false hz] at hq0
      by_cases hle : (l1.length : Int) = wC a0
      · have hvC : vC a0 = true := by
          cases hv : vC a0 with
          | true => rfl
          | false => exact absurd (by unfold wC; rw [hv]; rfl) hz
        obtain ⟨m, n, hvc⟩ := vC_spec hvC
        have hN : l1.length = n + a0.par.length := by
          unfold wC at hle
          rw [if_pos hvC, hvc.d] at hle
          omega
        have hok : okB a0 l1 = true := by
          unfold okB
          rw [hvC, Bool.true_and, hvc.d]
          exact decide_eq_true (by omega)
        have hN0 : 0 < l1.length := by rw [hN]; have := hvc.pos; omega
        have hN32 : l1.length ≤ 32 := by rw [hN]; exact hvc.wid
        have hk : y2 % l1.length < l1.length := Nat.mod_lt _ hN0
        have hrem : binOp .rem 3 (.int .i64 (y2 : Int)) (.int .i64 (l1.length : Int)) = pure (.int .i64 ((y2 % l1.length : Nat) : Int)) := nrem _ y2 _ hN0
        obtain ⟨k, hkd⟩ : ∃ k, k = y2 % l1.length := ⟨_, rfl⟩
        rw [← hkd] at hk hrem
        have hok2 : okB a0 (l1.set k true) = true := by unfold okB; rw [List.length_set]; exact hok
        obtain ⟨z1, z2, z3, z4⟩ := more_help hvc hk
        have hcv := u8_int y2 w2
        have HBA := hideIt (fun (W : World) (h : Below W0.heap.size W0 W) => basis_len a0 A0 c0 W (HT.out.keep h) (HBC.out.cin.keep h) l1 A1 c1 (by omega) ((HX.out.below h).wide h.size) hok)
        have HBB := hideIt (fun (W : World) (h : Below W0.heap.size W0 W) D cd (hD : Sl W W.heap.size D 1 l1.length ((l1.set k true).map bl)) => by
          have := basis_len a0 A0 c0 W (HT.out.keep h) (HBC.out.cin.keep h) (l1.set k true) D cd (by rw [List.length_set]; omega) (by rw [List.length_set]; exact hD) hok2
          rwa [List.length_set] at this)
        have HRA := hideIt (fun (W : World) (h : Below W0.heap.size W0 W) u => recoverable_any a0 A0 c0 W (HT.out.keep h) (HBC.out.cin.keep h) l1 A1 c1 (by omega) ((HX.out.below h).wide h.size) u)
        have HRB := hideIt (fun (W : World) (h : Below W0.heap.size W0 W) D cd (hD : Sl W W.heap.size D 1 l1.length ((l1.set k true).map bl)) u => by
          have := recoverable_any a0 A0 c0 W (HT.out.keep h) (HBC.out.cin.keep h) (l1.set k true) D cd (by rw [List.length_set]; omega) (by rw [List.length_set]; exact hD) u
          rwa [List.length_set] at this)
        have HZ3 := hideIt (fun (i : Nat) (hi : i < l1.length) (h : decide ((combR a0 l1 (i : Int)).2 = 0) = true) => show decide ((combR a0 (l1.set k true) (i : Int)).2 = 0) = true from decide_eq_true ((comb_zero hok2 (by rw [List.length_set]; exact hi)).2 (z3 i ((comb_zero hok hi).1 (of_decide_eq_true h)))))
        have HZ4 := hideIt (show decide ((combR a0 (l1.set k true) (k : Int)).2 = 0) = true from decide_eq_true ((comb_zero hok2 (by rw [List.length_set]; exact hk)).2 z4))
        have HRK := hideIt (fun (W : World) (h : Below W0.heap.size W0 W) D cd (hD : Sl W W.heap.size D 1 l1.length ((l1.set k true).map bl)) => by
          have := HRB.out W h D cd hD (k : Int)
          rwa [HZ4.out] at this)
        have HRI := hideIt (fun (i : Nat) (hi : i < l1.length) (h0 : decide ((combR a0 l1 (i : Int)).2 = 0) = true) (W : World) (h : Below W0.heap.size W0 W) D cd (hD : Sl W W.heap.size D 1 l1.length ((l1.set k true).map bl)) => by
          have := HRB.out W h D cd hD (i : Int)
          rwa [HZ3.out i hi h0] at this)
        clear HZ3 HZ4 HRB
        have hL32 : (basL a0 l1).length ≤ 32 := by rw [basL_vc hvc]; have := bas_le (n := n) (hv := hvF l1) hvc.fm (gC_v hvc) l1.length; have := hvc.wid; omega
        rw [decide_eq_false (show ¬ (l1.length : Int) ≠ wC a0 by omega)] at hq1
        obtain ⟨b1, o1, hA1, hbb1, hcc1⟩ := HX.out.2 (by rw [List.length_map]; exact hN0)
        have HC1 := hideIt (fun (W : World) (h : Below W0.heap.size W0 W) j u (hu : (l1.map bl)[j]? = some u) => show W.cell? ((⟨b1, o1, none⟩ : Addr).add j) = some u by rw [addr_add, h.cell (p := ⟨b1, o1 + j, none⟩) hbb1]; exact hcc1 j u hu)
        have HLS := hideIt (show (l1.map bl).set k (.bool true) = (l1.set k true).map bl by rw [List.map_set])
        subst hA1
        clear hsm hz hvC hok hvc hN z3 z4 hok2 hkd hbb1 hcc1
        rw [← hle] at hq0 hq1 HWI
        clear hle
        generalize (basL a0 l1).length = L at *
        generalize (basL a0 (l1.set k true)).length = L2 at *
        have he0 : binOp .neq 32 (.int .i64 0) (.int .i64 0) = pure (.bool false) := by rw [i_neq]; rfl
        have hinL := inc_c 3 L (by omega)
        have hl1 : decide (L2 < L) = false := decide_eq_false (by omega)
        have hl2 : decide ((L : Int) + 1 < (L2 : Int)) = false := decide_eq_false (by omega)
        have hki : (k : Int) < (l1.length : Int) := by omega
        clear z1 z2
        go_enter Tryd.func7, Tryd.ntmps7
        go_wp2_with (first
          | (go_at_call 11; rw [← HWE.out]; refine HSA.out.mono ?_; rintro e w1 ⟨rfl, hb1⟩; have HB1 := hideIt hb1; clear hb1 HSA) | (go_at_call 21; refine (HWI.out _ HB1.out).mono ?_; rintro e w2 ⟨rfl, hb2⟩; have HB2 := hideIt (HB1.out.trans (hb2.mono HB1.out.size)); clear hb2 HWI) | (go_at_call 12; refine (HSM.out _ HB2.out).mono ?_; rintro e w3 ⟨rfl, hb3⟩; have HB3 := hideIt (HB2.out.trans (hb3.mono HB2.out.size)); clear hb3 HSM) | ((with_reducible refine at_load ?_); refine wpList_ldC (by kernel_rfl) (.tmp 3) rfl (p := w.heap.size) (c := c0) rfl (HBC.out.keep HB2.out).box ?_) | ((with_reducible refine at_load ?_); refine wpList_ldC (by kernel_rfl) (.tmp 3) rfl (p := w.heap.size) (c := c0) rfl (HBC.out.keep HB1.out).box ?_)
          | ((with_reducible refine at_append ?_); refine wpList_apG (base := w3.heap.size) (z := .bool false) (size := 1) (bytes := 1) (n := 0) (m := l1.length) (news := l1.map bl) Tryd.underlying41 (by kernel_rfl) rfl (by decide) (by decide) rfl (.tmp 37) (.tmp 38) rfl rfl (World.ownsRow_lit (base := w3.heap.size) (e := 4) (size := 1) w3 #[] 0 (Nat.le_refl _) (by decide) rfl) rfl (by simp) (fun j u hu => HC1.out _ (HB3.out.trans ((below_new w3 (.cells #[] 4)).mono HB3.out.size)) j u hu) (fun u hu => by obtain ⟨y, _, rfl⟩ := List.mem_map.1 hu; rfl) (by omega) (by simp) ?_; intro v5 w5 HO5 HG5 HA5 HB5; rw [Nat.zero_add] at HO5; have ho5 : w5.ownsRow w3.heap.size 4 1 v5 l1.length (l1.map bl) := HO5.out; obtain ⟨g, cap, cur, rfl, hg1, hg2, hg3, hg4⟩ := own_cur ho5 hN0;  have hfr := hg2.free k; have hce : w5.cell? ⟨g, k, none⟩ = some (.bool l1[k]) := (hg2.cell k).trans (hg3 k _ (by rw [List.getElem?_map, List.getElem?_eq_getElem hk]; rfl)); have HBS := hideIt (below_set (HB3.out.trans (((below_new w3 (.cells #[] 4)).trans HB5.out).mono HB3.out.size)) (Nat.le_trans HB3.out.size hg1) k (.bool true)); have hxs := sl_set (k := k) (u := .bool true) hg2 hg3 hg4; rw [HLS.out] at hxs; have HXS := hideIt hxs; clear hg1 hg2 hg3 hg4 HO5 HA5 hxs ho5)
          | (go_at_call 24; refine (HBA.out _ HBS.out).mono ?_; rintro e w6 ⟨B6, c6, rfl, hb6⟩; have HB6 := hideIt (HBS.out.trans (hb6.mono HBS.out.size)); have HX6 := hideIt ((HXS.out.below hb6).wide hb6.size); clear hb6 HBA)
          | (go_at_call 24; refine (HBB.out _ HB6.out _ _ HX6.out).mono ?_; rintro e w7 ⟨B7, c7, rfl, hb7⟩; have HB7 := hideIt (HB6.out.trans (hb7.mono HB6.out.size)); have HX7 := hideIt ((HX6.out.below hb7).wide hb7.size); clear hb7 HBB)
          | (go_at_call 29; refine (HRK.out _ HB7.out _ _ HX7.out).mono ?_; rintro e w8 ⟨rfl, hb8⟩; have HB8 := hideIt (HB7.out.trans (hb8.mono HB7.out.size)); have HX8 := hideIt ((HX7.out.below hb8).wide hb8.size); clear hb8 HRK)
          | ((with_reducible refine at_load ?_); refine wpList_ldC (by kernel_rfl) (.tmp 3) rfl (p := w.heap.size) (c := c0) rfl (HBC.out.keep HBS.out).box ?_) | ((with_reducible refine at_load ?_); refine wpList_ldC (by kernel_rfl) (.tmp 3) rfl (p := w.heap.size) (c := c0) rfl (HBC.out.keep HB6.out).box ?_) | ((with_reducible refine at_load ?_); refine wpList_ldC (by kernel_rfl) (.tmp 3) rfl (p := w.heap.size) (c := c0) rfl (HBC.out.keep HB7.out).box ?_))
        go_loopg [6, 15] l1.length (fun gk s6 s15 wr => ∃ i : Nat, i + gk = l1.length ∧ s6 = .bool false ∧ s15 = .int .i64 (i : Int) ∧ Aside (Below w8.heap.size w8 wr))
        case atStart => exact ⟨0, by omega, rfl, rfl, Below.refl _ _⟩
        case round =>
          obtain ⟨i, hi, rfl, rfl, HLW⟩ := hrel
          obtain ⟨w9, rfl⟩ : ∃ x, x = wr := ⟨wr, rfl⟩
          have HB9 := hideIt (HB8.out.trans (HLW.out.mono HB8.out.size))
          have HX9 := hideIt ((HX8.out.below HLW.out).wide HLW.out.size)
          by_cases hlt : i < l1.length
          · have hinc := inc_c 3 i (by omega)
            have hji : (i : Int) < (l1.length : Int) := by omega
            have hA := HRA.out _ HB9.out (i : Int)
            cases hra : decide ((combR a0 l1 (i : Int)).2 = 0) with
            | true =>
              rw [hra] at hA
              have HA := hideIt hA
              have HZB := hideIt (HRI.out i hlt hra)
              clear hra hA
              go_wp2_with (first
                | (go_at_call 29; refine HA.out.mono ?_; rintro e w10 ⟨rfl, hb10⟩; have HB10 := hideIt (HB9.out.trans (hb10.mono HB9.out.size)); have HX10 := hideIt ((HX9.out.below hb10).wide hb10.size); have HL10 := hideIt (HLW.out.trans (hb10.mono HLW.out.size)); clear hb10 HA)
                | (go_at_call 29; refine (HZB.out _ HB10.out _ _ HX10.out).mono ?_; rintro e w11 ⟨rfl, hb11⟩; have HL11 := hideIt (HL10.out.trans (hb11.mono HL10.out.size)); clear hb11 HZB)
                | ((with_reducible refine at_load ?_); refine wpList_ldC (by kernel_rfl) (.tmp 3) rfl (p := w.heap.size) (c := c0) rfl (HBC.out.keep HB10.out).box ?_) | ((with_reducible refine at_load ?_); refine wpList_ldC (by kernel_rfl) (.tmp 3) rfl (p := w.heap.size) (c := c0) rfl (HBC.out.keep HB9.out).box ?_))
              go_roundg (gk - 1)
              case measure => omega
              case rel => exact ⟨i + 1, by omega, rfl, by go_num, HL11.out⟩
            | false =>
              rw [hra] at hA
              have HA := hideIt hA
              clear hra hA
              go_wp2_with (first
                | (go_at_call 29; refine HA.out.mono ?_; rintro e w10 ⟨rfl, hb10⟩; have HL10 := hideIt (HLW.out.trans (hb10.mono HLW.out.size)); clear hb10 HA)
                | ((with_reducible refine at_load ?_); refine wpList_ldC (by kernel_rfl) (.tmp 3) rfl (p := w.heap.size) (c := c0) rfl (HBC.out.keep HB9.out).box ?_))
              go_roundg (gk - 1)
              case measure => omega
              case rel => exact ⟨i + 1, by omega, rfl, by go_num, HL10.out⟩
          · have hji : ¬ (i : Int) < (l1.length : Int) := by omega
            go_wp2_with fail
            go_ret
            exact ⟨rfl, HB0.out.trans (HB9.out.mono HB0.out.size)⟩
      · rw [decide_eq_true (show (l1.length : Int) ≠ wC a0 from hle)] at hq1
        clear hsm hz hle
        generalize wC a0 = wz at *
        go_enter Tryd.func7, Tryd.ntmps7
        go_wp2_with (first | (go_at_call 11; rw [← HWE.out]; refine HSA.out.mono ?_; rintro e w1 ⟨rfl, hb1⟩; have HB1 := hideIt hb1; clear hb1 HSA) | (go_at_call 21; refine (HWI.out _ HB1.out).mono ?_; rintro e w2 ⟨rfl, hb2⟩; have HB2 := hideIt (HB1.out.trans (hb2.mono HB1.out.size)); clear hb2 HWI) | (go_at_call 12; refine (HSM.out _ HB2.out).mono ?_; rintro e w3 ⟨rfl, hb3⟩; have HB3 := hideIt (HB2.out.trans (hb3.mono HB2.out.size)); clear hb3 HSM) | ((with_reducible refine at_load ?_); refine wpList_ldC (by kernel_rfl) (.tmp 3) rfl (p := w.heap.size) (c := c0) rfl (HBC.out.keep HB2.out).box ?_) | ((with_reducible refine at_load ?_); refine wpList_ldC (by kernel_rfl) (.tmp 3) rfl (p := w.heap.size) (c := c0) rfl (HBC.out.keep HB1.out).box ?_))
        go_ret
        exact ⟨rfl, HB0.out.trans (HB3.out.mono HB0.out.size)⟩
  · rw [Bool.eq_false_iff.2 hsm] at HSM
    clear hsm
    generalize wC a0 = wz at *
    go_enter Tryd.func7, Tryd.ntmps7
    go_wp2_with (first | (go_at_call 11; rw [← HWE.out]; refine HSA.out.mono ?_; rintro e w1 ⟨rfl, hb1⟩; have HB1 := hideIt hb1; clear hb1 HSA) | (go_at_call 21; refine (HWI.out _ HB1.out).mono ?_; rintro e w2 ⟨rfl, hb2⟩; have HB2 := hideIt (HB1.out.trans (hb2.mono HB1.out.size)); clear hb2 HWI) | (go_at_call 12; refine (HSM.out _ HB2.out).mono ?_; rintro e w3 ⟨rfl, hb3⟩; have HB3 := hideIt (HB2.out.trans (hb3.mono HB2.out.size)); clear hb3 HSM) | ((with_reducible refine at_load ?_); refine wpList_ldC (by kernel_rfl) (.tmp 3) rfl (p := w.heap.size) (c := c0) rfl (HBC.out.keep HB2.out).box ?_) | ((with_reducible refine at_load ?_); refine wpList_ldC (by kernel_rfl) (.tmp 3) rfl (p := w.heap.size) (c := c0) rfl (HBC.out.keep HB1.out).box ?_))
    go_ret
    exact ⟨rfl, HB0.out.trans (HB3.out.mono HB0.out.size)⟩

end Go.Proofs.YtpjgmekpnlpjaaaDoor.erasureMoreUnitsHelp
