/-
  The program's Plan, walked.
-/
import Derived.Test.YtklngodlijiccaaDoorRepJ
namespace Go.Proofs.YtklngodlijiccaaDoor
open Go.RowKit
set_option linter.unusedVariables false
set_option linter.unusedSimpArgs false

theorem own_put {w : World} {base n k g cap : Nat} {e : TypeId} {xs : List Value} {u : Value} (h : w.ownsRow base e 1 (.slice (some ⟨g, 0, none⟩) n cap) n xs) : (w.setCell ⟨g, k, none⟩ u).ownsRow base e 1 (.slice (some ⟨g, 0, none⟩) n cap) n (xs.set k u) := by
  refine ⟨by rw [List.length_set]; exact h.1, ?_⟩
  rcases h.2 with ⟨h0, _⟩ | ⟨g', cap', cur, hv, hb, hg, h1, h2, h3, ht⟩
  · cases h0
  · injection hv with hv1 hv2 hv3
    injection hv1 with hv1
    injection hv1 with hv1 _ _
    subst hv1 hv3
    have hB : Blk w g e cur.toList := by unfold Blk; exact hg
    have hs := hB.store k u
    refine .inr ⟨g, cap, (cur.toList.set k u).toArray, rfl, hb, hs, h1, h2, by simpa using h3, ?_⟩
    rw [← ht]
    simp [List.take_set]
theorem own_at0 {w : World} {base n k : Nat} {e : TypeId} {v : Value} {xs : List Value} (h : w.ownsRow base e 1 v n xs) (hk : k < n) : ∃ g cap cs, v = .slice (some ⟨g, 0, none⟩) n cap ∧ base ≤ g ∧ Blk w g e cs ∧ xs[k]? = cs[k]? := by
  rcases h.2 with ⟨_, h0⟩ | ⟨g, cap, cur, hv, hb, hg, _, _, _, ht⟩
  · omega
  · refine ⟨g, cap, cur.toList, hv, hb, by unfold Blk; exact hg, ?_⟩
    rw [← ht, List.getElem?_take, if_pos (by omega)]
theorem bl_one (l : List Bool) : ∀ u ∈ l.map bl, u.oneCell' = true := fun u hu => by obtain ⟨y, _, rfl⟩ := List.mem_map.1 hu; rfl
theorem eq_nilB (a : Addr) (n c : Nat) (w : World) : (binOp .eql 25 (.slice (some a) n c) (.slice none 0 0)).run Tryd.prog w = .ok (.bool false) w :=
  Lib.run_eql_slice_nil w _ _ _ _ _ _ _ Tryd.underlying25
set_option maxRecDepth 100000 in
set_option maxHeartbeats 1000000 in
theorem cloneB_any (us : List Bool) (h0 : 0 < us.length) (hl : us.length ≤ 50000) (D : Option Addr) (cd : Nat) (w : World) (hs : Sl w w.heap.size D 1 us.length (us.map bl)) :
    Calls Tryd.prog 33 #[.slice D us.length cd] w fun e w' => ∃ g c, e = .returned (.slice (some ⟨g, 0, none⟩) us.length c) ∧ w'.ownsRow w.heap.size 4 1 (.slice (some ⟨g, 0, none⟩) us.length c) us.length (us.map bl) ∧ Below w.heap.size w w' := by
  obtain ⟨b, o, hD, hb, hcell⟩ := hs.2 (by rw [List.length_map]; exact h0)
  subst hD
  have hb0 := below_new w (.cells #[] 4)
  have HN := hideIt (fun j u (h : (us.map bl)[j]? = some u) => show (w.alloc (.cells #[] 4)).cell? ((⟨b, o, none⟩ : Addr).add j) = some u by rw [addr_add, hb0.cell (p := ⟨b, o + j, none⟩) hb]; exact hcell j u h)
  have HO := hideIt (World.ownsRow_lit (base := w.heap.size) (e := 4) (size := 1) w #[] 0 (Nat.le_refl _) (by decide) rfl)
  have HB0 := hideIt hb0
  have hnil := eq_nilB ⟨b, o, none⟩ us.length cd w
  clear hcell hs hb hb0
  go_enter Tryd.func33, Tryd.ntmps33
  go_wp2_with (first
    | ((with_reducible refine at_append ?_); refine wpList_apG (z := .bool false) (size := 1) (bytes := 1) (n := 0) (m := us.length) (news := us.map bl) Tryd.underlying25 (by kernel_rfl) rfl (by decide) (by decide) rfl (.tmp 5) (.tmp 6) rfl rfl HO.out rfl (by simp) HN.out (bl_one us) (by omega) HB0.out.size ?_; intro v' w' HO2 HG2 HA2 HB2))
  go_ret
  have ho := HO2.out
  rw [Nat.zero_add, show (#[] : Array Value).toList ++ us.map bl = us.map bl from rfl] at ho
  obtain ⟨g, cap, cs, rfl, _⟩ := own_at0 ho h0
  exact ⟨g, cap, rfl, ho, HB0.out.trans HB2.out⟩

theorem foldl_none (l : List TL) (h : 0 < l.length) : l.foldl stO none ≠ none := by
  cases l with
  | nil => cases h
  | cons a l =>
    obtain ⟨r, h1, _⟩ := stO_some l a
    exact fun e => by
      have : (a :: l).foldl stO none = l.foldl stO (some a) := rfl
      rw [this, h1] at e
      cases e
set_option maxHeartbeats 2000000 in
set_option maxRecDepth 100000 in
theorem plan_any (x : Cd) (A : Option Addr) (c : Nat) (w : World) (hT : Tabs w) (hx : CIn w x A) (hs : List Bool) (D : Option Addr) (cd : Nat) (hD : Sl w w.heap.size D 1 hs.length (hs.map bl)) (u : Int) :
    Calls Tryd.prog 12 #[x.v A c, .slice D hs.length cd, .int .i64 u] w (PlRes w (planR x hs u)) := by
  obtain ⟨W1, hW1⟩ : ∃ W, W = w.alloc (.cells (x.cs A c).toArray 24) := ⟨_, rfl⟩
  obtain ⟨W, hW⟩ : ∃ W, W = W1.alloc (.cells #[.int .i64 0, .slice none 0 0] 30) := ⟨_, rfl⟩
  have hb1 : Below w.heap.size w W1 := by rw [hW1]; exact below_new w _
  have hb2 : Below W1.heap.size W1 W := by rw [hW]; exact below_new W1 _
  have hbw := hb1.trans (hb2.mono hb1.size)
  have hs1 : W1.heap.size = w.heap.size + 1 := by rw [hW1]; simp
  have hs2 : W.heap.size = w.heap.size + 2 := by rw [hW]; simp [hs1]
  have HS2 := hideIt hs2
  have HB := hideIt hbw
  have HBC := hideIt (show BC W w.heap.size x A c by
    have : BC W1 w.heap.size x A c := by rw [hW1]; exact BC.new c hx
    exact this.keep hb2)
  have HPL := hideIt (show Blk W (w.heap.size + 1) 30 [.int .i64 0, .slice none 0 0] by
    rw [← hs1, hW]; exact Blk.new W1 30 [.int .i64 0, .slice none 0 0])
  have HSD := hideIt ((hD.below hbw).wide hbw.size)
  have HT := hideIt (hT.keep hbw)
  have HPU := hideIt (perBool_any x A c W HT.out HBC.out.cin hs.length D cd)
  have HIX := hideIt (fun W2 => index_any (hs.length : Int) u W2)
  have HWE1 := hideIt hW1
  have HWE := hideIt hW
  have hnot := not_b
  have hok0 : okB x hs = okN x hs.length := okB_okN x hs
  clear hb1 hb2 hbw hs1 hs2 hx hD hW hW1 hT
  cases hok : okN x hs.length with
  | false =>
    have HR := hideIt (show planR x hs u = ((0, []), 1) from if_neg fun h => by rw [hok0, hok] at h; cases h.1)
    rw [hok] at HPU
    rw [HR.out]
    clear hok hok0
    go_enter Tryd.func12, Tryd.ntmps12
    go_wp2_with (first
      | ((with_reducible refine at_load ?_); refine wpList_ldC (by kernel_rfl) (.tmp 3) rfl (p := w.heap.size) (c := c) rfl (by rw [← HWE1.out, ← HWE.out]; exact HBC.out.box) ?_)
      | (go_at_call 31; rw [← HWE1.out, ← HWE.out]; refine HPU.out.mono ?_; rintro e w1 ⟨rfl, hb1⟩; have HB1 := hideIt hb1; have HP1 := hideIt (HPL.out.kept hb1 HPL.out.lt); clear hb1 HPU)
      | ((with_reducible refine at_store ?_); refine wpList_put rfl _ (.tmp 6) (.tmp 21) rfl (w.heap.size + 1) [.int .i64 0, .slice none 0 0] [.int .i64 0, .slice none 0 0] 30 rfl rfl HP1.out iszP rfl (by simp [Value.oneCell']) ?_; intro w8 ht8 hb8; have HT8 := hideIt ht8; have HB8 := hideIt hb8; clear ht8 hb8))
    refine bodyPost_ret (results_two rfl _ _ (w.heap.size + 1) _ _ _ rfl HB8.out Tryd.underlying30 rfl iszP) rfl ?_
    exact ⟨none, 0, rfl, Sl.nil _ _ _ _, (fun _ _ h => by cases h), HT8.out.below (HB.out.trans (HB1.out.mono HB.out.size)) (by omega)⟩
  | true =>
    rw [hok] at HPU hok0
    by_cases hidx : 0 ≤ u ∧ u < (hs.length : Int)
    · obtain ⟨m, n, hvc⟩ := vC_spec (show vC x = true by unfold okN at hok; rw [Bool.and_eq_true] at hok; exact hok.1)
      have hlz : (hs.length : Int) = x.data + x.par.length := by unfold okN at hok; rw [Bool.and_eq_true] at hok; exact of_decide_eq_true hok.2
      have hln : hs.length = n + x.par.length := by have := hvc.d; omega
      have hwid := hvc.wid
      have hpos := hvc.pos
      obtain ⟨k, rfl⟩ : ∃ k : Nat, u = (k : Int) := ⟨u.toNat, by omega⟩
      have hkN : k < hs.length := by omega
      have hki : (k : Int) < (hs.length : Int) := by omega
      have HR := hideIt (show planR x hs (k : Int) = (match besK x hs k x.par.length with | some l => (((k : Int), l), 0) | none => ((0, []), 11)) by
        unfold planR
        rw [if_pos ⟨hok0, decide_eq_true hidx⟩, Int.toNat_natCast]
        cases besK x hs k x.par.length <;> rfl)
      have HBE := hideIt (pal_best hvc hln hok0 hkN)
      have HGD := hideIt (fun L (h : besK x hs k x.par.length = some L) => show 0 < L.length ∧ L.length ≤ 1000 from
        have hg := besK_good hvc hln hok0 hkN _ (Nat.le_refl _) L h
        ⟨good_pos hvc hln hkN hg, by have := hg.len; omega⟩)
      have HPLN := hideIt (fun L (h : L ∈ pal x hs k) => show L.length ≤ 1000 by
        unfold pal at h
        rcases List.mem_append.1 h with h | h
        · obtain ⟨i, hi, rfl⟩ := List.mem_map.1 h
          obtain ⟨h1, h2⟩ := List.mem_filter.1 hi
          have := (trC_good hvc hln (List.mem_range.1 h1) h2).len
          omega
        · cases h0 : bes0 x hs k with
          | none => rw [h0] at h; cases h
          | some B =>
            rw [h0] at h
            rw [List.mem_singleton.1 h]
            have := (bes0_good hvc hok0 hkN h0).len
            omega)
      have hpll := pal_len x hs k
      have HCL := hideIt (fun W2 (h : Below W.heap.size W W2) => cloneB_any hs (by omega) (by omega) D cd W2 ((HSD.out.below h).wide h.size))
      have HCA := hideIt (fun W2 (h : Below W.heap.size W W2) (D2 : Option Addr) (c2 : Nat) (h2 : Sl W2 W2.heap.size D2 1 hs.length ((ot hs k).map bl)) => cands_any x A c W2 (HT.out.keep h) (HBC.out.keep h).cin hvc hs hln hok0 k hkN D2 c2 h2)
      have hidx2 := decide_eq_true hidx
      have hpp : x.par.length ≤ 40 := by omega
      have HHL := hideIt (show (ot hs k).map bl = (hs.map bl).set k (.bool false) by unfold ot; rw [List.map_set])
      clear hok hok0 hlz hln hwid hpos hvc hidx
      generalize pal x hs k = ls at *
      obtain ⟨R, hR⟩ : ∃ R, R = planR x hs (k : Int) := ⟨_, rfl⟩
      rw [← hR] at HR ⊢
      clear hR
      by_cases hz : ls.length = 0
      · have hzi := i_eql 3 .i64 (ls.length : Int) 0
        rw [decide_eq_true (show (ls.length : Int) = 0 by omega)] at hzi
        have HE := hideIt (show R = ((0, []), 11) by
          have h := HBE.out
          rw [List.length_eq_zero_iff.1 hz] at h
          rw [HR.out, ← h]; rfl)
        clear HR HBE HGD HPLN hz
        go_enter Tryd.func12, Tryd.ntmps12
        go_wp2_with (first
          | ((with_reducible refine at_load ?_); refine wpList_ldC (by kernel_rfl) (.tmp 3) rfl (p := w.heap.size) (c := c) rfl (by first | exact HBX6.out | (rw [← HWE1.out, ← HWE.out]; exact HBC.out.box)) ?_)
          | (go_at_call 31; rw [← HWE1.out, ← HWE.out]; refine HPU.out.mono ?_; rintro e w1 ⟨rfl, hb1⟩; have HB1 := hideIt hb1; clear hb1 HPU)
          | (go_at_call 32; refine (HIX.out _).mono ?_; rintro e w2 ⟨rfl, rfl⟩; rw [hidx2]; clear HIX)
          | (go_at_call 33; refine (HCL.out _ HB1.out).mono ?_; rintro e w5 ⟨g5, c5, rfl, ho5, hb5⟩; have HO5 := hideIt ho5; have HL5 := hideIt (HB1.out.trans (hb5.mono HB1.out.size)); obtain ⟨g, cap, cs, hgv, hg1, hg2, hg3⟩ := own_at0 ho5 hkN; injection hgv with hgv _ hcap; injection hgv with hgv; injection hgv with hgv _ _; subst hgv hcap; have hfr := hg2.free k; have hce := hg2.cell k; rw [← hg3, List.getElem?_map, List.getElem?_eq_getElem hkN] at hce; have HP5 := hideIt (own_put (k := k) (u := .bool false) ho5); have HL6 := hideIt (below_set (HB1.out.trans (hb5.mono HB1.out.size)) (Nat.le_trans HB1.out.size hg1) k (.bool false)); have HBX6 := hideIt (HBC.out.keep (below_set (HB1.out.trans (hb5.mono HB1.out.size)) (Nat.le_trans HB1.out.size hg1) k (.bool false))).box; clear ho5 hb5 hg1 hg2 hg3 HCL)
          | (go_at_call 34; refine (HCA.out _ HL6.out _ _ (by rw [HHL.out]; exact Sl.of_own HP5.out)).mono ?_; rintro e w7 ⟨v7, rfl, hj7, hb7⟩; have HJ7 := hideIt hj7; have HB7 := hideIt hb7; obtain ⟨A7, c7, hv7, _⟩ := hj7.form; subst hv7; rw [List.length_map] at HJ7; simp only [List.length_map]; have HP7 := hideIt (HPL.out.kept (HL6.out.trans (hb7.mono HL6.out.size)) HPL.out.lt); have HBW := hideIt (HB.out.trans ((HL6.out.trans (hb7.mono HL6.out.size)).mono HB.out.size)); have HB6 := hideIt HL6.out.size; clear hj7 hb7 HCA)
          | ((with_reducible refine at_store ?_); refine wpList_put rfl _ (.tmp 6) (.tmp 34) rfl (w.heap.size + 1) [.int .i64 0, .slice none 0 0] [.int .i64 0, .slice none 0 0] 30 rfl rfl HP7.out iszP rfl (by simp [Value.oneCell']) ?_; intro w8 ht8 hb8; have HT8 := hideIt ht8; have HB8 := hideIt hb8; clear ht8 hb8))
        refine bodyPost_ret (results_two rfl _ _ (w.heap.size + 1) _ _ _ rfl HB8.out Tryd.underlying30 rfl iszP) rfl ?_
        rw [HE.out]
        exact ⟨none, 0, rfl, Sl.nil _ _ _ _, (fun _ _ h => by cases h), HT8.out.below HBW.out (by omega)⟩
      · have hzi := i_eql 3 .i64 (ls.length : Int) 0
        rw [decide_eq_false (show ¬ (ls.length : Int) = 0 by omega)] at hzi
        go_enter Tryd.func12, Tryd.ntmps12
        go_wp2_with (first
          | ((with_reducible refine at_load ?_); refine wpList_ldC (by kernel_rfl) (.tmp 3) rfl (p := w.heap.size) (c := c) rfl (by first | exact HBX6.out | (rw [← HWE1.out, ← HWE.out]; exact HBC.out.box)) ?_)
          | (go_at_call 31; rw [← HWE1.out, ← HWE.out]; refine HPU.out.mono ?_; rintro e w1 ⟨rfl, hb1⟩; have HB1 := hideIt hb1; clear hb1 HPU)
          | (go_at_call 32; refine (HIX.out _).mono ?_; rintro e w2 ⟨rfl, rfl⟩; rw [hidx2]; clear HIX)
          | (go_at_call 33; refine (HCL.out _ HB1.out).mono ?_; rintro e w5 ⟨g5, c5, rfl, ho5, hb5⟩; have HO5 := hideIt ho5; have HL5 := hideIt (HB1.out.trans (hb5.mono HB1.out.size)); obtain ⟨g, cap, cs, hgv, hg1, hg2, hg3⟩ := own_at0 ho5 hkN; injection hgv with hgv _ hcap; injection hgv with hgv; injection hgv with hgv _ _; subst hgv hcap; have hfr := hg2.free k; have hce := hg2.cell k; rw [← hg3, List.getElem?_map, List.getElem?_eq_getElem hkN] at hce; have HP5 := hideIt (own_put (k := k) (u := .bool false) ho5); have HL6 := hideIt (below_set (HB1.out.trans (hb5.mono HB1.out.size)) (Nat.le_trans HB1.out.size hg1) k (.bool false)); have HBX6 := hideIt (HBC.out.keep (below_set (HB1.out.trans (hb5.mono HB1.out.size)) (Nat.le_trans HB1.out.size hg1) k (.bool false))).box; clear ho5 hb5 hg1 hg2 hg3 HCL)
          | (go_at_call 34; refine (HCA.out _ HL6.out _ _ (by rw [HHL.out]; exact Sl.of_own HP5.out)).mono ?_; rintro e w7 ⟨v7, rfl, hj7, hb7⟩; have HJ7 := hideIt hj7; have HB7 := hideIt hb7; obtain ⟨A7, c7, hv7, _⟩ := hj7.form; subst hv7; rw [List.length_map] at HJ7; simp only [List.length_map]; have HP7 := hideIt (HPL.out.kept (HL6.out.trans (hb7.mono HL6.out.size)) HPL.out.lt); have HBW := hideIt (HB.out.trans ((HL6.out.trans (hb7.mono HL6.out.size)).mono HB.out.size)); have HB6 := hideIt HL6.out.size; clear hj7 hb7 HCA)
          | (go_at_call 35; refine (minf_any (k : Int) ls (by omega) (by omega) HPLN.out _ A7 c7 w7 HJ7.out).mono ?_; rintro e w8 ⟨A8, c8, L8, rfl, hf8, hs8, hl8, hb8⟩; have HF8 := hideIt (HBE.out.symm.trans hf8); have HS8 := hideIt hs8; have HLO8 := hideIt hl8; have HP8 := hideIt (HP7.out.kept hb8 HP7.out.lt); have HBW8 := hideIt (HBW.out.trans (hb8.mono HBW.out.size)); clear hf8 hs8 hl8 hb8)
          | ((with_reducible refine at_store ?_); refine wpList_put rfl _ (.tmp 6) (.tmp 36) rfl (w.heap.size + 1) [.int .i64 (k : Int), .slice A8 L8.length c8] [.int .i64 0, .slice none 0 0] 30 rfl rfl HP8.out iszP rfl (by simp [Value.oneCell']) ?_; intro w9 ht9 hb9; have HT9 := hideIt ht9; have HB9 := hideIt hb9; clear ht9 hb9))
        refine bodyPost_ret (results_two rfl _ _ (w.heap.size + 1) _ _ _ rfl HB9.out Tryd.underlying30 rfl iszP) rfl ?_
        have hg := HGD.out L8 HF8.out
        rw [HR.out, HF8.out]
        have h2 := HS2.out
        have h6 := HB6.out
        exact ⟨A8, c8, rfl, by
          rw [HT9.out.size]
          exact HS8.out.turned HT9.out (fun b o hA => by have h1 := HLO8.out hg.1 b o hA; omega), (fun b o hA => by have h1 := HLO8.out hg.1 b o hA; omega), HT9.out.below HBW8.out (by omega)⟩
    · have HR := hideIt (show planR x hs u = ((0, []), 1) from if_neg fun h => hidx (by have := of_decide_eq_true h.2; omega))
      have hidx2 := decide_eq_false hidx
      rw [HR.out]
      clear hok hok0 hidx
      go_enter Tryd.func12, Tryd.ntmps12
      go_wp2_with (first
        | ((with_reducible refine at_load ?_); refine wpList_ldC (by kernel_rfl) (.tmp 3) rfl (p := w.heap.size) (c := c) rfl (by rw [← HWE1.out, ← HWE.out]; exact HBC.out.box) ?_)
        | (go_at_call 31; rw [← HWE1.out, ← HWE.out]; refine HPU.out.mono ?_; rintro e w1 ⟨rfl, hb1⟩; have HB1 := hideIt hb1; have HP1 := hideIt (HPL.out.kept hb1 HPL.out.lt); clear hb1 HPU)
        | (go_at_call 32; refine (HIX.out _).mono ?_; rintro e w2 ⟨rfl, rfl⟩; rw [hidx2]; clear HIX)
        | ((with_reducible refine at_store ?_); refine wpList_put rfl _ (.tmp 6) (.tmp 21) rfl (w.heap.size + 1) [.int .i64 0, .slice none 0 0] [.int .i64 0, .slice none 0 0] 30 rfl rfl HP1.out iszP rfl (by simp [Value.oneCell']) ?_; intro w8 ht8 hb8; have HT8 := hideIt ht8; have HB8 := hideIt hb8; clear ht8 hb8))
      refine bodyPost_ret (results_two rfl _ _ (w.heap.size + 1) _ _ _ rfl HB8.out Tryd.underlying30 rfl iszP) rfl ?_
      exact ⟨none, 0, rfl, Sl.nil _ _ _ _, (fun _ _ h => by cases h), HT8.out.below (HB.out.trans (HB1.out.mono HB.out.size)) (by omega)⟩
end Go.Proofs.YtklngodlijiccaaDoor
