/-
  terms, walked.
  sum, walked.
  readable, Basis, Combination, Recoverable, Decodable, walked.
  Basis, Combination, Recoverable, Decodable, walked.
  Recover and Decode, walked.
  Small and Few, walked.
  The examples of chapter 8, as plain equations.
  The examples that every statement of layer 8 plays first: sanity.
-/
import Derived.Test.YtpjgmekpnlpjaaaDoorEraR
import Derived.Test.YtpjgmekpnlpjaaaDoorEreA
namespace Go.Proofs.YtpjgmekpnlpjaaaDoor
open Go.RowKit
set_option linter.unusedVariables false
set_option linter.unusedSimpArgs false

theorem VC.ok {x : Cd} {hs : List Bool} (h : okB x hs = true) : ∃ m n, VC x m n ∧ hs.length = n + x.par.length := by
  unfold okB at h
  rw [Bool.and_eq_true] at h
  obtain ⟨m, n, hv⟩ := vC_spec h.1
  have := of_decide_eq_true h.2
  exact ⟨m, n, hv, by have := hv.d; omega⟩
theorem basL_vc {x : Cd} {m n : Nat} (h : VC x m n) (hs : List Bool) : basL x hs = bas m n (gC x) (hvF hs) hs.length := by unfold basL; rw [h.fn, h.dn]
theorem recov_vc {x : Cd} {m n : Nat} (h : VC x m n) (hs : List Bool) (u : Nat) : recov x hs u ↔ Dep m n (basL x hs).length (sel (gC x) (basL x hs)) (gC x u) := by
  show Dep x.field.toNat x.data.toNat _ _ _ ↔ _
  rw [h.fn, h.dn]
theorem cofU_vc {x : Cd} {m n : Nat} (h : VC x m n) (hs : List Bool) (u : Nat) : cofU x hs u = cof m n (basL x hs).length (sel (gC x) (basL x hs)) (gC x u) := by
  show cof x.field.toNat x.data.toNat _ _ _ = _
  rw [h.fn, h.dn]

theorem rdl_at {n k : Nat} (r : Nat → Nat) (hk : k < n) : (((nl (n + n) r).map iv).drop n)[k]? = some (.int .i64 (r (n + k) : Int)) := by
  rw [List.getElem?_drop, iv_at (by omega)]

set_option maxHeartbeats 1600000 in
set_option maxRecDepth 100000 in
theorem terms_any {x : Cd} {m n : Nat} (hvc : VC x m n) (hs : List Bool) {pv : List Nat} {Q : Mx} (hR : Rdc m n (gC x) (basL x hs) pv Q) (u : Nat) (hu : u < n + x.par.length) (pb : Nat) {gA uA rA pA : Option Addr} {gc uc rc pc : Nat} (hgc : (n + x.par.length) * n ≤ gc) (w : World) (hT : Tabs w)
    (hb : Blk w pb 74 (baC (m : Int) ((n + x.par.length : Nat) : Int) (n : Int) (.slice gA ((n + x.par.length) * n) gc) (.slice uA (basL x hs).length uc) (.slice rA (basL x hs).length rc) (.slice pA pv.length pc))) (hM : BaM w x m n (basL x hs) pv Q gA uA rA pA) :
    Calls Tryd.prog 51 #[.pointer (some ⟨pb, 0, none⟩), .int .i64 (u : Int)] w (TermRes w (trmR x hs u)) := by
  have hGV := gC_v hvc
  have hBn : (basL x hs).length ≤ n := by rw [basL_vc hvc]; exact bas_le hvc.fm hGV _
  have hind : Ind m n (basL x hs).length (sel (gC x) (basL x hs)) := by rw [basL_vc hvc]; exact bas_ind hvc.fm hGV _
  have HIS := hideIt (rd_is hvc.fm hR hGV (u := u))
  have hrv := rd_v (Q := Q) (pv := pv) hvc.fm (pad_v (n := n) (hGV u)) (basL x hs).length
  have hcof := fun hz => rd_cof hvc.fm hR hGV (u := u) hz
  have hhi := fun k h1 h2 => rd_hi (Q := Q) (pv := pv) hR (gC x u) (basL x hs).length (Nat.le_refl _) k h1 h2
  have HRD := hideIt (reduced_any hvc hR hBn u hu pb hgc w hT hb hM)
  have HTR := hideIt (fun (hd : Dep m n (basL x hs).length (sel (gC x) (basL x hs)) (gC x u)) => show trmR x hs u = (tms (basL x hs) (fun k => rd m Q pv (pad n (gC x u)) (basL x hs).length (n + k)) n, 0) by
    unfold trmR
    rw [if_pos ((recov_vc hvc hs u).2 hd), cofU_vc hvc]
    congr 1
    have e1 := tms_more (B := basL x hs) (c := fun k => rd m Q pv (pad n (gC x u)) (basL x hs).length (n + k)) (p := (basL x hs).length) (n - (basL x hs).length) (fun i h1 h2 => hhi i h1 (by omega))
    rw [show (basL x hs).length + (n - (basL x hs).length) = n by omega] at e1
    rw [e1]
    exact tms_congr fun i hi => cof_is hind (fun k => hrv _) (hcof ((rd_is hvc.fm hR hGV (u := u)).2 hd)) i hi)
  have HTN := hideIt (fun (hd : ¬ Dep m n (basL x hs).length (sel (gC x) (basL x hs)) (gC x u)) => show trmR x hs u = ([], 11) by
    unfold trmR
    rw [if_neg fun h => hd ((recov_vc hvc hs u).1 h)])
  have HHI := hideIt hhi
  have c2 : w.cell? ⟨pb, 2, none⟩ = some (.int .i64 (n : Int)) := hb.cell 2
  have HB := hideIt hb
  have HM := hideIt hM
  have HBN := hideIt hBn
  have hpos := hvc.pos
  have hwid := hvc.wid
  clear hrv hcof hhi hind hGV hb hM hT hR hvc hBn
  generalize rd m Q pv (pad n (gC x u)) (basL x hs).length = r at *
  generalize basL x hs = B at *
  go_enter Tryd.func51, Tryd.ntmps51
  go_wp2_with (first
    | (go_at_call 70; refine HRD.out.mono ?_; rintro e w7 ⟨g, rfl, hg7, hk7, hb7⟩; have HB7 := hideIt hb7; have HG7 := hideIt (And.intro hg7 hk7); have c2 : w7.cell? ⟨pb, 2, none⟩ = some (.int .i64 (n : Int)) := (HB.out.kept hb7 HB.out.lt).cell 2; clear hg7 hk7 hb7 HRD))
  go_loopg [23] n (fun gk s23 wr => ∃ j : Nat, j + gk = n ∧ s23 = .int .i64 (j : Int) ∧ wr = w7 ∧ Aside (∀ i, i < j → r i = 0))
  case atStart => exact ⟨0, by omega, rfl, rfl, fun i hi => absurd hi (Nat.not_lt_zero i)⟩
  case round =>
    obtain ⟨j, hj, rfl, rfl, HZ⟩ := hrel
    obtain ⟨w7, rfl⟩ : ∃ x, x = wr := ⟨wr, rfl⟩
    by_cases hlt : j < n
    · have hcg := HG7.out.2.cell j
      rw [iv_at (by omega)] at hcg
      have hji : (j : Int) < (n : Int) := by omega
      have hinc := inc_c 3 j (by omega)
      by_cases h0 : r j = 0
      · rw [h0] at hcg
        have HZ2 := hideIt (show ∀ i, i < j + 1 → r i = 0 from fun i hi => by
          by_cases e : i = j
          · rw [e]; exact h0
          · exact HZ.out i (by omega))
        clear h0
        go_wp2_with fail
        go_roundg (gk - 1)
        case measure => omega
        case rel => exact ⟨j + 1, by omega, by go_num, rfl, HZ2.out⟩
      · have hq : binOp .neq 3 (.int .i64 (r j : Int)) (.int .i64 0) = pure (.bool true) := neqT (a := r j) (b := 0) 3 h0
        have HE := hideIt (HTN.out fun hd => h0 (HIS.out.2 hd j hlt))
        clear h0
        generalize r j = rj at hcg hq
        go_wp2_with fail
        go_ret2
        rw [HE.out]
        exact TermRes.nil HB7.out 11
    · have hji : ¬ (j : Int) < (n : Int) := by omega
      have HE := hideIt (HTR.out (HIS.out.1 fun i hi => HZ.out i (by omega)))
      have c2 : w7.cell? ⟨pb, 2, none⟩ = some (.int .i64 (n : Int)) := (HB.out.kept HB7.out HB.out.lt).cell 2
      have hnn : (n : Int) ≤ ((n + n : Nat) : Int) := by omega
      clear HZ hlt hj
      go_wp2_with fail
      clear c2
      go_loopg [9, 38] n (fun gk s9 s38 wr => ∃ i : Nat, i + gk = n ∧ s38 = .int .i64 (i : Int) ∧ Aside (Below w7.heap.size w7 wr) ∧ Aside (wr.ownsRow w7.heap.size 63 2 s9 (tms B (fun k => r (n + k)) i).length (tcs (tms B (fun k => r (n + k)) i))))
      case atStart => exact ⟨0, by omega, rfl, Below.refl _ _, World.ownsRow_nil _ _ _ _⟩
      case round =>
        obtain ⟨i, hi, rfl, HLW, HO⟩ := hrel
        obtain ⟨w8, rfl⟩ : ∃ x, x = wr := ⟨wr, rfl⟩
        obtain ⟨A9, c9, e9, _, _⟩ := own_form HO.out
        subst e9
        by_cases hlt : i < n
        · have hcg := (HG7.out.2.kept HLW.out HG7.out.2.lt).cell (n + i)
          rw [iv_at (by omega)] at hcg
          have hii : (i : Int) < (n : Int) := by omega
          have hinc := inc_c 3 i (by omega)
          by_cases h0 : r (n + i) = 0
          · have HN := hideIt (show tms B (fun k => r (n + k)) (i + 1) = tms B (fun k => r (n + k)) i from if_pos h0)
            rw [h0] at hcg
            clear h0
            go_wp2_with fail
            go_roundg (gk - 1)
            case measure => omega
            case rel => exact ⟨i + 1, by omega, by go_num, HLW.out, by rw [HN.out]; exact HO.out⟩
          · have hq : binOp .neq 3 (.int .i64 (r (n + i) : Int)) (.int .i64 0) = pure (.bool true) := neqT (a := r (n + i)) (b := 0) 3 h0
            have hip : i < B.length := Nat.lt_of_not_le fun hle => h0 (HHI.out i hle hlt)
            have HN := hideIt (show tms B (fun k => r (n + k)) (i + 1) = tms B (fun k => r (n + k)) i ++ [(B.getD i 0, r (n + i))] from if_neg h0)
            have HTL := hideIt (tms_len B (fun k => r (n + k)) i)
            obtain ⟨b, o, v, hA, hb2, hv, hc⟩ := (HM.out.uni.below (HB7.out.trans (HLW.out.mono HB7.out.size))).at_ hip
            rw [iv_at hip] at hv
            injection hv with hv
            subst hv hA
            have hpi : (i : Int) < (B.length : Int) := by omega
            have c4 : w8.cell? ⟨pb, 4, none⟩ = some (.slice (some ⟨b, o, none⟩) B.length uc) := (HB.out.kept (HB7.out.trans (HLW.out.mono HB7.out.size)) HB.out.lt).cell 4
            clear h0 hb2
            generalize r (n + i) = ri at *
            generalize B.getD i 0 = bi at *
            generalize tms B (fun k => r (n + k)) i = L at *
            go_wp2_with (first
              | ((with_reducible refine at_append ?_); refine wpList_apT (t := (bi, ri)) (n := L.length) rfl (.tmp 45) (.tmp 55) rfl rfl HO.out rfl (by have := HTL.out; have := HBN.out; omega) HLW.out.size ?_; intro v9 w9 HO9 HG9 HA9 HB9))
            go_roundg (gk - 1)
            case measure => omega
            case rel => exact ⟨i + 1, by omega, by go_num, HLW.out.trans HB9.out, by rw [HN.out, List.length_append]; exact HO9.out⟩
        · obtain rfl : i = n := by omega
          have hii : ¬ (i : Int) < (i : Int) := by omega
          go_wp2_with fail
          go_ret2
          rw [HE.out]
          exact ⟨_, rfl, by exact own_base HO.out HB7.out.size, HB7.out.trans (HLW.out.mono HB7.out.size)⟩

/-- Rows of a call beside a box of another type. -/
structure GS (N : Nat) (es : Nat → TypeId) (bt : TypeId) (w0 : World) (base pb : Nat) (bc : List Value) (w : World) (vs : Nat → Value) (ks : Nat → Nat) (ls : Nat → List Value) : Prop where
  rn : RN N es w base vs ks ls
  box : Blk w pb bt bc
  ne : ∀ i, i < N → bt ≠ es i
  sz : base ≤ w.heap.size
  low : Below base w0 w
section
variable {N : Nat} {es : Nat → TypeId} {bt : TypeId} {w0 : World} {base pb : Nat} {bc : List Value} {w : World} {vs vs' : Nat → Value} {ks ks' : Nat → Nat} {ls ls' : Nat → List Value}
theorem GS.to (h : GS N es bt w0 base pb bc w vs ks ls) (hv : ∀ i, i < N → vs i = vs' i) (hk : ∀ i, i < N → ks i = ks' i) (hl : ∀ i, i < N → ls i = ls' i) : GS N es bt w0 base pb bc w vs' ks' ls' :=
  ⟨⟨fun i hi => by rw [← hv i hi, ← hk i hi, ← hl i hi]; exact h.rn.own i hi, fun i j hi hj hne => by rw [← hv i hi, ← hv j hj]; exact h.rn.apart i j hi hj hne⟩, h.box, h.ne, h.sz, h.low⟩
theorem GS.step (h : GS N es bt w0 base pb bc w vs ks ls) (r : Nat) (hr : r < N) {w' : World} {v' : Value} {k' : Nat} {l' : List Value} (hg : w.grownBy w' (vs r).ownBlock) (ho : w'.ownsRow base (es r) 1 v' k' l') (hat : v'.ownBlock = (vs r).ownBlock ∨ v'.ownBlock = some w.heap.size) :
    GS N es bt w0 base pb bc w' (upd vs r v') (upd ks r k') (upd ls r l') :=
  ⟨h.rn.step r hr hg ho hat, h.box.grown hg (own_ne (h.rn.own r hr) h.box (h.ne r hr)), h.ne, Nat.le_trans h.sz hg.size, below_grown h.low (h.rn.own r hr) (Nat.le_refl _) h.sz hg⟩
theorem GS.lit (h : GS N es bt w0 base pb bc w vs ks ls) (r : Nat) (hr : r < N) (u : Value) : GS N es bt w0 base pb bc (w.alloc (.cells #[u] (es r))) (upd vs r (.slice (some ⟨w.heap.size, 0, none⟩) 1 1)) (upd ks r 1) (upd ls r [u]) :=
  h.step r hr (grown_alloc w _ _) (World.ownsRow_lit w #[u] 1 h.sz (by decide) rfl) (.inr rfl)
theorem GS.drew (h : GS N es bt w0 base pb bc w vs ks ls) : GS N es bt w0 base pb bc w.drew vs ks ls := ⟨h.rn.below (Below.refl _ w).drew, h.box, h.ne, h.sz, h.low.drew⟩
end
def V4 {α : Type} (a b c d : α) : Nat → α
  | 0 => a | 1 => b | 2 => c | _ => d
def T4 : Nat → TypeId := V4 3 9 3 9
theorem four {p : Nat → Prop} (h0 : p 0) (h1 : p 1) (h2 : p 2) (h3 : p 3) : ∀ i, i < 4 → p i := fun i hi => by
  match i, hi with
  | 0, _ => exact h0
  | 1, _ => exact h1
  | 2, _ => exact h2
  | 3, _ => exact h3

abbrev cfs (L : List (Nat × Nat)) : List Int := L.map fun t => (t.2 : Int)
abbrev sms (L : List (Nat × Nat)) (us : List (List UInt8)) : List (List UInt8) := L.map fun t => us.getD t.1 []

set_option maxHeartbeats 4000000 in
set_option maxRecDepth 100000 in
theorem sum_any (m : Int) (L : List (Nat × Nat)) (us : List (List UInt8)) (hL : L.length ≤ 1000) (hin : ∀ t ∈ L, t.1 < us.length) (hbig : ∀ u ∈ us, u.length ≤ 100000) (hul : us.length ≤ 100000) (A : Option Addr) (ca : Nat) (D : Option Addr) (cd : Nat) (w : World) (hT : Tabs w)
    (ht : Sl w w.heap.size A 2 L.length (tcs L)) (hu : Sl w w.heap.size D 1 us.length (us.map sv)) :
    Calls Tryd.prog 55 #[.int .i64 m, .slice A L.length ca, .slice D us.length cd] w fun e w' => e = .returned (.string (str (sumR m L us))) ∧ Below w.heap.size w w' := by
  have HT := hideIt hT
  have HTE := hideIt ht
  have HU := hideIt hu
  have HIN := hideIt hin
  have HBG := hideIt hbig
  have HCM := hideIt (fun (W : World) (h : Below w.heap.size w W) A ca D cd h1 h2 => combine_any m A ca (cfs L) D cd (sms L us) W (HT.out.keep h) (by rw [List.length_map]; omega) (by
    cases L with
    | nil => simp [sms, ul]
    | cons t r =>
      show (us.getD t.1 []).length ≤ _
      have := HIN.out t (List.mem_cons_self)
      rw [show us.getD t.1 [] = us[t.1] by simp [List.getD_eq_getElem?_getD, this]]
      exact HBG.out _ (List.getElem_mem _)) h1 h2)
  rw [List.length_map, List.length_map] at HCM
  obtain ⟨q, hq⟩ : ∃ q, q = L.length := ⟨_, rfl⟩
  have HQ0 := hideIt hq
  rw [← hq] at hL HCM ⊢
  clear hT ht hu hin hbig hq
  go_enter Tryd.func55, Tryd.ntmps55
  go_wp2_with fail
  go_loopg [7, 8, 15] q (fun gk s7 s8 s15 wr => ∃ k : Nat, k + gk = q ∧ s15 = .int .i64 (k : Int) ∧ Aside (Below w.heap.size w wr) ∧ Aside (wr.ownsRow w.heap.size 3 1 s7 k ((cfs (L.take k)).map iv)) ∧ Aside (wr.ownsRow w.heap.size 9 1 s8 k ((sms (L.take k) us).map sv)))
  case atStart => exact ⟨0, by omega, rfl, Below.refl _ _, World.ownsRow_nil _ _ _ _, World.ownsRow_nil _ _ _ _⟩
  case round =>
    obtain ⟨k, hk, rfl, HLW, HO7, HO8⟩ := hrel
    obtain ⟨w5, rfl⟩ : ∃ x, x = wr := ⟨wr, rfl⟩
    obtain ⟨A7, c7, e7, _, _⟩ := own_form HO7.out
    obtain ⟨A8, c8, e8, _, _⟩ := own_form HO8.out
    subst e7 e8
    by_cases hlt : k < q
    · have hkl : k < L.length := by rw [← HQ0.out]; exact hlt
      have h1 := HIN.out _ (List.getElem_mem hkl)
      obtain ⟨b, o, hA, hb, hc⟩ := (HTE.out.below HLW.out).2 (by rw [tcs_len]; omega)
      have hcu := hc _ _ (tcs_at L k hkl).1
      have hcc := hc _ _ (tcs_at L k hkl).2
      obtain ⟨b2, o2, hD, hb2, hcs⟩ := (HU.out.below HLW.out).strs (by omega)
      have hcs1 := hcs _ h1
      have HTK := hideIt (take_snoc L k hkl)
      have hgd : us.getD (L[k]).1 [] = us[(L[k]).1] := by simp [List.getD_eq_getElem?_getD, h1]
      have HN1 := hideIt (show (cfs (L.take (k + 1))).map iv = (cfs (L.take k)).map iv ++ [.int .i64 ((L[k]).2 : Int)] by rw [take_snoc L k hkl]; unfold cfs; rw [List.map_append, List.map_append]; rfl)
      have HN2 := hideIt (show (sms (L.take (k + 1)) us).map sv = (sms (L.take k) us).map sv ++ [sv us[(L[k]).1]] by rw [take_snoc L k hkl]; unfold sms; rw [List.map_append, List.map_append, ← hgd]; rfl)
      have hun : ((L[k]).1 : Int) < (us.length : Int) := by omega
      have hinc := inc_c 3 k (by omega)
      have hki : (k : Int) < (q : Int) := by omega
      generalize us[(L[k]).1] = s0 at *
      generalize (L[k]).1 = un at *
      generalize (L[k]).2 = cf at *
      rw [← Nat.add_assoc] at hcc
      subst hA hD
      clear hc hcs hgd h1 hkl HTK hb
      have HB2 := hideIt hb2
      clear hb2
      go_wp2_with fail
      obtain ⟨p, hp⟩ : ∃ p, p = w5.heap.size := ⟨_, rfl⟩
      obtain ⟨w6, hw6⟩ : ∃ W, W = w5.alloc (.cells #[.int .i64 (un : Int), .int .i64 (cf : Int)] 63) := ⟨_, rfl⟩
      have hbx : Blk w6 p 63 [.int .i64 (un : Int), .int .i64 (cf : Int)] := by rw [hw6, hp]; exact Blk.new w5 63 [.int .i64 (un : Int), .int .i64 (cf : Int)]
      have hb6 : Below w5.heap.size w5 w6 := by rw [hw6]; exact below_new w5 _
      have HB6 := hideIt hb6
      have HBS := hideIt (show w.heap.size ≤ w6.heap.size from Nat.le_trans HLW.out.size hb6.size)
      obtain ⟨v7, hv7⟩ : ∃ v, v = (.slice A7 k c7 : Value) := ⟨_, rfl⟩
      obtain ⟨v8, hv8⟩ : ∃ v, v = (.slice A8 k c8 : Value) := ⟨_, rfl⟩
      have ho7 := own_kept HO7.out hb6
      have ho8 := own_kept HO8.out hb6
      rw [← hv7] at ho7
      rw [← hv8] at ho8
      have HE0 := hideIt (show GS 4 T4 63 w6 w.heap.size p [.int .i64 (un : Int), .int .i64 (cf : Int)] w6 (V4 v7 v8 (.slice none 0 0) (.slice none 0 0)) (V4 k k 0 0) (V4 ((cfs (L.take k)).map iv) ((sms (L.take k) us).map sv) [] []) from
        ⟨⟨four ho7 ho8 (World.ownsRow_nil _ _ _ _) (World.ownsRow_nil _ _ _ _), by
          intro i j hi hj
          have e1 := own_apart2 ho7 ho8 (by decide)
          have en : ∀ v : Value, Apart v (.slice none 0 0) := fun v k _ h => by cases h
          have en2 : ∀ v : Value, Apart (.slice none 0 0) v := fun v k h _ => by cases h
          match i, hi, j, hj with
          | 0, _, 0, _ => exact fun h => absurd rfl h
          | 0, _, 1, _ => exact fun _ => e1
          | 0, _, 2, _ => exact fun _ => en _
          | 0, _, 3, _ => exact fun _ => en _
          | 1, _, 0, _ => exact fun _ => e1.symm
          | 1, _, 1, _ => exact fun h => absurd rfl h
          | 1, _, 2, _ => exact fun _ => en _
          | 1, _, 3, _ => exact fun _ => en _
          | 2, _, 0, _ => exact fun _ => en2 _
          | 2, _, 1, _ => exact fun _ => en2 _
          | 2, _, 2, _ => exact fun h => absurd rfl h
          | 2, _, 3, _ => exact fun _ => en2 _
          | 3, _, 0, _ => exact fun _ => en2 _
          | 3, _, 1, _ => exact fun _ => en2 _
          | 3, _, 2, _ => exact fun _ => en2 _
          | 3, _, 3, _ => exact fun h => absurd rfl h⟩, hbx, four (by decide) (by decide) (by decide) (by decide), HBS.out, Below.refl _ _⟩)
      have HLK := hideIt (show k ≤ 999 by omega)
      rw [← hp, ← hw6, ← hv7, ← hv8]
      have c1 : w6.cell? ⟨p, 1, none⟩ = some (.int .i64 (cf : Int)) := hbx.cell 1
      have c0 : w6.cell? ⟨p, 0, none⟩ = some (.int .i64 (un : Int)) := hbx.cell 0
      have HCS := hideIt (show w5.cell? ⟨b2, o2 + un, none⟩ = some (sv s0) from hcs1)
      have c2 : w6.cell? ⟨b2, o2 + un, none⟩ = some (sv s0) := (hb6.cell (p := ⟨b2, o2 + un, none⟩) (Nat.lt_of_lt_of_le HB2.out HLW.out.size)).trans hcs1
      have HC2 := hideIt c2
      clear hp hw6 hbx hb6 hv7 hv8 ho7 ho8 hcu hcc hcs1
      generalize (cfs (L.take k)).map iv = cs at *
      generalize (sms (L.take k) us).map sv = ss at *
      refine loads_begin_n 15 [(3, fun W => W.cell? ⟨p, 1, none⟩ = some (.int .i64 (cf : Int))), (14, fun W => W.cell? ⟨p, 0, none⟩ = some (.int .i64 (un : Int))), (11, fun W => W.cell? ⟨b2, o2 + un, none⟩ = some (sv s0))] rfl (by kernel_rfl) ?_
      refine wpAnyL_move (oi := ⟨some 19, _, _, _, _, _⟩) 0 ?_ rfl (by kernel_rfl) (by kernel_rfl) (by kernel_rfl) (by kernel_rfl) (fun _ _ _ h => h) (by kernel_rfl) ?_ ((Hooks.add c1 (Hooks.add c0 (Hooks.add c2 (Hooks.nil _ _))))) ?_
      rotate_left
      · intro W'; go_simp; first | done | with_reducible rfl
      try simp only [Act.put]
      try simp only [List.setIfInBounds_toArray]
      try simp only [List.set_cons_succ]
      try simp only [List.set_cons_zero]
      refine wpAnyL_move (oi := ⟨some 20, _, _, _, _, _⟩) 1 ?_ rfl (by kernel_rfl) (by kernel_rfl) (by kernel_rfl) (by kernel_rfl) (fun _ _ _ h => h) (by kernel_rfl) ?_ ((Hooks.add c1 (Hooks.add c0 (Hooks.add c2 (Hooks.nil _ _))))) ?_
      rotate_left
      · intro W'; go_simp; first | done | with_reducible rfl
      try simp only [Act.put]
      try simp only [List.setIfInBounds_toArray]
      try simp only [List.set_cons_succ]
      try simp only [List.set_cons_zero]
      refine wpAnyL_take (oi := ⟨some 21, _, _, _, _, _⟩) 2 3 (.int .i64 (cf : Int)) _ rfl (by kernel_rfl) (by kernel_rfl) (by kernel_rfl) (by kernel_rfl) (by kernel_rfl) (by kernel_rfl) (.head _) (fun _ _ _ h => h) (by kernel_rfl) (fun W' hW' => by (try dsimp only at hW'); go_simp) (Hooks.add c1 (Hooks.add c0 (Hooks.add c2 (Hooks.nil _ _)))) ?_
      try simp only [Act.put]
      try simp only [List.setIfInBounds_toArray]
      try simp only [List.set_cons_succ]
      try simp only [List.set_cons_zero]
      refine wpAnyL_move (oi := ⟨some 24, _, _, _, _, _⟩) 5 ?_ rfl (by kernel_rfl) (by kernel_rfl) (by kernel_rfl) (by kernel_rfl) (fun _ _ _ h => h) (by kernel_rfl) ?_ ((Hooks.add c1 (Hooks.add c0 (Hooks.add c2 (Hooks.nil _ _))))) ?_
      rotate_left
      · intro W'; go_simp; first | done | with_reducible rfl
      try simp only [Act.put]
      try simp only [List.setIfInBounds_toArray]
      try simp only [List.set_cons_succ]
      try simp only [List.set_cons_zero]
      refine wpAnyL_move (oi := ⟨some 25, _, _, _, _, _⟩) 6 ?_ rfl (by kernel_rfl) (by kernel_rfl) (by kernel_rfl) (by kernel_rfl) (fun _ _ _ h => h) (by kernel_rfl) ?_ ((Hooks.add c1 (Hooks.add c0 (Hooks.add c2 (Hooks.nil _ _))))) ?_
      rotate_left
      · intro W'; go_simp; first | done | with_reducible rfl
      try simp only [Act.put]
      try simp only [List.setIfInBounds_toArray]
      try simp only [List.set_cons_succ]
      try simp only [List.set_cons_zero]
      refine wpAnyL_move (oi := ⟨some 26, _, _, _, _, _⟩) 7 ?_ rfl (by kernel_rfl) (by kernel_rfl) (by kernel_rfl) (by kernel_rfl) (fun _ _ _ h => h) (by kernel_rfl) ?_ ((Hooks.add c1 (Hooks.add c0 (Hooks.add c2 (Hooks.nil _ _))))) ?_
      rotate_left
      · intro W'; go_simp; first | done | with_reducible rfl
      try simp only [Act.put]
      try simp only [List.setIfInBounds_toArray]
      try simp only [List.set_cons_succ]
      try simp only [List.set_cons_zero]
      refine wpAnyL_take (oi := ⟨some 27, _, _, _, _, _⟩) 8 14 (.int .i64 (un : Int)) _ rfl (by kernel_rfl) (by kernel_rfl) (by kernel_rfl) (by kernel_rfl) (by kernel_rfl) (by kernel_rfl) (.tail _ (.head _)) (fun _ _ _ h => h) (by kernel_rfl) (fun W' hW' => by (try dsimp only at hW'); go_simp) (Hooks.add c1 (Hooks.add c0 (Hooks.add c2 (Hooks.nil _ _)))) ?_
      try simp only [Act.put]
      try simp only [List.setIfInBounds_toArray]
      try simp only [List.set_cons_succ]
      try simp only [List.set_cons_zero]
      refine wpAnyL_move (oi := ⟨some 28, _, _, _, _, _⟩) 9 ?_ rfl (by kernel_rfl) (by kernel_rfl) (by kernel_rfl) (by kernel_rfl) (fun _ _ _ h => h) (by kernel_rfl) ?_ ((Hooks.add c1 (Hooks.add c0 (Hooks.add c2 (Hooks.nil _ _))))) ?_
      rotate_left
      · intro W'; go_simp; first | done | with_reducible rfl
      try simp only [Act.put]
      try simp only [List.setIfInBounds_toArray]
      try simp only [List.set_cons_succ]
      try simp only [List.set_cons_zero]
      refine wpAnyL_take (oi := ⟨some 29, _, _, _, _, _⟩) 10 11 (sv s0) _ rfl (by kernel_rfl) (by kernel_rfl) (by kernel_rfl) (by kernel_rfl) (by kernel_rfl) (by kernel_rfl) (.tail _ (.tail _ (.head _))) (fun _ _ _ h => h) (by kernel_rfl) (fun W' hW' => by (try dsimp only at hW'); go_simp) (Hooks.add c1 (Hooks.add c0 (Hooks.add c2 (Hooks.nil _ _)))) ?_
      try simp only [Act.put]
      try simp only [List.setIfInBounds_toArray]
      try simp only [List.set_cons_succ]
      try simp only [List.set_cons_zero]
      obtain ⟨w9, hw9⟩ : ∃ W, W = w6.drew := ⟨_, rfl⟩
      have HE := hideIt (show GS 4 T4 63 w6 w.heap.size p [.int .i64 (un : Int), .int .i64 (cf : Int)] w9 _ _ _ by rw [hw9]; exact HE0.out.drew)
      have HQ := hideIt (fun (bb : Array Bool) (W : World) (h1 : Blk W p 63 [.int .i64 (un : Int), .int .i64 (cf : Int)]) (h2 : Below w.heap.size w6 W) => show Hooks [(3, fun W => W.cell? ⟨p, 1, none⟩ = some (.int .i64 (cf : Int))), (14, fun W => W.cell? ⟨p, 0, none⟩ = some (.int .i64 (un : Int))), (11, fun W => W.cell? ⟨b2, o2 + un, none⟩ = some (sv s0))] bb W from Hooks.add (h1.cell 1) (Hooks.add (h1.cell 0) (Hooks.add ((h2.cell (p := ⟨b2, o2 + un, none⟩) HB2.out).trans HC2.out) (Hooks.nil _ _))))
      rw [← hw9]
      clear HE0 hw9 c0 c1 c2
      refine wpAnyL_two (oi := ⟨some 22, _, _, _, _, _⟩) (oj := ⟨some 30, _, _, _, _, _⟩) 3 11 (by kernel_rfl) rfl rfl (fun K hK => ?_) (fun K hK => ?_)
      · go_wp2_with fail
        have HE2 := hideIt (show GS _ _ _ _ _ _ _ (w9.alloc (.cells #[.int .i64 (cf : Int)] 3)) _ _ _ from (HE.out.lit 2 (by decide) (.int .i64 (cf : Int))).to (vs' := V4 (v7) (v8) (.slice (some ⟨w9.heap.size, 0, none⟩) 1 1) (.slice none 0 0)) (ks' := V4 (k) (k) (1) (0)) (ls' := V4 (cs) (ss) ([.int .i64 (cf : Int)]) ([])) (four rfl rfl rfl rfl) (four rfl rfl rfl rfl) (four rfl rfl rfl rfl))
        clear HE
        obtain ⟨w21, hw21⟩ : ∃ W, W = w9.alloc (.cells #[.int .i64 (cf : Int)] 3) := ⟨_, rfl⟩
        obtain ⟨b21, hb21⟩ : ∃ b, b = w9.heap.size := ⟨_, rfl⟩
        rw [← hw21, ← hb21] at HE2
        rw [← hw21, ← hb21]
        have HE := HE2
        clear HE2 hw21 hb21
        refine hK _ _ (HQ.out _ _ HE.out.box HE.out.low) ?_
        clear hK K
        refine wpAnyL_two (oi := ⟨some 23, _, _, _, _, _⟩) (oj := ⟨some 30, _, _, _, _, _⟩) 4 11 (by kernel_rfl) rfl rfl (fun K hK => ?_) (fun K hK => ?_)
        · go_wp2_with ((with_reducible refine at_append ?_); refine wpList_apG (z := .int .i64 0) (size := 1) (bytes := 8) (n := k) (m := 1) (news := [.int .i64 (cf : Int)]) (xs := cs) (ad := ⟨b21, 0, none⟩) Tryd.underlying29 (by kernel_rfl) rfl (by decide) (by decide) rfl (.tmp 19) (.tmp 22) rfl rfl (HE.out.rn.own 0 (by decide)) rfl rfl ((HE.out.rn.own 2 (by decide)).cells (g := b21) rfl) (ones_one rfl) (by omega) HE.out.sz ?_; intro v9 w22 HO9 HG9 HA9 HB9)
          obtain ⟨A22, k22, e9, _, _⟩ := own_form HO9.out
          subst e9
          have HE2 := hideIt ((HE.out.step 0 (by decide) HG9.out HO9.out HA9.out).to (vs' := V4 (.slice A22 (k + 1) k22) (v8) (.slice (some ⟨b21, 0, none⟩) 1 1) (.slice none 0 0)) (ks' := V4 (k + 1) (k) (1) (0)) (ls' := V4 (cs ++ [.int .i64 (cf : Int)]) (ss) ([.int .i64 (cf : Int)]) ([])) (four rfl rfl rfl rfl) (four rfl rfl rfl rfl) (four rfl rfl rfl rfl))
          clear HE HO9 HG9 HA9 HB9
          have HE := HE2
          clear HE2
          refine hK _ _ (HQ.out _ _ HE.out.box HE.out.low) ?_
          clear hK K
          refine wpAnyL_one (o := ⟨some 30, _, _, _, _, _⟩) 11 (by kernel_rfl) rfl (fun K hK => ?_)
          go_wp2_with fail
          have HE2 := hideIt (show GS _ _ _ _ _ _ _ (w22.alloc (.cells #[sv s0] 9)) _ _ _ from (HE.out.lit 3 (by decide) (sv s0)).to (vs' := V4 (.slice A22 (k + 1) k22) (v8) (.slice (some ⟨b21, 0, none⟩) 1 1) (.slice (some ⟨w22.heap.size, 0, none⟩) 1 1)) (ks' := V4 (k + 1) (k) (1) (1)) (ls' := V4 (cs ++ [.int .i64 (cf : Int)]) (ss) ([.int .i64 (cf : Int)]) ([sv s0])) (four rfl rfl rfl rfl) (four rfl rfl rfl rfl) (four rfl rfl rfl rfl))
          clear HE
          obtain ⟨w23, hw23⟩ : ∃ W, W = w22.alloc (.cells #[sv s0] 9) := ⟨_, rfl⟩
          obtain ⟨b23, hb23⟩ : ∃ b, b = w22.heap.size := ⟨_, rfl⟩
          rw [← hw23, ← hb23] at HE2
          rw [← hw23, ← hb23]
          have HE := HE2
          clear HE2 hw23 hb23
          refine hK _ _ (HQ.out _ _ HE.out.box HE.out.low) ?_
          clear hK K
          refine wpAnyL_one (o := ⟨some 31, _, _, _, _, _⟩) 12 (by kernel_rfl) rfl (fun K hK => ?_)
          go_wp2_with ((with_reducible refine at_append ?_); refine wpList_apG (z := .string ⟨#[]⟩) (size := 1) (bytes := 16) (n := k) (m := 1) (news := [sv s0]) (xs := ss) (ad := ⟨b23, 0, none⟩) Tryd.underlying25 (by kernel_rfl) rfl (by decide) (by decide) rfl (.tmp 24) (.tmp 30) rfl rfl (HE.out.rn.own 1 (by decide)) rfl rfl ((HE.out.rn.own 3 (by decide)).cells (g := b23) rfl) (ones_one rfl) (by omega) HE.out.sz ?_; intro v9 w24 HO9 HG9 HA9 HB9)
          obtain ⟨A24, k24, e9, _, _⟩ := own_form HO9.out
          subst e9
          have HE2 := hideIt ((HE.out.step 1 (by decide) HG9.out HO9.out HA9.out).to (vs' := V4 (.slice A22 (k + 1) k22) (.slice A24 (k + 1) k24) (.slice (some ⟨b21, 0, none⟩) 1 1) (.slice (some ⟨b23, 0, none⟩) 1 1)) (ks' := V4 (k + 1) (k + 1) (1) (1)) (ls' := V4 (cs ++ [.int .i64 (cf : Int)]) (ss ++ [sv s0]) ([.int .i64 (cf : Int)]) ([sv s0])) (four rfl rfl rfl rfl) (four rfl rfl rfl rfl) (four rfl rfl rfl rfl))
          clear HE HO9 HG9 HA9 HB9
          have HE := HE2
          clear HE2
          refine hK _ _ (HQ.out _ _ HE.out.box HE.out.low) ?_
          clear hK K
          refine wpAnyL_one (o := ⟨some 7, _, _, _, _, _⟩) 13 (by kernel_rfl) rfl (fun K hK => ?_)
          go_wp2_with fail
          refine hK _ _ (HQ.out _ _ HE.out.box HE.out.low) ?_
          clear hK K
          refine loads_tail 14 (by kernel_rfl) (by kernel_rfl) (by kernel_rfl) (by kernel_rfl) ?_
          simp only [List.drop_succ_cons, List.drop_zero]
          go_wp2_with fail
          go_roundg (gk - 1)
          case measure => omega
          case rel => exact ⟨k + 1, by omega, by go_num, (HLW.out.trans (HB6.out.mono HLW.out.size)).trans HE.out.low, HN1.out ▸ own_base (HE.out.rn.own 0 (by decide)) (Nat.le_refl _), HN2.out ▸ own_base (HE.out.rn.own 1 (by decide)) (Nat.le_refl _)⟩
        · go_wp2_with fail
          have HE2 := hideIt (show GS _ _ _ _ _ _ _ (w21.alloc (.cells #[sv s0] 9)) _ _ _ from (HE.out.lit 3 (by decide) (sv s0)).to (vs' := V4 (v7) (v8) (.slice (some ⟨b21, 0, none⟩) 1 1) (.slice (some ⟨w21.heap.size, 0, none⟩) 1 1)) (ks' := V4 (k) (k) (1) (1)) (ls' := V4 (cs) (ss) ([.int .i64 (cf : Int)]) ([sv s0])) (four rfl rfl rfl rfl) (four rfl rfl rfl rfl) (four rfl rfl rfl rfl))
          clear HE
          obtain ⟨w25, hw25⟩ : ∃ W, W = w21.alloc (.cells #[sv s0] 9) := ⟨_, rfl⟩
          obtain ⟨b25, hb25⟩ : ∃ b, b = w21.heap.size := ⟨_, rfl⟩
          rw [← hw25, ← hb25] at HE2
          rw [← hw25, ← hb25]
          have HE := HE2
          clear HE2 hw25 hb25
          refine hK _ _ (HQ.out _ _ HE.out.box HE.out.low) ?_
          clear hK K
          refine wpAnyL_one (o := ⟨some 23, _, _, _, _, _⟩) 4 (by kernel_rfl) rfl (fun K hK => ?_)
          go_wp2_with ((with_reducible refine at_append ?_); refine wpList_apG (z := .int .i64 0) (size := 1) (bytes := 8) (n := k) (m := 1) (news := [.int .i64 (cf : Int)]) (xs := cs) (ad := ⟨b21, 0, none⟩) Tryd.underlying29 (by kernel_rfl) rfl (by decide) (by decide) rfl (.tmp 19) (.tmp 22) rfl rfl (HE.out.rn.own 0 (by decide)) rfl rfl ((HE.out.rn.own 2 (by decide)).cells (g := b21) rfl) (ones_one rfl) (by omega) HE.out.sz ?_; intro v9 w26 HO9 HG9 HA9 HB9)
          obtain ⟨A26, k26, e9, _, _⟩ := own_form HO9.out
          subst e9
          have HE2 := hideIt ((HE.out.step 0 (by decide) HG9.out HO9.out HA9.out).to (vs' := V4 (.slice A26 (k + 1) k26) (v8) (.slice (some ⟨b21, 0, none⟩) 1 1) (.slice (some ⟨b25, 0, none⟩) 1 1)) (ks' := V4 (k + 1) (k) (1) (1)) (ls' := V4 (cs ++ [.int .i64 (cf : Int)]) (ss) ([.int .i64 (cf : Int)]) ([sv s0])) (four rfl rfl rfl rfl) (four rfl rfl rfl rfl) (four rfl rfl rfl rfl))
          clear HE HO9 HG9 HA9 HB9
          have HE := HE2
          clear HE2
          refine hK _ _ (HQ.out _ _ HE.out.box HE.out.low) ?_
          clear hK K
          refine wpAnyL_one (o := ⟨some 31, _, _, _, _, _⟩) 12 (by kernel_rfl) rfl (fun K hK => ?_)
          go_wp2_with ((with_reducible refine at_append ?_); refine wpList_apG (z := .string ⟨#[]⟩) (size := 1) (bytes := 16) (n := k) (m := 1) (news := [sv s0]) (xs := ss) (ad := ⟨b25, 0, none⟩) Tryd.underlying25 (by kernel_rfl) rfl (by decide) (by decide) rfl (.tmp 24) (.tmp 30) rfl rfl (HE.out.rn.own 1 (by decide)) rfl rfl ((HE.out.rn.own 3 (by decide)).cells (g := b25) rfl) (ones_one rfl) (by omega) HE.out.sz ?_; intro v9 w27 HO9 HG9 HA9 HB9)
          obtain ⟨A27, k27, e9, _, _⟩ := own_form HO9.out
          subst e9
          have HE2 := hideIt ((HE.out.step 1 (by decide) HG9.out HO9.out HA9.out).to (vs' := V4 (.slice A26 (k + 1) k26) (.slice A27 (k + 1) k27) (.slice (some ⟨b21, 0, none⟩) 1 1) (.slice (some ⟨b25, 0, none⟩) 1 1)) (ks' := V4 (k + 1) (k + 1) (1) (1)) (ls' := V4 (cs ++ [.int .i64 (cf : Int)]) (ss ++ [sv s0]) ([.int .i64 (cf : Int)]) ([sv s0])) (four rfl rfl rfl rfl) (four rfl rfl rfl rfl) (four rfl rfl rfl rfl))
          clear HE HO9 HG9 HA9 HB9
          have HE := HE2
          clear HE2
          refine hK _ _ (HQ.out _ _ HE.out.box HE.out.low) ?_
          clear hK K
          refine wpAnyL_one (o := ⟨some 7, _, _, _, _, _⟩) 13 (by kernel_rfl) rfl (fun K hK => ?_)
          go_wp2_with fail
          refine hK _ _ (HQ.out _ _ HE.out.box HE.out.low) ?_
          clear hK K
          refine loads_tail 14 (by kernel_rfl) (by kernel_rfl) (by kernel_rfl) (by kernel_rfl) ?_
          simp only [List.drop_succ_cons, List.drop_zero]
          go_wp2_with fail
          go_roundg (gk - 1)
          case measure => omega
          case rel => exact ⟨k + 1, by omega, by go_num, (HLW.out.trans (HB6.out.mono HLW.out.size)).trans HE.out.low, HN1.out ▸ own_base (HE.out.rn.own 0 (by decide)) (Nat.le_refl _), HN2.out ▸ own_base (HE.out.rn.own 1 (by decide)) (Nat.le_refl _)⟩
      · go_wp2_with fail
        have HE2 := hideIt (show GS _ _ _ _ _ _ _ (w9.alloc (.cells #[sv s0] 9)) _ _ _ from (HE.out.lit 3 (by decide) (sv s0)).to (vs' := V4 (v7) (v8) (.slice none 0 0) (.slice (some ⟨w9.heap.size, 0, none⟩) 1 1)) (ks' := V4 (k) (k) (0) (1)) (ls' := V4 (cs) (ss) ([]) ([sv s0])) (four rfl rfl rfl rfl) (four rfl rfl rfl rfl) (four rfl rfl rfl rfl))
        clear HE
        obtain ⟨w28, hw28⟩ : ∃ W, W = w9.alloc (.cells #[sv s0] 9) := ⟨_, rfl⟩
        obtain ⟨b28, hb28⟩ : ∃ b, b = w9.heap.size := ⟨_, rfl⟩
        rw [← hw28, ← hb28] at HE2
        rw [← hw28, ← hb28]
        have HE := HE2
        clear HE2 hw28 hb28
        refine hK _ _ (HQ.out _ _ HE.out.box HE.out.low) ?_
        clear hK K
        refine wpAnyL_one (o := ⟨some 22, _, _, _, _, _⟩) 3 (by kernel_rfl) rfl (fun K hK => ?_)
        go_wp2_with fail
        have HE2 := hideIt (show GS _ _ _ _ _ _ _ (w28.alloc (.cells #[.int .i64 (cf : Int)] 3)) _ _ _ from (HE.out.lit 2 (by decide) (.int .i64 (cf : Int))).to (vs' := V4 (v7) (v8) (.slice (some ⟨w28.heap.size, 0, none⟩) 1 1) (.slice (some ⟨b28, 0, none⟩) 1 1)) (ks' := V4 (k) (k) (1) (1)) (ls' := V4 (cs) (ss) ([.int .i64 (cf : Int)]) ([sv s0])) (four rfl rfl rfl rfl) (four rfl rfl rfl rfl) (four rfl rfl rfl rfl))
        clear HE
        obtain ⟨w29, hw29⟩ : ∃ W, W = w28.alloc (.cells #[.int .i64 (cf : Int)] 3) := ⟨_, rfl⟩
        obtain ⟨b29, hb29⟩ : ∃ b, b = w28.heap.size := ⟨_, rfl⟩
        rw [← hw29, ← hb29] at HE2
        rw [← hw29, ← hb29]
        have HE := HE2
        clear HE2 hw29 hb29
        refine hK _ _ (HQ.out _ _ HE.out.box HE.out.low) ?_
        clear hK K
        refine wpAnyL_one (o := ⟨some 23, _, _, _, _, _⟩) 4 (by kernel_rfl) rfl (fun K hK => ?_)
        go_wp2_with ((with_reducible refine at_append ?_); refine wpList_apG (z := .int .i64 0) (size := 1) (bytes := 8) (n := k) (m := 1) (news := [.int .i64 (cf : Int)]) (xs := cs) (ad := ⟨b29, 0, none⟩) Tryd.underlying29 (by kernel_rfl) rfl (by decide) (by decide) rfl (.tmp 19) (.tmp 22) rfl rfl (HE.out.rn.own 0 (by decide)) rfl rfl ((HE.out.rn.own 2 (by decide)).cells (g := b29) rfl) (ones_one rfl) (by omega) HE.out.sz ?_; intro v9 w30 HO9 HG9 HA9 HB9)
        obtain ⟨A30, k30, e9, _, _⟩ := own_form HO9.out
        subst e9
        have HE2 := hideIt ((HE.out.step 0 (by decide) HG9.out HO9.out HA9.out).to (vs' := V4 (.slice A30 (k + 1) k30) (v8) (.slice (some ⟨b29, 0, none⟩) 1 1) (.slice (some ⟨b28, 0, none⟩) 1 1)) (ks' := V4 (k + 1) (k) (1) (1)) (ls' := V4 (cs ++ [.int .i64 (cf : Int)]) (ss) ([.int .i64 (cf : Int)]) ([sv s0])) (four rfl rfl rfl rfl) (four rfl rfl rfl rfl) (four rfl rfl rfl rfl))
        clear HE HO9 HG9 HA9 HB9
        have HE := HE2
        clear HE2
        refine hK _ _ (HQ.out _ _ HE.out.box HE.out.low) ?_
        clear hK K
        refine wpAnyL_one (o := ⟨some 31, _, _, _, _, _⟩) 12 (by kernel_rfl) rfl (fun K hK => ?_)
        go_wp2_with ((with_reducible refine at_append ?_); refine wpList_apG (z := .string ⟨#[]⟩) (size := 1) (bytes := 16) (n := k) (m := 1) (news := [sv s0]) (xs := ss) (ad := ⟨b28, 0, none⟩) Tryd.underlying25 (by kernel_rfl) rfl (by decide) (by decide) rfl (.tmp 24) (.tmp 30) rfl rfl (HE.out.rn.own 1 (by decide)) rfl rfl ((HE.out.rn.own 3 (by decide)).cells (g := b28) rfl) (ones_one rfl) (by omega) HE.out.sz ?_; intro v9 w31 HO9 HG9 HA9 HB9)
        obtain ⟨A31, k31, e9, _, _⟩ := own_form HO9.out
        subst e9
        have HE2 := hideIt ((HE.out.step 1 (by decide) HG9.out HO9.out HA9.out).to (vs' := V4 (.slice A30 (k + 1) k30) (.slice A31 (k + 1) k31) (.slice (some ⟨b29, 0, none⟩) 1 1) (.slice (some ⟨b28, 0, none⟩) 1 1)) (ks' := V4 (k + 1) (k + 1) (1) (1)) (ls' := V4 (cs ++ [.int .i64 (cf : Int)]) (ss ++ [sv s0]) ([.int .i64 (cf : Int)]) ([sv s0])) (four rfl rfl rfl rfl) (four rfl rfl rfl rfl) (four rfl rfl rfl rfl))
        clear HE HO9 HG9 HA9 HB9
        have HE := HE2
        clear HE2
        refine hK _ _ (HQ.out _ _ HE.out.box HE.out.low) ?_
        clear hK K
        refine wpAnyL_one (o := ⟨some 7, _, _, _, _, _⟩) 13 (by kernel_rfl) rfl (fun K hK => ?_)
        go_wp2_with fail
        refine hK _ _ (HQ.out _ _ HE.out.box HE.out.low) ?_
        clear hK K
        refine loads_tail 14 (by kernel_rfl) (by kernel_rfl) (by kernel_rfl) (by kernel_rfl) ?_
        simp only [List.drop_succ_cons, List.drop_zero]
        go_wp2_with fail
        go_roundg (gk - 1)
        case measure => omega
        case rel => exact ⟨k + 1, by omega, by go_num, (HLW.out.trans (HB6.out.mono HLW.out.size)).trans HE.out.low, HN1.out ▸ own_base (HE.out.rn.own 0 (by decide)) (Nat.le_refl _), HN2.out ▸ own_base (HE.out.rn.own 1 (by decide)) (Nat.le_refl _)⟩
    · have hki : ¬ (k : Int) < (q : Int) := by omega
      have hkq : L.take k = L := List.take_of_length_le (by rw [← HQ0.out]; omega)
      have ho7 := HO7.out
      have ho8 := HO8.out
      rw [hkq] at ho7 ho8
      obtain rfl : k = q := by omega
      have HCN := hideIt (HCM.out w5 HLW.out A7 c7 A8 c8 (Sl.of_own ho7) (Sl.of_own ho8))
      clear hkq ho7 ho8
      go_wp2_with (first
        | (go_at_call 43; refine HCN.out.mono ?_; rintro e w6 ⟨rfl, hb6⟩; have HB6 := hideIt hb6; clear hb6 HCN))
      go_ret
      exact ⟨rfl, HLW.out.trans (HB6.out.mono HLW.out.size)⟩

set_option maxHeartbeats 1600000 in
set_option maxRecDepth 100000 in
theorem readable_any (x : Cd) (A : Option Addr) (c : Nat) (w : World) (hT : Tabs w) (hx : CIn w x A) (us : List (List UInt8)) (hbig : ∀ u ∈ us, u.length ≤ 100000) (D : Option Addr) (cd : Nat) (hD : Sl w w.heap.size D 1 us.length (us.map sv)) (hs : List Bool) (E : Option Addr) (ce : Nat) (hE : Sl w w.heap.size E 1 hs.length (hs.map bl)) (hok : okB x hs = true) :
    Calls Tryd.prog 54 #[x.v A c, .slice D us.length cd, .slice E hs.length ce] w fun e w' => e = .returned (.bool (readB x us hs)) ∧ Below w.heap.size w w' := by
  obtain ⟨W, hW⟩ : ∃ W, W = w.alloc (.cells (x.cs A c).toArray 24) := ⟨_, rfl⟩
  have hbw : Below w.heap.size w W := by rw [hW]; exact below_new w _
  have HB := hideIt hbw
  have HBC := hideIt (show BC W w.heap.size x A c by rw [hW]; exact BC.new c hx)
  have HV := hideIt (pers_any x A c W (hT.keep hbw) HBC.out.cin D us.length cd)
  have hnot := not_b
  have HT := hideIt (hT.keep hbw)
  have HSD := hideIt ((hD.below hbw).wide hbw.size)
  have HSE := hideIt ((hE.below hbw).wide hbw.size)
  have HWE := hideIt hW
  have HBG := hideIt hbig
  obtain ⟨m, n, hvc, hlen⟩ := VC.ok hok
  obtain ⟨r, hr⟩ : ∃ r, r = readB x us hs := ⟨_, rfl⟩
  rw [← hr]
  have HR := hideIt hr
  unfold readB at hr
  have HVC := hideIt hvc
  have HLEN := hideIt hlen
  clear hbw hT hx hW hD hE hbig
  cases q1 : perB x us.length with
  | true =>
    rw [q1] at HV
    have hul : us.length = n + x.par.length := by
      unfold perB wC at q1
      have := of_decide_eq_true q1
      have hv : vC x = true := by unfold okB at hok; rw [Bool.and_eq_true] at hok; exact hok.1
      rw [if_pos hv, hvc.d] at this
      omega
    have HUL := hideIt hul
    have hu32 : us.length ≤ 32 := by rw [hul]; exact hvc.wid
    have HR2 := hideIt (show r = alk m (presK us hs us.length) by rw [hr, q1, Bool.true_and]; show alk x.field.toNat _ = _; rw [hvc.fn])
    have HF := hideIt hvc.f
    clear q1 hr HR hvc hul hok hlen
    go_enter Tryd.func54, Tryd.ntmps54
    go_wp2_with (first
      | (go_at_call 73; rw [← HWE.out]; refine HV.out.mono ?_; rintro e w1 ⟨rfl, hb1⟩; have HB1 := hideIt hb1; clear hb1 HV))
    go_loopg [7, 16] us.length (fun gk s7 s16 wr => ∃ k : Nat, k + gk = us.length ∧ s16 = .int .i64 (k : Int) ∧ Aside (Below w1.heap.size w1 wr) ∧ Aside (wr.ownsRow w1.heap.size 9 1 s7 (presK us hs k).length ((presK us hs k).map sv)))
    case atStart => exact ⟨0, by omega, rfl, Below.refl _ _, World.ownsRow_nil _ _ _ _⟩
    case round =>
      obtain ⟨k, hk, rfl, HLW, HO⟩ := hrel
      obtain ⟨w5, rfl⟩ : ∃ x, x = wr := ⟨wr, rfl⟩
      obtain ⟨A7, c7, e7, _, _⟩ := own_form HO.out
      subst e7
      have HLW2 := hideIt (HB1.out.trans (HLW.out.mono HB1.out.size))
      by_cases hlt : k < us.length
      · have hkh : k < hs.length := by rw [HLEN.out, ← HUL.out]; exact hlt
        obtain ⟨b, o, hA, hb, hcs⟩ := (HSD.out.below HLW2.out).strs (by omega)
        have hcu := hcs _ hlt
        obtain ⟨b2, o2, v, hA2, hb2, hv, hc⟩ := (HSE.out.below HLW2.out).at_ hkh
        rw [List.getElem?_map, List.getElem?_eq_getElem hkh] at hv
        injection hv with hv
        subst hv hA hA2
        have hgd : us.getD k [] = us[k] := by simp [List.getD_eq_getElem?_getD, hlt]
        have hgh : hs.getD k false = hs[k] := by simp [List.getD_eq_getElem?_getD, hkh]
        have HPT := hideIt (fun h : hs[k] = true => show presK us hs (k + 1) = presK us hs k ++ [us[k]] by rw [← hgd]; exact if_pos (by rw [hgh]; exact h))
        have HPF := hideIt (fun h : hs[k] = false => show presK us hs (k + 1) = presK us hs k from if_neg (by rw [hgh, h]; decide))
        have HPL := hideIt (presK_len us hs k)
        have hinc := inc_c 3 k (by omega)
        have hki : (k : Int) < (us.length : Int) := by omega
        have hkh2 : (k : Int) < (hs.length : Int) := by omega
        change w5.cell? ⟨b2, o2 + k, none⟩ = some (.bool hs[k]) at hc
        generalize us[k] = u at *
        generalize hs[k] = bk at *
        clear hcs hb hb2 hgd hgh
        cases bk with
        | true =>
          have HP := hideIt (HPT.out rfl)
          go_wp2_with (first
            | ((with_reducible refine at_append ?_); refine wpList_apS (n := (presK us hs k).length) rfl (.tmp 25) (.tmp 27) rfl rfl HO.out rfl (by have := HPL.out; omega) HLW.out.size ?_; intro v6 w6 HO6 HG6 HA6 HB6))
          go_roundg (gk - 1)
          case measure => omega
          case rel => exact ⟨k + 1, by omega, by go_num, HLW.out.trans HB6.out, by rw [HP.out, List.length_append]; exact HO6.out⟩
        | false =>
          have HP := hideIt (HPF.out rfl)
          go_wp2_with fail
          go_roundg (gk - 1)
          case measure => omega
          case rel => exact ⟨k + 1, by omega, by go_num, HLW.out, by rw [HP.out]; exact HO.out⟩
      · have hki : ¬ (k : Int) < (us.length : Int) := by omega
        have hke : k = us.length := by omega
        rw [hke] at HO
        have HAL := hideIt (alike_any m HVC.out.fm (presK us hs us.length) (by have := presK_len us hs us.length; omega) A7 c7 w5 (Sl.of_own HO.out) (fun u hu => Nat.le_trans (HBG.out u (presK_mem (Nat.le_refl _) hu)) (by decide)))
        rw [← HR2.out] at HAL
        have c1 := (HBC.out.keep HLW2.out).c1
        rw [HF.out] at c1
        rw [show presK us hs k = presK us hs us.length by rw [hke]]
        clear hke HR2
        go_wp2_with (first
          | (go_at_call 41; refine HAL.out.mono ?_; rintro e w6 ⟨rfl, rfl⟩; clear HAL))
        go_ret
        exact ⟨rfl, HB.out.trans (HLW2.out.mono HB.out.size)⟩
  | false =>
    rw [q1] at HV
    have HE := hideIt (show r = false by rw [hr, q1, Bool.false_and])
    clear q1 hr HR hvc hlen hok
    go_enter Tryd.func54, Tryd.ntmps54
    go_wp2_with (first
      | (go_at_call 73; rw [← HWE.out]; refine HV.out.mono ?_; rintro e w1 ⟨rfl, hb1⟩; have HB1 := hideIt hb1; clear hb1 HV))
    go_ret
    exact ⟨by rw [HE.out]; rfl, HB.out.trans (HB1.out.mono HB.out.size)⟩

noncomputable def basR (x : Cd) (hs : List Bool) : List Int × Int := if okB x hs = true then ((basL x hs).map fun b : Nat => (b : Int), 0) else ([], 1)
theorem pvC_map (B : List Nat) : pvC B = (B.map fun b : Nat => (b : Int)).map iv := by
  refine List.ext_getElem? fun j => ?_
  by_cases hj : j < B.length
  · rw [iv_at hj]
    simp [List.getD_eq_getElem?_getD, hj]
  · rw [List.getElem?_eq_none (by rw [List.length_map, nl_len]; omega), List.getElem?_eq_none (by simp; omega)]

/-- A basis that basisOf returned, put into a box. -/
structure BB (W : World) (p : Nat) (x : Cd) (m n : Nat) (hs : List Bool) (pv : List Nat) (Q : Mx) (gA uA rA pA : Option Addr) (gc uc rc pc : Nat) : Prop where
  rd : Rdc m n (gC x) (basL x hs) pv Q
  mem : BaM W x m n (basL x hs) pv Q gA uA rA pA
  cap : (n + x.par.length) * n ≤ gc
  box : Blk W p 74 (baC (m : Int) ((n + x.par.length : Nat) : Int) (n : Int) (.slice gA ((n + x.par.length) * n) gc) (.slice uA (basL x hs).length uc) (.slice rA (basL x hs).length rc) (.slice pA pv.length pc))
theorem BB.keep {W W' : World} {p : Nat} {x : Cd} {m n : Nat} {hs : List Bool} {pv : List Nat} {Q : Mx} {gA uA rA pA : Option Addr} {gc uc rc pc : Nat} (h : BB W p x m n hs pv Q gA uA rA pA gc uc rc pc) (hb : Below W.heap.size W W') : BB W' p x m n hs pv Q gA uA rA pA gc uc rc pc :=
  ⟨h.rd, h.mem.keep hb, h.cap, h.box.kept hb h.box.lt⟩
theorem BB.new {W : World} {x : Cd} {m n : Nat} {hs : List Bool} {pv : List Nat} {Q : Mx} {gA uA rA pA : Option Addr} {gc uc rc pc : Nat} (h1 : Rdc m n (gC x) (basL x hs) pv Q) (h2 : BaM W x m n (basL x hs) pv Q gA uA rA pA) (h3 : (n + x.par.length) * n ≤ gc) :
    BB (W.alloc (.cells (baC (m : Int) ((n : Int) + (x.par.length : Int)) (n : Int) (.slice gA ((n + x.par.length) * n) gc) (.slice uA (basL x hs).length uc) (.slice rA (basL x hs).length rc) (.slice pA pv.length pc)).toArray 74)) W.heap.size x m n hs pv Q gA uA rA pA gc uc rc pc :=
  ⟨h1, h2.keep (below_new W _), h3, Blk.new W 74 _⟩

set_option maxHeartbeats 800000 in
set_option maxRecDepth 100000 in
theorem basis_any (x : Cd) (A : Option Addr) (c : Nat) (w : World) (hT : Tabs w) (hx : CIn w x A) (hs : List Bool) (D : Option Addr) (cd : Nat) (hl : hs.length ≤ 100000) (hD : Sl w w.heap.size D 1 hs.length (hs.map bl)) :
    Calls Tryd.prog 24 #[x.v A c, .slice D hs.length cd] w (IntRes w (basR x hs)) := by
  obtain ⟨W, hW⟩ : ∃ W, W = w.alloc (.cells (x.cs A c).toArray 24) := ⟨_, rfl⟩
  have hbw : Below w.heap.size w W := by rw [hW]; exact below_new w _
  have HB := hideIt hbw
  have HBC := hideIt (show BC W w.heap.size x A c by rw [hW]; exact BC.new c hx)
  have HV := hideIt (basisOf_any x A c W (hT.keep hbw) HBC.out.cin hs D cd hl ((hD.below hbw).wide hbw.size))
  have HWE := hideIt hW
  clear hbw hT hx hW hD
  unfold basR
  cases q1 : okB x hs with
  | true =>
    rw [q1] at HV
    rw [if_pos rfl]
    clear q1
    go_enter Tryd.func24, Tryd.ntmps24
    go_wp2_with (first
      | (go_at_call 48; rw [← HWE.out]; refine HV.out.mono ?_; rintro e w1 ⟨⟨gA, gc, uA, uc, rA, rc, pA, pc, pv, Q, rfl, hrd, hm, hcap, ho⟩, hb1⟩; have HB1 := hideIt hb1; have HO := hideIt ho; clear hb1 hrd hm hcap ho HV))
    go_ret2
    exact ⟨_, rfl, by rw [List.length_map, ← pvC_map]; exact World.ownsRow.alloc (own_base HO.out HB.out.size) _, la7 (HB.out.trans (HB1.out.mono HB.out.size))⟩
  | false =>
    rw [q1] at HV
    rw [if_neg (by decide)]
    clear q1
    go_enter Tryd.func24, Tryd.ntmps24
    go_wp2_with (first
      | (go_at_call 48; rw [← HWE.out]; refine HV.out.mono ?_; rintro e w1 ⟨rfl, hb1⟩; have HB1 := hideIt hb1; clear hb1 HV))
    go_ret2
    exact IntRes.nil (la7 (HB.out.trans (HB1.out.mono HB.out.size))) 1

set_option maxHeartbeats 800000 in
set_option maxRecDepth 100000 in
theorem decodable_any (x : Cd) (A : Option Addr) (c : Nat) (w : World) (hT : Tabs w) (hx : CIn w x A) (hs : List Bool) (D : Option Addr) (cd : Nat) (hl : hs.length ≤ 100000) (hD : Sl w w.heap.size D 1 hs.length (hs.map bl)) :
    Calls Tryd.prog 31 #[x.v A c, .slice D hs.length cd] w fun e w' => e = .returned (.bool (okB x hs && decide ((basL x hs).length = nC x))) ∧ Below w.heap.size w w' := by
  obtain ⟨W, hW⟩ : ∃ W, W = w.alloc (.cells (x.cs A c).toArray 24) := ⟨_, rfl⟩
  have hbw : Below w.heap.size w W := by rw [hW]; exact below_new w _
  have HB := hideIt hbw
  have HBC := hideIt (show BC W w.heap.size x A c by rw [hW]; exact BC.new c hx)
  have HV := hideIt (basisOf_any x A c W (hT.keep hbw) HBC.out.cin hs D cd hl ((hD.below hbw).wide hbw.size))
  have HWE := hideIt hW
  have heq : binOp .eql 32 (.int .i64 0) (.int .i64 0) = pure (.bool true) := by rw [i_eql]; rfl
  have heq1 : binOp .eql 32 (.int .i64 1) (.int .i64 0) = pure (.bool false) := by rw [i_eql]; rfl
  clear hbw hT hx hW hD
  cases q1 : okB x hs with
  | true =>
    rw [q1] at HV
    rw [Bool.true_and]
    obtain ⟨m, n, hvc, hlen⟩ := VC.ok q1
    change Hid (Calls _ _ _ W fun e w' => BasOk W x x.field.toNat x.data.toNat hs e w') at HV
    rw [hvc.fn, hvc.dn] at HV
    show Calls _ _ _ _ fun e w' => e = .returned (.bool (decide ((basL x hs).length = x.data.toNat))) ∧ _
    rw [hvc.dn]
    clear q1 hvc hlen
    go_enter Tryd.func31, Tryd.ntmps31
    go_wp2_with (first
      | (go_at_call 48; rw [← HWE.out]; refine HV.out.mono ?_; rintro e w1 ⟨⟨gA, gc, uA, uc, rA, rc, pA, pc, pv, Q, rfl, hrd, hm, hcap, ho⟩, hb1⟩; have HB1 := hideIt hb1; have HBB := hideIt (BB.new (W := w1) (uc := uc) (rc := rc) (pc := pc) hrd hm hcap); clear hb1 hrd hm hcap ho HV)
      | (go_at_call 53; refine (isFull_any _ m _ n _ _ _ _ _ _ _ HBB.out.box).mono ?_; rintro e w2 ⟨rfl, hb2⟩; have HB2 := hideIt hb2; clear hb2))
    go_ret
    exact ⟨rfl, (la7 (HB.out.trans (HB1.out.mono HB.out.size))).trans (HB2.out.mono (la7 (HB.out.trans (HB1.out.mono HB.out.size))).size)⟩
  | false =>
    rw [q1] at HV
    rw [Bool.false_and]
    clear q1
    go_enter Tryd.func31, Tryd.ntmps31
    go_wp2_with (first
      | (go_at_call 48; rw [← HWE.out]; refine HV.out.mono ?_; rintro e w1 ⟨rfl, hb1⟩; have HB1 := hideIt hb1; clear hb1 HV))
    go_ret
    exact ⟨rfl, la7 (HB.out.trans (HB1.out.mono HB.out.size))⟩

set_option maxHeartbeats 800000 in
set_option maxRecDepth 100000 in
theorem combination_any (x : Cd) (A : Option Addr) (c : Nat) (w : World) (hT : Tabs w) (hx : CIn w x A) (hs : List Bool) (D : Option Addr) (cd : Nat) (hl : hs.length ≤ 100000) (hD : Sl w w.heap.size D 1 hs.length (hs.map bl)) (u : Int) :
    Calls Tryd.prog 26 #[x.v A c, .slice D hs.length cd, .int .i64 u] w (TermRes w (combR x hs u)) := by
  obtain ⟨W, hW⟩ : ∃ W, W = w.alloc (.cells (x.cs A c).toArray 24) := ⟨_, rfl⟩
  have hbw : Below w.heap.size w W := by rw [hW]; exact below_new w _
  have HB := hideIt hbw
  have HBC := hideIt (show BC W w.heap.size x A c by rw [hW]; exact BC.new c hx)
  have HV := hideIt (basisOf_any x A c W (hT.keep hbw) HBC.out.cin hs D cd hl ((hD.below hbw).wide hbw.size))
  have HWE := hideIt hW
  have HT := hideIt (hT.keep hbw)
  have hnot := not_b
  have heq : binOp .neq 32 (.int .i64 0) (.int .i64 0) = pure (.bool false) := by rw [i_neq]; rfl
  have heq1 : binOp .neq 32 (.int .i64 1) (.int .i64 0) = pure (.bool true) := by rw [i_neq]; rfl
  have HI := hideIt (fun W => isIndex_any D hs.length cd u W)
  obtain ⟨r, hr⟩ : ∃ r, r = combR x hs u := ⟨_, rfl⟩
  rw [← hr]
  have HR := hideIt hr
  unfold combR idxB at HR
  clear hbw hT hx hW hD hr
  cases q1 : okB x hs with
  | true =>
    rw [q1] at HV
    obtain ⟨m, n, hvc, hlen⟩ := VC.ok q1
    change Hid (Calls _ _ _ W fun e w' => BasOk W x x.field.toNat x.data.toNat hs e w') at HV
    rw [hvc.fn, hvc.dn] at HV
    by_cases q2 : 0 ≤ u ∧ u < hs.length
    · rw [decide_eq_true q2] at HI
      have HR2 := hideIt (show r = trmR x hs u.toNat by rw [HR.out, if_pos ⟨q1, decide_eq_true q2⟩])
      have HVC := hideIt hvc
      obtain ⟨k, hk⟩ : ∃ k : Nat, u = (k : Int) := ⟨u.toNat, by omega⟩
      subst hk
      have HKL := hideIt (show k < n + x.par.length by omega)
      rw [Int.toNat_natCast] at HR2
      clear q1 q2 hvc hlen HR
      go_enter Tryd.func26, Tryd.ntmps26
      go_wp2_with (first
        | (go_at_call 48; rw [← HWE.out]; refine HV.out.mono ?_; rintro e w1 ⟨⟨gA, gc, uA, uc, rA, rc, pA, pc, pv, Q, rfl, hrd, hm, hcap, ho⟩, hb1⟩; have HB1 := hideIt hb1; have HBB := hideIt (BB.new (W := w1) (uc := uc) (rc := rc) (pc := pc) hrd hm hcap); have HB2 := hideIt (la7 (o := .cells (baC (m : Int) ((n : Int) + (x.par.length : Int)) (n : Int) (.slice gA ((n + x.par.length) * n) gc) (.slice uA (basL x hs).length uc) (.slice rA (basL x hs).length rc) (.slice pA pv.length pc)).toArray 74) hb1); clear hb1 hrd hm hcap ho HV)
        | (go_at_call 50; refine (HI.out _).mono ?_; rintro e w2 ⟨rfl, rfl⟩)
        | (go_at_call 51; refine (terms_any HVC.out hs HBB.out.rd k HKL.out _ HBB.out.cap _ (HT.out.keep HB2.out) HBB.out.box HBB.out.mem).mono ?_; rintro e w2 ⟨v2, rfl, ho2, hb2⟩; have HO2 := hideIt ho2; have HB3 := hideIt hb2; clear ho2 hb2))
      go_ret2
      rw [HR2.out]
      exact ⟨_, rfl, own_base HO2.out (Nat.le_trans HB.out.size HB2.out.size), HB.out.trans ((HB2.out.trans (HB3.out.mono HB2.out.size)).mono HB.out.size)⟩
    · rw [decide_eq_false q2] at HI
      have HR2 := hideIt (show r = ([], 1) by rw [HR.out, if_neg (fun h => q2 (of_decide_eq_true h.2))])
      clear q1 q2 hvc hlen HR
      go_enter Tryd.func26, Tryd.ntmps26
      go_wp2_with (first
        | (go_at_call 48; rw [← HWE.out]; refine HV.out.mono ?_; rintro e w1 ⟨⟨gA, gc, uA, uc, rA, rc, pA, pc, pv, Q, rfl, hrd, hm, hcap, ho⟩, hb1⟩; have HB1 := hideIt hb1; clear hb1 hrd hm hcap ho HV)
        | (go_at_call 50; refine (HI.out _).mono ?_; rintro e w2 ⟨rfl, rfl⟩))
      go_ret2
      rw [HR2.out]
      exact TermRes.nil (la7 (HB.out.trans (HB1.out.mono HB.out.size))) 1
  | false =>
    rw [q1] at HV
    have HR2 := hideIt (show r = ([], 1) by rw [HR.out, if_neg (fun h => by rw [q1] at h; exact absurd h.1 (by decide))])
    clear q1 HR
    go_enter Tryd.func26, Tryd.ntmps26
    go_wp2_with (first
      | (go_at_call 48; rw [← HWE.out]; refine HV.out.mono ?_; rintro e w1 ⟨rfl, hb1⟩; have HB1 := hideIt hb1; clear hb1 HV))
    go_ret2
    rw [HR2.out]
    exact TermRes.nil (la7 (HB.out.trans (HB1.out.mono HB.out.size))) 1

set_option maxHeartbeats 800000 in
theorem recoverable_any (x : Cd) (A : Option Addr) (c : Nat) (w : World) (hT : Tabs w) (hx : CIn w x A) (hs : List Bool) (D : Option Addr) (cd : Nat) (hl : hs.length ≤ 100000) (hD : Sl w w.heap.size D 1 hs.length (hs.map bl)) (u : Int) :
    Calls Tryd.prog 29 #[x.v A c, .slice D hs.length cd, .int .i64 u] w fun e w' => e = .returned (.bool (decide ((combR x hs u).2 = 0))) ∧ Below w.heap.size w w' := by
  obtain ⟨W, hW⟩ : ∃ W, W = w.alloc (.cells (x.cs A c).toArray 24) := ⟨_, rfl⟩
  have hbw : Below w.heap.size w W := by rw [hW]; exact below_new w _
  have HB := hideIt hbw
  have HBC := hideIt (show BC W w.heap.size x A c by rw [hW]; exact BC.new c hx)
  have HV := hideIt (combination_any x A c W (hT.keep hbw) HBC.out.cin hs D cd hl ((hD.below hbw).wide hbw.size) u)
  have HWE := hideIt hW
  have heq := i_eql 32 .i64 (combR x hs u).2 0
  clear hbw hT hx hW hD
  generalize combR x hs u = r at *
  generalize decide (r.2 = 0) = b at *
  go_enter Tryd.func29, Tryd.ntmps29
  go_wp2_with (first
    | (go_at_call 26; rw [← HWE.out]; refine HV.out.mono ?_; rintro e w1 ⟨v, rfl, _, hb1⟩; have HB1 := hideIt hb1; clear hb1 HV))
  go_ret
  exact ⟨rfl, HB.out.trans (HB1.out.mono HB.out.size)⟩

theorem trmR_mem {x : Cd} {hs : List Bool} (hok : okB x hs = true) {u : Nat} {t : Nat × Nat} (h : t ∈ (trmR x hs u).1) : t.1 < hs.length := by
  unfold trmR at h
  split at h
  · obtain ⟨i, hi, rfl, _⟩ := tms_mem h
    unfold basL at hi ⊢
    exact (bas_at hi).1
  · cases h
theorem trmR_len (x : Cd) (hs : List Bool) (u : Nat) : (trmR x hs u).1.length ≤ (basL x hs).length := by
  unfold trmR
  split
  · exact tms_len _ _ _
  · exact Nat.zero_le _
theorem trmR_err (x : Cd) (hs : List Bool) (u : Nat) : (trmR x hs u).2 = 0 ∨ (trmR x hs u).2 = 11 := by
  unfold trmR
  split
  · exact .inl rfl
  · exact .inr rfl
theorem read_len {x : Cd} {us : List (List UInt8)} {hs : List Bool} (hok : okB x hs = true) (h : readB x us hs = true) : us.length = hs.length := by
  unfold readB at h
  rw [Bool.and_eq_true] at h
  obtain ⟨m, n, hvc, hlen⟩ := VC.ok hok
  unfold perB wC at h
  have h1 := of_decide_eq_true h.1
  have hv : vC x = true := by unfold okB at hok; rw [Bool.and_eq_true] at hok; exact hok.1
  rw [if_pos hv, hvc.d] at h1
  omega

set_option maxHeartbeats 1600000 in
set_option maxRecDepth 100000 in
theorem recover_any (x : Cd) (A : Option Addr) (c : Nat) (w : World) (hT : Tabs w) (hx : CIn w x A) (us : List (List UInt8)) (hbig : ∀ u ∈ us, u.length ≤ 100000) (E : Option Addr) (ce : Nat) (hE : Sl w w.heap.size E 1 us.length (us.map sv)) (hs : List Bool) (D : Option Addr) (cd : Nat) (hl : hs.length ≤ 100000) (hD : Sl w w.heap.size D 1 hs.length (hs.map bl)) (u : Int) :
    Calls Tryd.prog 33 #[x.v A c, .slice E us.length ce, .slice D hs.length cd, .int .i64 u] w fun e w' => e = .returned (.tuple #[.string (str (recR x us hs u).1), .int .i64 (recR x us hs u).2]) ∧ Below w.heap.size w w' := by
  obtain ⟨W, hW⟩ : ∃ W, W = w.alloc (.cells (x.cs A c).toArray 24) := ⟨_, rfl⟩
  have hbw : Below w.heap.size w W := by rw [hW]; exact below_new w _
  have HB := hideIt hbw
  have HBC := hideIt (show BC W w.heap.size x A c by rw [hW]; exact BC.new c hx)
  have HV := hideIt (basisOf_any x A c W (hT.keep hbw) HBC.out.cin hs D cd hl ((hD.below hbw).wide hbw.size))
  have HWE := hideIt hW
  have HT := hideIt (hT.keep hbw)
  have hnot := not_b
  have heq : binOp .neq 32 (.int .i64 0) (.int .i64 0) = pure (.bool false) := by rw [i_neq]; rfl
  have heq1 : binOp .neq 32 (.int .i64 1) (.int .i64 0) = pure (.bool true) := by rw [i_neq]; rfl
  have heq2 : binOp .neq 32 (.int .i64 11) (.int .i64 0) = pure (.bool true) := by rw [i_neq]; rfl
  have HI := hideIt (fun W => isIndex_any D hs.length cd u W)
  have HSE := hideIt ((hE.below hbw).wide hbw.size)
  have HSD := hideIt ((hD.below hbw).wide hbw.size)
  have HBG := hideIt hbig
  obtain ⟨r, hr⟩ : ∃ r, r = recR x us hs u := ⟨_, rfl⟩
  rw [← hr]
  have HR := hideIt hr
  unfold recR idxB at HR
  clear hbw hT hx hW hD hr hE hbig
  cases q1 : okB x hs with
  | true =>
    rw [q1] at HV
    obtain ⟨m, n, hvc, hlen⟩ := VC.ok q1
    change Hid (Calls _ _ _ W fun e w' => BasOk W x x.field.toNat x.data.toNat hs e w') at HV
    rw [hvc.fn, hvc.dn] at HV
    by_cases q2 : 0 ≤ u ∧ u < hs.length
    · rw [decide_eq_true q2] at HI
      have HRD := hideIt (fun (W2 : World) (h : Below W.heap.size W W2) => readable_any x A c W2 (HT.out.keep h) (HBC.out.cin.keep h) us HBG.out E ce ((HSE.out.below h).wide h.size) hs D cd ((HSD.out.below h).wide h.size) q1)
      have HVC := hideIt hvc
      obtain ⟨k, hk⟩ : ∃ k : Nat, u = (k : Int) := ⟨u.toNat, by omega⟩
      subst hk
      have HKL := hideIt (show k < n + x.par.length by omega)
      rw [Int.toNat_natCast] at HR
      cases q3 : readB x us hs with
      | true =>
        rw [q3] at HRD
        have HR2 := hideIt (show r = _ by rw [HR.out, if_pos ⟨q1, decide_eq_true q2, q3⟩])
        have HM := hideIt (fun t (h : t ∈ (trmR x hs k).1) => show t.1 < us.length by rw [read_len q1 q3]; exact trmR_mem q1 h)
        have HUL := hideIt (show us.length ≤ 100000 by rw [read_len q1 q3]; exact hl)
        have HTL := hideIt (show (trmR x hs k).1.length ≤ 1000 by
          have h1 := trmR_len x hs k
          have h2 : (basL x hs).length ≤ n := by rw [basL_vc hvc]; exact bas_le hvc.fm (gC_v hvc) _
          have := hvc.wid
          omega)
        have HF := hideIt hvc.f
        have HBX := hideIt (fun (W2 : World) (h : Below W.heap.size W W2) => (HBC.out.keep h).c1)
        rcases trmR_err x hs k with q4 | q4
        · have HR3 := hideIt (show r = (sumR x.field (trmR x hs k).1 us, 0) by rw [HR2.out, if_pos q4])
          have HQ4 := hideIt q4
          clear q1 q2 q3 q4 hvc hlen HR HR2
          go_enter Tryd.func33, Tryd.ntmps33
          go_wp2_with (first
            | ((with_reducible refine at_load ?_); refine wpList_ldC (by kernel_rfl) (.tmp 4) rfl (p := w.heap.size) (c := c) rfl (HBC.out.keep HB2.out).box ?_)
            | (go_at_call 48; rw [← HWE.out]; refine HV.out.mono ?_; rintro e w1 ⟨⟨gA, gc, uA, uc, rA, rc, pA, pc, pv, Q, rfl, hrd, hm, hcap, ho⟩, hb1⟩; have HBB := hideIt (BB.new (W := w1) (uc := uc) (rc := rc) (pc := pc) hrd hm hcap); have HB2 := hideIt (la7 (o := .cells (baC (m : Int) ((n : Int) + (x.par.length : Int)) (n : Int) (.slice gA ((n + x.par.length) * n) gc) (.slice uA (basL x hs).length uc) (.slice rA (basL x hs).length rc) (.slice pA pv.length pc)).toArray 74) hb1); clear hb1 hrd hm hcap ho HV)
            | (go_at_call 50; refine (HI.out _).mono ?_; rintro e w2 ⟨rfl, rfl⟩)
            | (go_at_call 54; refine (HRD.out _ HB2.out).mono ?_; rintro e w3 ⟨rfl, hb3⟩; have HB3 := hideIt (HB2.out.trans (hb3.mono HB2.out.size)); have HBB3 := hideIt (HBB.out.keep hb3); clear hb3 HRD)
            | (go_at_call 51; refine (terms_any HVC.out hs HBB3.out.rd k HKL.out _ HBB3.out.cap _ (HT.out.keep HB3.out) HBB3.out.box HBB3.out.mem).mono ?_; rintro e w4 ⟨v4, rfl, ho4, hb4⟩; rw [HQ4.out]; obtain ⟨A4, c4, rfl, _, _⟩ := own_form ho4; have HO4 := hideIt ho4; have HB4 := hideIt (HB3.out.trans (hb4.mono HB3.out.size)); have d1 := HBX.out _ HB4.out; have HSM := hideIt (sum_any x.field (trmR x hs k).1 us HTL.out HM.out HBG.out HUL.out A4 c4 E ce w4 (HT.out.keep HB4.out) (Sl.of_own ho4) ((HSE.out.below HB4.out).wide HB4.out.size)); clear ho4 hb4)
            | (go_at_call 55; refine HSM.out.mono ?_; rintro e w5 ⟨rfl, hb5⟩; have HB5 := hideIt (HB4.out.trans (hb5.mono HB4.out.size)); clear hb5 HSM))
          go_ret2
          rw [HR3.out]
          exact ⟨rfl, HB.out.trans (HB5.out.mono HB.out.size)⟩
        · have HR3 := hideIt (show r = ([], 11) by rw [HR2.out, if_neg (by rw [q4]; decide), q4])
          have HQ4 := hideIt q4
          clear q1 q2 q3 q4 hvc hlen HR HR2
          go_enter Tryd.func33, Tryd.ntmps33
          go_wp2_with (first
            | ((with_reducible refine at_load ?_); refine wpList_ldC (by kernel_rfl) (.tmp 4) rfl (p := w.heap.size) (c := c) rfl (HBC.out.keep HB2.out).box ?_)
            | (go_at_call 48; rw [← HWE.out]; refine HV.out.mono ?_; rintro e w1 ⟨⟨gA, gc, uA, uc, rA, rc, pA, pc, pv, Q, rfl, hrd, hm, hcap, ho⟩, hb1⟩; have HBB := hideIt (BB.new (W := w1) (uc := uc) (rc := rc) (pc := pc) hrd hm hcap); have HB2 := hideIt (la7 (o := .cells (baC (m : Int) ((n : Int) + (x.par.length : Int)) (n : Int) (.slice gA ((n + x.par.length) * n) gc) (.slice uA (basL x hs).length uc) (.slice rA (basL x hs).length rc) (.slice pA pv.length pc)).toArray 74) hb1); clear hb1 hrd hm hcap ho HV)
            | (go_at_call 50; refine (HI.out _).mono ?_; rintro e w2 ⟨rfl, rfl⟩)
            | (go_at_call 54; refine (HRD.out _ HB2.out).mono ?_; rintro e w3 ⟨rfl, hb3⟩; have HB3 := hideIt (HB2.out.trans (hb3.mono HB2.out.size)); have HBB3 := hideIt (HBB.out.keep hb3); clear hb3 HRD)
            | (go_at_call 51; refine (terms_any HVC.out hs HBB3.out.rd k HKL.out _ HBB3.out.cap _ (HT.out.keep HB3.out) HBB3.out.box HBB3.out.mem).mono ?_; rintro e w4 ⟨v4, rfl, ho4, hb4⟩; rw [HQ4.out]; have HB4 := hideIt (HB3.out.trans (hb4.mono HB3.out.size)); clear ho4 hb4))
          go_ret2
          rw [HR3.out]
          exact ⟨rfl, HB.out.trans (HB4.out.mono HB.out.size)⟩
      | false =>
        rw [q3] at HRD
        have HR3 := hideIt (show r = ([], 1) by rw [HR.out, if_neg (fun h => by rw [q3] at h; exact absurd h.2.2 (by decide))])
        clear q1 q2 q3 hvc hlen HR
        go_enter Tryd.func33, Tryd.ntmps33
        go_wp2_with (first
          | ((with_reducible refine at_load ?_); refine wpList_ldC (by kernel_rfl) (.tmp 4) rfl (p := w.heap.size) (c := c) rfl (HBC.out.keep HB2.out).box ?_)
          | (go_at_call 48; rw [← HWE.out]; refine HV.out.mono ?_; rintro e w1 ⟨⟨gA, gc, uA, uc, rA, rc, pA, pc, pv, Q, rfl, hrd, hm, hcap, ho⟩, hb1⟩; have HB2 := hideIt (la7 (o := .cells (baC (m : Int) ((n : Int) + (x.par.length : Int)) (n : Int) (.slice gA ((n + x.par.length) * n) gc) (.slice uA (basL x hs).length uc) (.slice rA (basL x hs).length rc) (.slice pA pv.length pc)).toArray 74) hb1); clear hb1 hrd hm hcap ho HV)
          | (go_at_call 50; refine (HI.out _).mono ?_; rintro e w2 ⟨rfl, rfl⟩)
          | (go_at_call 54; refine (HRD.out _ HB2.out).mono ?_; rintro e w3 ⟨rfl, hb3⟩; have HB3 := hideIt (HB2.out.trans (hb3.mono HB2.out.size)); clear hb3 HRD))
        go_ret2
        rw [HR3.out]
        exact ⟨rfl, HB.out.trans (HB3.out.mono HB.out.size)⟩
    · rw [decide_eq_false q2] at HI
      have HR3 := hideIt (show r = ([], 1) by rw [HR.out, if_neg (fun h => q2 (of_decide_eq_true h.2.1))])
      clear q1 q2 hvc hlen HR
      go_enter Tryd.func33, Tryd.ntmps33
      go_wp2_with (first
        | (go_at_call 48; rw [← HWE.out]; refine HV.out.mono ?_; rintro e w1 ⟨⟨gA, gc, uA, uc, rA, rc, pA, pc, pv, Q, rfl, hrd, hm, hcap, ho⟩, hb1⟩; have HB1 := hideIt hb1; clear hb1 hrd hm hcap ho HV)
        | (go_at_call 50; refine (HI.out _).mono ?_; rintro e w2 ⟨rfl, rfl⟩))
      go_ret2
      rw [HR3.out]
      exact ⟨rfl, la7 (HB.out.trans (HB1.out.mono HB.out.size))⟩
  | false =>
    rw [q1] at HV
    have HR3 := hideIt (show r = ([], 1) by rw [HR.out, if_neg (fun h => by rw [q1] at h; exact absurd h.1 (by decide))])
    clear q1 HR
    go_enter Tryd.func33, Tryd.ntmps33
    go_wp2_with (first
      | (go_at_call 48; rw [← HWE.out]; refine HV.out.mono ?_; rintro e w1 ⟨rfl, hb1⟩; have HB1 := hideIt hb1; clear hb1 HV))
    go_ret2
    rw [HR3.out]
    exact ⟨rfl, la7 (HB.out.trans (HB1.out.mono HB.out.size))⟩

def smB (x : Cd) : Bool := decide (x.data ≤ 12) && decide (x.par.length ≤ 8) && x.par.all fun l => decide (l.length ≤ 12)
theorem smB_sm {x : Cd} (h : smB x = true) : Sm x := by
  unfold smB at h
  simp only [Bool.and_eq_true, decide_eq_true_eq, List.all_eq_true] at h
  exact ⟨h.1.1, h.1.2, h.2⟩
def fewB (us : List (List UInt8)) : Bool := decide (us.length ≤ 24) && us.all fun u => decide (u.length ≤ 64)
theorem fewB_is {us : List (List UInt8)} (h : fewB us = true) : us.length ≤ 24 ∧ ∀ u ∈ us, u.length ≤ 64 := by
  unfold fewB at h
  simp only [Bool.and_eq_true, decide_eq_true_eq, List.all_eq_true] at h
  exact h

set_option maxHeartbeats 800000 in
set_option maxRecDepth 100000 in
theorem small_any (x : Cd) (A : Option Addr) (c : Nat) (w : World) (hx : CIn w x A) :
    Calls Tryd.prog 12 #[x.v A c] w fun e w' => e = .returned (.bool (smB x)) ∧ Below w.heap.size w w' := by
  obtain ⟨W, hW⟩ : ∃ W, W = w.alloc (.cells (x.cs A c).toArray 24) := ⟨_, rfl⟩
  have hbw : Below w.heap.size w W := by rw [hW]; exact below_new w _
  have HB := hideIt hbw
  have HBC := hideIt (show BC W w.heap.size x A c by rw [hW]; exact BC.new c hx)
  have c2 := HBC.out.c2
  have c3 := HBC.out.c3
  rw [hW] at c2 c3
  have HWE := hideIt hW
  obtain ⟨r, hr⟩ : ∃ r, r = smB x := ⟨_, rfl⟩
  rw [← hr]
  have HR := hideIt hr
  unfold smB at HR
  clear hbw hx hW hr
  by_cases q1 : x.data > 12
  · have HE := hideIt (show r = false by rw [HR.out, decide_eq_false (by omega), Bool.false_and, Bool.false_and])
    clear HR
    go_enter Tryd.func12, Tryd.ntmps12
    go_wp2_with fail
    go_ret
    rw [← HWE.out]
    exact ⟨by rw [HE.out]; rfl, HB.out⟩
  · by_cases q2 : (x.par.length : Int) > 8
    · have HE := hideIt (show r = false by rw [HR.out, decide_eq_false (show ¬ x.par.length ≤ 8 by omega), Bool.and_false, Bool.false_and])
      clear HR
      go_enter Tryd.func12, Tryd.ntmps12
      go_wp2_with fail
      go_ret
      rw [← HWE.out]
      exact ⟨by rw [HE.out]; rfl, HB.out⟩
    · have HE := hideIt (show r = x.par.all fun l => decide (l.length ≤ 12) by rw [HR.out, decide_eq_true (by omega), decide_eq_true (by omega), Bool.true_and, Bool.true_and])
      have hp8 : x.par.length ≤ 8 := by omega
      clear HR
      go_enter Tryd.func12, Tryd.ntmps12
      go_wp2_with fail
      rw [← HWE.out] at c2 c3 ⊢
      go_loopg [3] x.par.length (fun gk s3 wr => ∃ j : Nat, j + gk = x.par.length ∧ s3 = .int .i64 (j : Int) ∧ wr = W ∧ Aside ((x.par.take j).all (fun l => decide (l.length ≤ 12)) = true))
      case atStart => exact ⟨0, by omega, rfl, rfl, by simp [Aside]⟩
      case round =>
        obtain ⟨j, hj, rfl, rfl, HI⟩ := hrel
        obtain ⟨W, rfl⟩ : ∃ x, x = wr := ⟨wr, rfl⟩
        by_cases hlt : j < x.par.length
        · obtain ⟨b, o, A', c', hA, hb, hcell, hsl⟩ := HBC.out.cin.pm.row hlt
          have HTK := hideIt (take_snoc x.par j hlt)
          have HF := hideIt (fun h => all_at (p := fun l : List Int => decide (l.length ≤ 12)) hlt h)
          subst hA
          have hinc := inc_c 3 j (by omega)
          have hji : (j : Int) < (x.par.length : Int) := by omega
          generalize x.par[j] = l at *
          clear hsl hb
          by_cases q3 : (l.length : Int) > 12
          · have HE2 := hideIt (show r = false by rw [HE.out, HF.out (decide_eq_false (by omega))])
            go_wp2_with fail
            go_ret
            exact ⟨by rw [HE2.out]; rfl, HB.out⟩
          · have HN := hideIt (show (x.par.take (j + 1)).all (fun l => decide (l.length ≤ 12)) = true by rw [HTK.out, List.all_append, HI.out]; simp; omega)
            go_wp2_with fail
            go_roundg (gk - 1)
            case measure => omega
            case rel => exact ⟨j + 1, by omega, by go_num, rfl, HN.out⟩
        · have hji : ¬ (j : Int) < (x.par.length : Int) := by omega
          have HE2 : Hid (r = true) := by
            have := HI.out
            rw [List.take_of_length_le (by omega)] at this
            rw [HE.out]; exact this
          go_wp2_with fail
          go_ret
          exact ⟨by rw [HE2.out]; rfl, HB.out⟩

set_option maxHeartbeats 800000 in
theorem few_any (us : List (List UInt8)) (hbig : us.length ≤ 9223372036854775807) (D : Option Addr) (cd : Nat) (w : World) (hs : Sl w w.heap.size D 1 us.length (us.map sv)) :
    Calls Tryd.prog 13 #[.slice D us.length cd] w fun e w' => e = .returned (.bool (fewB us)) ∧ w = w' := by
  have HS := hideIt hs
  obtain ⟨r, hr⟩ : ∃ r, r = fewB us := ⟨_, rfl⟩
  rw [← hr]
  have HR := hideIt hr
  unfold fewB at HR
  clear hs hr
  by_cases q1 : (us.length : Int) > 24
  · have HE := hideIt (show r = false by rw [HR.out, decide_eq_false (by omega), Bool.false_and])
    clear HR
    go_enter Tryd.func13, Tryd.ntmps13
    go_wp2_with fail
    go_ret
    exact ⟨by rw [HE.out]; rfl, rfl⟩
  · have HE := hideIt (show r = us.all fun l => decide (l.length ≤ 64) by rw [HR.out, decide_eq_true (by omega), Bool.true_and])
    have hu24 : us.length ≤ 24 := by omega
    clear HR
    go_enter Tryd.func13, Tryd.ntmps13
    go_wp2_with fail
    go_loopg [3] us.length (fun gk s3 wr => ∃ j : Nat, j + gk = us.length ∧ s3 = .int .i64 (j : Int) ∧ wr = w ∧ Aside ((us.take j).all (fun l => decide (l.length ≤ 64)) = true))
    case atStart => exact ⟨0, by omega, rfl, rfl, by simp [Aside]⟩
    case round =>
      obtain ⟨j, hj, rfl, rfl, HI⟩ := hrel
      obtain ⟨w, rfl⟩ : ∃ x, x = wr := ⟨wr, rfl⟩
      by_cases hlt : j < us.length
      · obtain ⟨b, o, hA, hb, hcs⟩ := HS.out.strs (by omega)
        have hcell := hcs j hlt
        have hsz := str_size us[j]
        have HTK := hideIt (take_snoc us j hlt)
        have HF := hideIt (fun h => all_at (p := fun l : List UInt8 => decide (l.length ≤ 64)) hlt h)
        subst hA
        have hinc := inc_c 3 j (by omega)
        have hji : (j : Int) < (us.length : Int) := by omega
        generalize us[j] = l at *
        generalize str l = sl at *
        clear hcs hb
        by_cases q3 : (l.length : Int) > 64
        · have HE2 := hideIt (show r = false by rw [HE.out, HF.out (decide_eq_false (by omega))])
          go_wp2_with fail
          go_ret
          exact ⟨by rw [HE2.out]; rfl, rfl⟩
        · have HN := hideIt (show (us.take (j + 1)).all (fun l => decide (l.length ≤ 64)) = true by rw [HTK.out, List.all_append, HI.out]; simp; omega)
          go_wp2_with fail
          go_roundg (gk - 1)
          case measure => omega
          case rel => exact ⟨j + 1, by omega, by go_num, rfl, HN.out⟩
      · have hji : ¬ (j : Int) < (us.length : Int) := by omega
        have HE2 : Hid (r = true) := by
          have := HI.out
          rw [List.take_of_length_le (by omega)] at this
          rw [HE.out]; exact this
        go_wp2_with fail
        go_ret
        exact ⟨by rw [HE2.out]; rfl, rfl⟩

def exX : Cd := ⟨[], 8, 3, [[1, 1, 1], [1, 2, 0]], 0⟩
def exH : List Bool := [true, false, false, false, true]
def exU : List (List UInt8) := [[1], [], [], [], [5]]
theorem ex_vc : vC exX = true := by decide +kernel
theorem ex_ok : okB exX exH = true := by decide +kernel
theorem ex_wid : wC exX = 5 := by decide +kernel
theorem ex_enc : encR exX [[1], [2], [4]] = ([[1], [2], [4], [7], [5]], 0) := by decide +kernel
theorem ex_read : readB exX exU exH = true := by decide +kernel
theorem fm8 : Fm 8 := .inl rfl
theorem ex_v : Vm 8 (gC exX) := by
  obtain ⟨m, n, h⟩ := vC_spec ex_vc
  have : m = 8 := by have := h.f; have e : exX.field = 8 := rfl; omega
  subst this
  exact gC_v h
theorem ex_bas : basL exX exH = [0, 4] := by
  have e : basL exX exH = bas 8 3 (gC exX) (hvF exH) 5 := rfl
  rw [e]
  have h1 : bas 8 3 (gC exX) (hvF exH) 1 = [0] := bas_new rfl (by
    rintro ⟨c, hc, h⟩
    have := h 0 (by decide)
    rw [show gC exX 0 0 = 1 by decide] at this
    have e2 : cb 8 0 (sel (gC exX) []) c 0 = 0 := rfl
    rw [show (bas 8 3 (gC exX) (hvF exH) 0) = [] from rfl, show ([] : List Nat).length = 0 from rfl, e2] at this
    exact absurd this (by decide))
  have h2 : bas 8 3 (gC exX) (hvF exH) 2 = [0] := (bas_abs (by decide)).trans h1
  have h3 : bas 8 3 (gC exX) (hvF exH) 3 = [0] := (bas_abs (by decide)).trans h2
  have h4 : bas 8 3 (gC exX) (hvF exH) 4 = [0] := (bas_abs (by decide)).trans h3
  have h5 := bas_new (m := 8) (n := 3) (G := gC exX) (hv := hvF exH) (k := 4) rfl (by
    rw [h4]
    rintro ⟨c, hc, h⟩
    have := h 1 (by decide)
    rw [show gC exX 4 1 = 2 by decide] at this
    have e2 : cb 8 1 (sel (gC exX) [0]) c 1 = 0 ^^^ mul 8 (c 0) 0 := rfl
    rw [show ([0] : List Nat).length = 1 from rfl, e2, mul_zeroR] at this
    exact absurd this (by decide))
  rw [h5, h4]
  rfl
theorem ex_trm1 : trmR exX exH 1 = ([(0, 142), (4, 142)], 0) := by
  have hd : ∀ j, j < 3 → gC exX 1 j = cb 8 2 (sel (gC exX) [0, 4]) (fun k => 142) j := by
    intro j hj
    match j, hj with
    | 0, _ => decide +kernel
    | 1, _ => decide +kernel
    | 2, _ => decide +kernel
  have hv : Vv 8 fun _ => 142 := fun _ => by show 142 < 256; decide
  have hi : Ind 8 3 2 (sel (gC exX) [0, 4]) := by
    have := bas_ind (n := 3) (hv := hvF exH) fm8 ex_v 5
    rw [show bas 8 3 (gC exX) (hvF exH) 5 = [0, 4] from ex_bas] at this
    exact this
  have hr : recov exX exH 1 := by
    show Dep 8 3 (basL exX exH).length (sel (gC exX) (basL exX exH)) (gC exX 1)
    rw [ex_bas]
    exact ⟨_, hv, hd⟩
  unfold trmR
  rw [if_pos hr]
  have hc : cofU exX exH 1 = cof 8 3 2 (sel (gC exX) [0, 4]) (gC exX 1) := by
    show cof 8 3 (basL exX exH).length (sel (gC exX) (basL exX exH)) (gC exX 1) = _
    rw [ex_bas]; rfl
  rw [hc, ex_bas]
  show (tms [0, 4] _ 2, (0 : Int)) = _
  rw [tms_congr (d := fun _ => 142) (fun i hi2 => cof_is hi hv hd i hi2)]
  rfl
theorem ex_trm2 : trmR exX exH 2 = ([], 11) := by
  have hr : ¬ recov exX exH 2 := by
    show ¬ Dep 8 3 (basL exX exH).length (sel (gC exX) (basL exX exH)) (gC exX 2)
    rw [ex_bas]
    rintro ⟨c, hc, h⟩
    have := h 2 (by decide)
    rw [show gC exX 2 2 = 1 by decide] at this
    have e2 : cb 8 2 (sel (gC exX) [0, 4]) c 2 = 0 ^^^ mul 8 (c 0) 0 ^^^ mul 8 (c 1) 0 := rfl
    rw [show ([0, 4] : List Nat).length = 2 from rfl, e2, mul_zeroR, mul_zeroR] at this
    exact absurd this (by decide)
  unfold trmR
  rw [if_neg hr]
theorem ex_rec1 : recR exX exU exH 1 = ([2], 0) := by
  unfold recR
  rw [if_pos ⟨ex_ok, by decide, ex_read⟩, show (1 : Int).toNat = 1 from rfl, ex_trm1, if_pos rfl]
  decide +kernel
theorem ex_rec2 : recR exX exU exH 2 = ([], 11) := by
  unfold recR
  rw [if_pos ⟨ex_ok, by decide, ex_read⟩, show (2 : Int).toNat = 2 from rfl, ex_trm2]
  rfl

theorem sl_blk {W : World} {g n : Nat} {t : TypeId} {cs : List Value} (h : Blk W g t cs) (hl : cs.length = n) : Sl W W.heap.size (some ⟨g, 0, none⟩) 1 n cs :=
  ⟨by rw [hl, Nat.mul_one], fun _ => ⟨g, 0, rfl, h.lt, fun j u hj => by rw [Nat.zero_add, h.cell]; exact hj⟩⟩
theorem sl_new (w : World) (t : TypeId) (cs : List Value) : Sl (w.alloc (.cells cs.toArray t)) (w.alloc (.cells cs.toArray t)).heap.size (some ⟨w.heap.size, 0, none⟩) 1 cs.length cs := sl_blk (Blk.new w t cs) rfl

theorem own_some {w : World} {base size n : Nat} {e : TypeId} {v : Value} {xs : List Value} (h : w.ownsRow base e size v n xs) (hn : 0 < n) : ∃ g cap, v = .slice (some ⟨g, 0, none⟩) n cap := by
  rcases h.2 with ⟨_, h0⟩ | ⟨g, cap, _, hv, _⟩
  · omega
  · exact ⟨g, cap, hv⟩
theorem exx_v (A : Option Addr) : exX.v A 2 = .agg #[.string ⟨#[]⟩, .int .i64 8, .int .i64 3, .slice A 2 2, .int .i64 0] := rfl
theorem ex_enc_any (A : Option Addr) (w : World) (hT : Tabs w) (hx : CIn w exX A) : Calls Tryd.prog 16 #[.agg #[.string ⟨#[]⟩, .int .i64 8, .int .i64 3, .slice A 2 2, .int .i64 0], .slice (some ⟨w.heap.size, 0, none⟩) 3 3] (w.alloc (.cells #[.string ⟨#[1]⟩, .string ⟨#[2]⟩, .string ⟨#[4]⟩] 9)) fun e w' => ∃ v, e = .returned (.tuple #[v, .int .i64 0]) ∧ w'.ownsRow (w.heap.size + 1) 9 1 v 5 (([[1], [2], [4], [7], [5]] : List (List UInt8)).map sv) ∧ Below w.heap.size w w' := by
  have hb := below_new w (.cells #[.string ⟨#[1]⟩, .string ⟨#[2]⟩, .string ⟨#[4]⟩] 9)
  have hs : (w.alloc (.cells #[.string ⟨#[1]⟩, .string ⟨#[2]⟩, .string ⟨#[4]⟩] 9)).heap.size = w.heap.size + 1 := World.size_alloc _ _
  have h := encode_any exX A 2 (w.alloc (.cells #[.string ⟨#[1]⟩, .string ⟨#[2]⟩, .string ⟨#[4]⟩] 9)) (hT.keep hb) (hx.keep hb) [[1], [2], [4]] (by decide) (by decide) (some ⟨w.heap.size, 0, none⟩) 3 (sl_new w 9 [sv [1], sv [2], sv [4]])
  rw [ex_enc, exx_v] at h
  refine h.mono ?_
  rintro e w' ⟨v, rfl, ho, hb2⟩
  rw [hs] at ho
  exact ⟨v, rfl, ho, hb.trans (hb2.mono hb.size)⟩
theorem ex_rec_any (A : Option Addr) (w : World) (hT : Tabs w) (hx : CIn w exX A) (u : Int) (r : List UInt8) (x : Int) (hr : recR exX exU exH u = (r, x)) : Calls Tryd.prog 33 #[.agg #[.string ⟨#[]⟩, .int .i64 8, .int .i64 3, .slice A 2 2, .int .i64 0], .slice (some ⟨w.heap.size, 0, none⟩) 5 5, .slice (some ⟨w.heap.size + 1, 0, none⟩) 5 5, .int .i64 u] ((w.alloc (.cells #[.string ⟨#[1]⟩, .string ⟨#[]⟩, .string ⟨#[]⟩, .string ⟨#[]⟩, .string ⟨#[5]⟩] 9)).alloc (.cells #[.bool true, .bool false, .bool false, .bool false, .bool true] 4)) fun e w' => e = .returned (.tuple #[.string (str r), .int .i64 x]) ∧ Below w.heap.size w w' := by
  have hb1 := below_new w (.cells #[.string ⟨#[1]⟩, .string ⟨#[]⟩, .string ⟨#[]⟩, .string ⟨#[]⟩, .string ⟨#[5]⟩] 9)
  have hb2 := below_new (w.alloc (.cells #[.string ⟨#[1]⟩, .string ⟨#[]⟩, .string ⟨#[]⟩, .string ⟨#[]⟩, .string ⟨#[5]⟩] 9)) (.cells #[.bool true, .bool false, .bool false, .bool false, .bool true] 4)
  have hs : (w.alloc (.cells #[.string ⟨#[1]⟩, .string ⟨#[]⟩, .string ⟨#[]⟩, .string ⟨#[]⟩, .string ⟨#[5]⟩] 9)).heap.size = w.heap.size + 1 := World.size_alloc _ _
  have hb := hb1.trans (hb2.mono hb1.size)
  have e1 := ((sl_new w 9 [sv [1], sv [], sv [], sv [], sv [5]]).below hb2).wide hb2.size
  have e2 := sl_new (w.alloc (.cells #[.string ⟨#[1]⟩, .string ⟨#[]⟩, .string ⟨#[]⟩, .string ⟨#[]⟩, .string ⟨#[5]⟩] 9)) 4 [bl true, bl false, bl false, bl false, bl true]
  have h3 := recover_any exX A 2 _ (hT.keep hb) (hx.keep hb) exU (by decide) (some ⟨w.heap.size, 0, none⟩) 5 e1 exH (some ⟨(w.alloc (.cells #[.string ⟨#[1]⟩, .string ⟨#[]⟩, .string ⟨#[]⟩, .string ⟨#[]⟩, .string ⟨#[5]⟩] 9)).heap.size, 0, none⟩) 5 (by decide) e2 u
  rw [hr, exx_v, hs] at h3
  refine h3.mono ?_
  rintro e w' ⟨rfl, hb3⟩
  exact ⟨rfl, hb.trans (hb3.mono hb.size)⟩
theorem ex_wid_any (A : Option Addr) (w : World) (hT : Tabs w) (hx : CIn w exX A) : Calls Tryd.prog 21 #[.agg #[.string ⟨#[]⟩, .int .i64 8, .int .i64 3, .slice A 2 2, .int .i64 0]] w fun e w' => e = .returned (.int .i64 5) ∧ Below w.heap.size w w' := by
  have h := width_any exX A 2 w hT hx
  rw [ex_wid, exx_v] at h
  exact h

set_option maxHeartbeats 400000 in
set_option maxRecDepth 100000 in
theorem sanity_any (w : World) (hT : Tabs w) : Calls Tryd.prog 11 #[] w fun e w' => e = .returned (.bool true) ∧ Below w.heap.size w w' := by
  obtain ⟨w1, hw1⟩ : ∃ W, W = w.alloc (.cells #[.int .i64 1, .int .i64 1, .int .i64 1] 3) := ⟨_, rfl⟩
  obtain ⟨w2, hw2⟩ : ∃ W, W = w1.alloc (.cells #[.int .i64 1, .int .i64 2, .int .i64 0] 3) := ⟨_, rfl⟩
  obtain ⟨w3, hw3⟩ : ∃ W, W = w2.alloc (.cells #[.slice (some ⟨w.heap.size, 0, none⟩) 3 3, .slice (some ⟨w.heap.size + 1, 0, none⟩) 3 3] 29) := ⟨_, rfl⟩
  obtain ⟨w4, hw4⟩ : ∃ W, W = w3.alloc (.cells #[.string ⟨#[]⟩, .int .i64 8, .int .i64 3, .slice (some ⟨w.heap.size + 1 + 1, 0, none⟩) 2 2, .int .i64 0] 24) := ⟨_, rfl⟩
  have s1 : w1.heap.size = w.heap.size + 1 := by rw [hw1]; simp
  have s2 : w2.heap.size = w.heap.size + 1 + 1 := by rw [hw2]; simp [s1]
  have s3 : w3.heap.size = w.heap.size + 1 + 1 + 1 := by rw [hw3]; simp [s2]
  have hb1 : Below w.heap.size w w1 := by rw [hw1]; exact below_new w _
  have hb2 : Below w1.heap.size w1 w2 := by rw [hw2]; exact below_new w1 _
  have hb3 : Below w2.heap.size w2 w3 := by rw [hw3]; exact below_new w2 _
  have hb4 : Below w3.heap.size w3 w4 := by rw [hw4]; exact below_new w3 _
  have r1 : Sl w1 w1.heap.size (some ⟨w.heap.size, 0, none⟩) 1 3 (([1, 1, 1] : List Int).map iv) := by rw [hw1]; exact sl_new w 3 _
  have r2 : Sl w2 w2.heap.size (some ⟨w.heap.size + 1, 0, none⟩) 1 3 (([1, 2, 0] : List Int).map iv) := by rw [← s1, hw2]; exact sl_new w1 3 _
  have hb : Sl w3 w3.heap.size (some ⟨w.heap.size + 1 + 1, 0, none⟩) 1 2 [.slice (some ⟨w.heap.size, 0, none⟩) 3 3, .slice (some ⟨w.heap.size + 1, 0, none⟩) 3 3] := by rw [← s2, hw3]; exact sl_new w2 29 _
  have hcin : CIn w3 exX (some ⟨w.heap.size + 1 + 1, 0, none⟩) := by
    refine ⟨⟨[.slice (some ⟨w.heap.size, 0, none⟩) 3 3, .slice (some ⟨w.heap.size + 1, 0, none⟩) 3 3], hb, ⟨_, _, rfl, ?_⟩, ⟨_, _, rfl, ?_⟩, trivial⟩, by decide, by decide⟩
    · exact (((r1.below hb2).wide hb2.size).below hb3).wide hb3.size
    · exact (r2.below hb3).wide hb3.size
  have HBC := hideIt (show BC w4 (w.heap.size + 1 + 1 + 1) exX (some ⟨w.heap.size + 1 + 1, 0, none⟩) 2 by rw [hw4, ← s3]; exact BC.new 2 hcin)
  have hbl : Below w.heap.size w w4 := (((hb1.trans (hb2.mono hb1.size)).trans (hb3.mono (by omega))).trans (hb4.mono (by omega)))
  have HB := hideIt hbl
  have HT := hideIt hT
  have HWE := hideIt (show w4 = (((w.alloc (.cells #[.int .i64 1, .int .i64 1, .int .i64 1] 3)).alloc (.cells #[.int .i64 1, .int .i64 2, .int .i64 0] 3)).alloc (.cells #[.slice (some ⟨w.heap.size, 0, none⟩) 3 3, .slice (some ⟨w.heap.size + 1, 0, none⟩) 3 3] 29)).alloc (.cells #[.string ⟨#[]⟩, .int .i64 8, .int .i64 3, .slice (some ⟨w.heap.size + 1 + 1, 0, none⟩) 2 2, .int .i64 0] 24) by rw [hw4, hw3, hw2, hw1])
  have HEN := hideIt (ex_enc_any (some ⟨w.heap.size + 1 + 1, 0, none⟩) w4 (HT.out.keep HB.out) HBC.out.cin)
  have HRC := hideIt (fun (W : World) (h : Below w4.heap.size w4 W) u r x hr => ex_rec_any (some ⟨w.heap.size + 1 + 1, 0, none⟩) W (HT.out.keep (HB.out.trans (h.mono HB.out.size))) (HBC.out.cin.keep h) u r x hr)
  have HWI := hideIt (fun (W : World) (h : Below w4.heap.size w4 W) => ex_wid_any (some ⟨w.heap.size + 1 + 1, 0, none⟩) W (HT.out.keep (HB.out.trans (h.mono HB.out.size))) (HBC.out.cin.keep h))
  have HBX : Hid (∀ (W : World), Below w4.heap.size w4 W → Blk W (w.heap.size + 1 + 1 + 1) 24 [.string ⟨#[]⟩, .int .i64 8, .int .i64 3, .slice (some ⟨w.heap.size + 1 + 1, 0, none⟩) 2 2, .int .i64 0]) := hideIt (fun W h => (HBC.out.keep h).box)
  have HR1 := hideIt ex_rec1
  have HR2 := hideIt ex_rec2
  have q0 : binOp .eql 32 (.int .i64 0) (.int .i64 0) = pure (.bool true) := by rw [i_eql]; rfl
  have q11 : binOp .eql 32 (.int .i64 11) (.int .i64 11) = pure (.bool true) := by rw [i_eql]; rfl
  have HS4 := hideIt (show w4.heap.size = w.heap.size + 1 + 1 + 1 + 1 by rw [hw4, World.size_alloc, s3])
  clear hw1 hw2 hw3 hw4 s1 s2 s3 hb1 hb2 hb3 hb4 r1 r2 hb hcin hbl hT
  go_enter Tryd.func11, Tryd.ntmps11
  have hst : str [2] = ⟨#[2]⟩ := rfl
  go_wp2_with (first
    | (go_at_call 16; rw [← HWE.out, ← HS4.out]; refine HEN.out.mono ?_; rintro e w5 ⟨v5, rfl, ho5, hb5⟩; obtain ⟨g5, c5, rfl⟩ := own_some ho5 (by decide); have HB5 := hideIt hb5; have HO5 := hideIt ho5; clear hb5 ho5 HEN)
    | (go_at_call 33; refine (HRC.out w5 HB5.out 1 [2] 0 HR1.out).mono ?_; rintro e w6 ⟨rfl, hb6⟩; have HB6 := hideIt (HB5.out.trans (hb6.mono HB5.out.size)); have HO6 := hideIt (own_kept HO5.out hb6); clear hb6 HR1)
    | (go_at_call 33; refine (HRC.out w6 HB6.out 2 [] 11 HR2.out).mono ?_; rintro e w7 ⟨rfl, hb7⟩; have HB7 := hideIt (HB6.out.trans (hb7.mono HB6.out.size)); have ho7 := own_kept HO6.out hb7; have d4 : w7.cell? ⟨g5, 4, none⟩ = some (.string ⟨#[5]⟩) := ho7.cells (g := g5) rfl 4 _ rfl; clear hb7 HR2 ho7)
    | (go_at_call 21; refine (HWI.out w7 HB7.out).mono ?_; rintro e w8 ⟨rfl, hb8⟩; have HB8 := hideIt (HB7.out.trans (hb8.mono HB7.out.size)); clear hb8)
    | ((with_reducible refine at_load ?_); refine wpList_get_g (by kernel_rfl) _ (.tmp 1) rfl (w.heap.size + 1 + 1 + 1) _ _ _ rfl (HBX.out _ HB7.out) Tryd.underlying24 rfl isz5 ?_)
    | ((with_reducible refine at_load ?_); refine wpList_get_g (by kernel_rfl) _ (.tmp 1) rfl (w.heap.size + 1 + 1 + 1) _ _ _ rfl (HBX.out _ HB6.out) Tryd.underlying24 rfl isz5 ?_)
    | ((with_reducible refine at_load ?_); refine wpList_get_g (by kernel_rfl) _ (.tmp 1) rfl (w.heap.size + 1 + 1 + 1) _ _ _ rfl (HBX.out _ HB5.out) Tryd.underlying24 rfl isz5 ?_))
  go_ret
  exact ⟨rfl, HB.out.trans (HB8.out.mono HB.out.size)⟩

end Go.Proofs.YtpjgmekpnlpjaaaDoor
