/-
  sum, walked.
-/
import Derived.Test.YtpjgmekpnlpjaaaDoorEraS
namespace Go.Proofs.YtpjgmekpnlpjaaaDoor
open Go.RowKit
set_option linter.unusedVariables false
set_option linter.unusedSimpArgs false

/-- Rows of a call beside a box of another type. -/
structure GS (N : Nat) (es : Nat → TypeId) (bt : TypeId) (w0 : World) (base pb : Nat) (bc : List Value) (w : World) (vs : Nat → Value) (ks : Nat → Nat) (ls : Nat → List Value) : Prop where
  rn : RN N es w base vs ks ls
  box : Blk w pb bt bc
  ne : ∀ i, i < N → bt ≠ es i
  sz : base ≤ w.heap.size
  low : Below base w0 w
section
variable {N : Nat} {es : Nat → TypeId} {bt : TypeId} {w0 : World} {base pb : Nat} {bc : List Value} {w : World} {vs vs' : Nat → Value} {ks ks' : Nat → Nat} {ls ls' : Nat → List Value}
theorem GS.to (h : GS N es bt w0 base pb bc w vs ks ls) (hv : ∀ i, i < N → vs i = vs' i) (hk : ∀ i, i < N → ks i = ks' i) (hl : ∀ i, i < N → ls i = ls' i) : GS N es bt w0 base pb bc w vs' ks' ls' :=
  ⟨⟨fun i hi => by rw [← hv i hi, ← hk i hi, ← hl i hi]; exact h.rn.own i hi, fun i j hi hj hne => by rw [← hv i hi, ← hv j hj]; exact h.rn.apart i j hi hj hne⟩, h.box, h.ne, h.sz, h.low⟩
theorem GS.step (h : GS N es bt w0 base pb bc w vs ks ls) (r : Nat) (hr : r < N) {w' : World} {v' : Value} {k' : Nat} {l' : List Value} (hg : w.grownBy w' (vs r).ownBlock) (ho : w'.ownsRow base (es r) 1 v' k' l') (hat : v'.ownBlock = (vs r).ownBlock ∨ v'.ownBlock = some w.heap.size) :
    GS N es bt w0 base pb bc w' (upd vs r v') (upd ks r k') (upd ls r l') :=
  ⟨h.rn.step r hr hg ho hat, h.box.grown hg (own_ne (h.rn.own r hr) h.box (h.ne r hr)), h.ne, Nat.le_trans h.sz hg.size, below_grown h.low (h.rn.own r hr) (Nat.le_refl _) h.sz hg⟩
theorem GS.lit (h : GS N es bt w0 base pb bc w vs ks ls) (r : Nat) (hr : r < N) (u : Value) : GS N es bt w0 base pb bc (w.alloc (.cells #[u] (es r))) (upd vs r (.slice (some ⟨w.heap.size, 0, none⟩) 1 1)) (upd ks r 1) (upd ls r [u]) :=
  h.step r hr (grown_alloc w _ _) (World.ownsRow_lit w #[u] 1 h.sz (by decide) rfl) (.inr rfl)
theorem GS.drew (h : GS N es bt w0 base pb bc w vs ks ls) : GS N es bt w0 base pb bc w.drew vs ks ls := ⟨h.rn.below (Below.refl _ w).drew, h.box, h.ne, h.sz, h.low.drew⟩
end
def V4 {α : Type} (a b c d : α) : Nat → α
  | 0 => a | 1 => b | 2 => c | _ => d
def T4 : Nat → TypeId := V4 3 9 3 9
theorem four {p : Nat → Prop} (h0 : p 0) (h1 : p 1) (h2 : p 2) (h3 : p 3) : ∀ i, i < 4 → p i := fun i hi => by
  match i, hi with
  | 0, _ => exact h0
  | 1, _ => exact h1
  | 2, _ => exact h2
  | 3, _ => exact h3

abbrev cfs (L : List (Nat × Nat)) : List Int := L.map fun t => (t.2 : Int)
abbrev sms (L : List (Nat × Nat)) (us : List (List UInt8)) : List (List UInt8) := L.map fun t => us.getD t.1 []

set_option maxHeartbeats 4000000 in
set_option maxRecDepth 100000 in
theorem sum_any (m : Int) (L : List (Nat × Nat)) (us : List (List UInt8)) (hL : L.length ≤ 1000) (hin : ∀ t ∈ L, t.1 < us.length) (hbig : ∀ u ∈ us, u.length ≤ 100000) (hul : us.length ≤ 100000) (A : Option Addr) (ca : Nat) (D : Option Addr) (cd : Nat) (w : World) (hT : Tabs w)
    (ht : Sl w w.heap.size A 2 L.length (tcs L)) (hu : Sl w w.heap.size D 1 us.length (us.map sv)) :
    Calls Tryd.prog 55 #[.int .i64 m, .slice A L.length ca, .slice D us.length cd] w fun e w' => e = .returned (.string (str (sumR m L us))) ∧ Below w.heap.size w w' := by
  have HT := hideIt hT
  have HTE := hideIt ht
  have HU := hideIt hu
  have HIN := hideIt hin
  have HBG := hideIt hbig
  have HCM := hideIt (fun (W : World) (h : Below w.heap.size w W) A ca D cd h1 h2 => combine_any m A ca (cfs L) D cd (sms L us) W (HT.out.keep h) (by rw [List.length_map]; omega) (by
    cases L with
    | nil => simp [sms, ul]
    | cons t r =>
      show (us.getD t.1 []).length ≤ _
      have := HIN.out t (List.mem_cons_self)
      rw [show us.getD t.1 [] = us[t.1] by simp [List.getD_eq_getElem?_getD, this]]
      exact HBG.out _ (List.getElem_mem _)) h1 h2)
  rw [List.length_map, List.length_map] at HCM
  obtain ⟨q, hq⟩ : ∃ q, q = L.length := ⟨_, rfl⟩
  have HQ0 := hideIt hq
  rw [← hq] at hL HCM ⊢
  clear hT ht hu hin hbig hq
  go_enter Tryd.func55, Tryd.ntmps55
  go_wp2_with fail
  go_loopg [7, 8, 15] q (fun gk s7 s8 s15 wr => ∃ k : Nat, k + gk = q ∧ s15 = .int .i64 (k : Int) ∧ Aside (Below w.heap.size w wr) ∧ Aside (wr.ownsRow w.heap.size 3 1 s7 k ((cfs (L.take k)).map iv)) ∧ Aside (wr.ownsRow w.heap.size 9 1 s8 k ((sms (L.take k) us).map sv)))
  case atStart => exact ⟨0, by omega, rfl, Below.refl _ _, World.ownsRow_nil _ _ _ _, World.ownsRow_nil _ _ _ _⟩
  case round =>
    obtain ⟨k, hk, rfl, HLW, HO7, HO8⟩ := hrel
    obtain ⟨w5, rfl⟩ : ∃ x, x = wr := ⟨wr, rfl⟩
    obtain ⟨A7, c7, e7, _, _⟩ := own_form HO7.out
    obtain ⟨A8, c8, e8, _, _⟩ := own_form HO8.out
    subst e7 e8
    by_cases hlt : k < q
    · have hkl : k < L.length := by rw [← HQ0.out]; exact hlt
      have h1 := HIN.out _ (List.getElem_mem hkl)
      obtain ⟨b, o, hA, hb, hc⟩ := (HTE.out.below HLW.out).2 (by rw [tcs_len]; omega)
      have hcu := hc _ _ (tcs_at L k hkl).1
      have hcc := hc _ _ (tcs_at L k hkl).2
      obtain ⟨b2, o2, hD, hb2, hcs⟩ := (HU.out.below HLW.out).strs (by omega)
      have hcs1 := hcs _ h1
      have HTK := hideIt (take_snoc L k hkl)
      have hgd : us.getD (L[k]).1 [] = us[(L[k]).1] := by simp [List.getD_eq_getElem?_getD, h1]
      have HN1 := hideIt (show (cfs (L.take (k + 1))).map iv = (cfs (L.take k)).map iv ++ [.int .i64 ((L[k]).2 : Int)] by rw [take_snoc L k hkl]; unfold cfs; rw [List.map_append, List.map_append]; rfl)
      have HN2 := hideIt (show (sms (L.take (k + 1)) us).map sv = (sms (L.take k) us).map sv ++ [sv us[(L[k]).1]] by rw [take_snoc L k hkl]; unfold sms; rw [List.map_append, List.map_append, ← hgd]; rfl)
      have hun : ((L[k]).1 : Int) < (us.length : Int) := by omega
      have hinc := inc_c 3 k (by omega)
      have hki : (k : Int) < (q : Int) := by omega
      generalize us[(L[k]).1] = s0 at *
      generalize (L[k]).1 = un at *
      generalize (L[k]).2 = cf at *
      rw [← Nat.add_assoc] at hcc
      subst hA hD
      clear hc hcs hgd h1 hkl HTK hb
      have HB2 := hideIt hb2
      clear hb2
      go_wp2_with fail
      obtain ⟨p, hp⟩ : ∃ p, p = w5.heap.size := ⟨_, rfl⟩
      obtain ⟨w6, hw6⟩ : ∃ W, W = w5.alloc (.cells #[.int .i64 (un : Int), .int .i64 (cf : Int)] 63) := ⟨_, rfl⟩
      have hbx : Blk w6 p 63 [.int .i64 (un : Int), .int .i64 (cf : Int)] := by rw [hw6, hp]; exact Blk.new w5 63 [.int .i64 (un : Int), .int .i64 (cf : Int)]
      have hb6 : Below w5.heap.size w5 w6 := by rw [hw6]; exact below_new w5 _
      have HB6 := hideIt hb6
      have HBS := hideIt (show w.heap.size ≤ w6.heap.size from Nat.le_trans HLW.out.size hb6.size)
      obtain ⟨v7, hv7⟩ : ∃ v, v = (.slice A7 k c7 : Value) := ⟨_, rfl⟩
      obtain ⟨v8, hv8⟩ : ∃ v, v = (.slice A8 k c8 : Value) := ⟨_, rfl⟩
      have ho7 := own_kept HO7.out hb6
      have ho8 := own_kept HO8.out hb6
      rw [← hv7] at ho7
      rw [← hv8] at ho8
      have HE0 := hideIt (show GS 4 T4 63 w6 w.heap.size p [.int .i64 (un : Int), .int .i64 (cf : Int)] w6 (V4 v7 v8 (.slice none 0 0) (.slice none 0 0)) (V4 k k 0 0) (V4 ((cfs (L.take k)).map iv) ((sms (L.take k) us).map sv) [] []) from
        ⟨⟨four ho7 ho8 (World.ownsRow_nil _ _ _ _) (World.ownsRow_nil _ _ _ _), by
          intro i j hi hj
          have e1 := own_apart2 ho7 ho8 (by decide)
          have en : ∀ v : Value, Apart v (.slice none 0 0) := fun v k _ h => by cases h
          have en2 : ∀ v : Value, Apart (.slice none 0 0) v := fun v k h _ => by cases h
          match i, hi, j, hj with
          | 0, _, 0, _ => exact fun h => absurd rfl h
          | 0, _, 1, _ => exact fun _ => e1
          | 0, _, 2, _ => exact fun _ => en _
          | 0, _, 3, _ => exact fun _ => en _
          | 1, _, 0, _ => exact fun _ => e1.symm
          | 1, _, 1, _ => exact fun h => absurd rfl h
          | 1, _, 2, _ => exact fun _ => en _
          | 1, _, 3, _ => exact fun _ => en _
          | 2, _, 0, _ => exact fun _ => en2 _
          | 2, _, 1, _ => exact fun _ => en2 _
          | 2, _, 2, _ => exact fun h => absurd rfl h
          | 2, _, 3, _ => exact fun _ => en2 _
          | 3, _, 0, _ => exact fun _ => en2 _
          | 3, _, 1, _ => exact fun _ => en2 _
          | 3, _, 2, _ => exact fun _ => en2 _
          | 3, _, 3, _ => exact fun h => absurd rfl h⟩, hbx, four (by decide) (by decide) (by decide) (by decide), HBS.out, Below.refl _ _⟩)
      have HLK := hideIt (show k ≤ 999 by omega)
      rw [← hp, ← hw6, ← hv7, ← hv8]
      have c1 : w6.cell? ⟨p, 1, none⟩ = some (.int .i64 (cf : Int)) := hbx.cell 1
      have c0 : w6.cell? ⟨p, 0, none⟩ = some (.int .i64 (un : Int)) := hbx.cell 0
      have HCS := hideIt (show w5.cell? ⟨b2, o2 + un, none⟩ = some (sv s0) from hcs1)
      have c2 : w6.cell? ⟨b2, o2 + un, none⟩ = some (sv s0) := (hb6.cell (p := ⟨b2, o2 + un, none⟩) (Nat.lt_of_lt_of_le HB2.out HLW.out.size)).trans hcs1
      have HC2 := hideIt c2
      clear hp hw6 hbx hb6 hv7 hv8 ho7 ho8 hcu hcc hcs1
      generalize (cfs (L.take k)).map iv = cs at *
      generalize (sms (L.take k) us).map sv = ss at *
      refine loads_begin_n 15 [(3, fun W => W.cell? ⟨p, 1, none⟩ = some (.int .i64 (cf : Int))), (14, fun W => W.cell? ⟨p, 0, none⟩ = some (.int .i64 (un : Int))), (11, fun W => W.cell? ⟨b2, o2 + un, none⟩ = some (sv s0))] rfl (by kernel_rfl) ?_
      refine wpAnyL_move (oi := ⟨some 19, _, _, _, _, _⟩) 0 ?_ rfl (by kernel_rfl) (by kernel_rfl) (by kernel_rfl) (by kernel_rfl) (fun _ _ _ h => h) (by kernel_rfl) ?_ ((Hooks.add c1 (Hooks.add c0 (Hooks.add c2 (Hooks.nil _ _))))) ?_
      rotate_left
      · intro W'; go_simp; first | done | with_reducible rfl
      try simp only [Act.put]
      try simp only [List.setIfInBounds_toArray]
      try simp only [List.set_cons_succ]
      try simp only [List.set_cons_zero]
      refine wpAnyL_move (oi := ⟨some 20, _, _, _, _, _⟩) 1 ?_ rfl (by kernel_rfl) (by kernel_rfl) (by kernel_rfl) (by kernel_rfl) (fun _ _ _ h => h) (by kernel_rfl) ?_ ((Hooks.add c1 (Hooks.add c0 (Hooks.add c2 (Hooks.nil _ _))))) ?_
      rotate_left
      · intro W'; go_simp; first | done | with_reducible rfl
      try simp only [Act.put]
      try simp only [List.setIfInBounds_toArray]
      try simp only [List.set_cons_succ]
      try simp only [List.set_cons_zero]
      refine wpAnyL_take (oi := ⟨some 21, _, _, _, _, _⟩) 2 3 (.int .i64 (cf : Int)) _ rfl (by kernel_rfl) (by kernel_rfl) (by kernel_rfl) (by kernel_rfl) (by kernel_rfl) (by kernel_rfl) (.head _) (fun _ _ _ h => h) (by kernel_rfl) (fun W' hW' => by (try dsimp only at hW'); go_simp) (Hooks.add c1 (Hooks.add c0 (Hooks.add c2 (Hooks.nil _ _)))) ?_
      try simp only [Act.put]
      try simp only [List.setIfInBounds_toArray]
      try simp only [List.set_cons_succ]
      try simp only [List.set_cons_zero]
      refine wpAnyL_move (oi := ⟨some 24, _, _, _, _, _⟩) 5 ?_ rfl (by kernel_rfl) (by kernel_rfl) (by kernel_rfl) (by kernel_rfl) (fun _ _ _ h => h) (by kernel_rfl) ?_ ((Hooks.add c1 (Hooks.add c0 (Hooks.add c2 (Hooks.nil _ _))))) ?_
      rotate_left
      · intro W'; go_simp; first | done | with_reducible rfl
      try simp only [Act.put]
      try simp only [List.setIfInBounds_toArray]
      try simp only [List.set_cons_succ]
      try simp only [List.set_cons_zero]
      refine wpAnyL_move (oi := ⟨some 25, _, _, _, _, _⟩) 6 ?_ rfl (by kernel_rfl) (by kernel_rfl) (by kernel_rfl) (by kernel_rfl) (fun _ _ _ h => h) (by kernel_rfl) ?_ ((Hooks.add c1 (Hooks.add c0 (Hooks.add c2 (Hooks.nil _ _))))) ?_
      rotate_left
      · intro W'; go_simp; first | done | with_reducible rfl
      try simp only [Act.put]
      try simp only [List.setIfInBounds_toArray]
      try simp only [List.set_cons_succ]
      try simp only [List.set_cons_zero]
      refine wpAnyL_move (oi := ⟨some 26, _, _, _, _, _⟩) 7 ?_ rfl (by kernel_rfl) (by kernel_rfl) (by kernel_rfl) (by kernel_rfl) (fun _ _ _ h => h) (by kernel_rfl) ?_ ((Hooks.add c1 (Hooks.add c0 (Hooks.add c2 (Hooks.nil _ _))))) ?_
      rotate_left
      · intro W'; go_simp; first | done | with_reducible rfl
      try simp only [Act.put]
      try simp only [List.setIfInBounds_toArray]
      try simp only [List.set_cons_succ]
      try simp only [List.set_cons_zero]
      refine wpAnyL_take (oi := ⟨some 27, _, _, _, _, _⟩) 8 14 (.int .i64 (un : Int)) _ rfl (by kernel_rfl) (by kernel_rfl) (by kernel_rfl) (by kernel_rfl) (by kernel_rfl) (by kernel_rfl) (.tail _ (.head _)) (fun _ _ _ h => h) (by kernel_rfl) (fun W' hW' => by (try dsimp only at hW'); go_simp) (Hooks.add c1 (Hooks.add c0 (Hooks.add c2 (Hooks.nil _ _)))) ?_
      try simp only [Act.put]
      try simp only [List.setIfInBounds_toArray]
      try simp only [List.set_cons_succ]
      try simp only [List.set_cons_zero]
      refine wpAnyL_move (oi := ⟨some 28, _, _, _, _, _⟩) 9 ?_ rfl (by kernel_rfl) (by kernel_rfl) (by kernel_rfl) (by kernel_rfl) (fun _ _ _ h => h) (by kernel_rfl) ?_ ((Hooks.add c1 (Hooks.add c0 (Hooks.add c2 (Hooks.nil _ _))))) ?_
      rotate_left
      · intro W'; go_simp; first | done | with_reducible rfl
      try simp only [Act.put]
      try simp only [List.setIfInBounds_toArray]
      try simp only [List.set_cons_succ]
      try simp only [List.set_cons_zero]
      refine wpAnyL_take (oi := ⟨some 29, _, _, _, _, _⟩) 10 11 (sv s0) _ rfl (by kernel_rfl) (by kernel_rfl) (by kernel_rfl) (by kernel_rfl) (by kernel_rfl) (by kernel_rfl) (.tail _ (.tail _ (.head _))) (fun _ _ _ h => h) (by kernel_rfl) (fun W' hW' => by (try dsimp only at hW'); go_simp) (Hooks.add c1 (Hooks.add c0 (Hooks.add c2 (Hooks.nil _ _)))) ?_
      try simp only [Act.put]
      try simp only [List.setIfInBounds_toArray]
      try simp only [List.set_cons_succ]
      try simp only [List.set_cons_zero]
      obtain ⟨w9, hw9⟩ : ∃ W, W = w6.drew := ⟨_, rfl⟩
      have HE := hideIt (show GS 4 T4 63 w6 w.heap.size p [.int .i64 (un : Int), .int .i64 (cf : Int)] w9 _ _ _ by rw [hw9]; exact HE0.out.drew)
      have HQ := hideIt (fun (bb : Array Bool) (W : World) (h1 : Blk W p 63 [.int .i64 (un : Int), .int .i64 (cf : Int)]) (h2 : Below w.heap.size w6 W) => show Hooks [(3, fun W => W.cell? ⟨p, 1, none⟩ = some (.int .i64 (cf : Int))), (14, fun W => W.cell? ⟨p, 0, none⟩ = some (.int .i64 (un : Int))), (11, fun W => W.cell? ⟨b2, o2 + un, none⟩ = some (sv s0))] bb W from Hooks.add (h1.cell 1) (Hooks.add (h1.cell 0) (Hooks.add ((h2.cell (p := ⟨b2, o2 + un, none⟩) HB2.out).trans HC2.out) (Hooks.nil _ _))))
      rw [← hw9]
      clear HE0 hw9 c0 c1 c2
      refine wpAnyL_two (oi := ⟨some 22, _, _, _, _, _⟩) (oj := ⟨some 30, _, _, _, _, _⟩) 3 11 (by kernel_rfl) rfl rfl (fun K hK => ?_) (fun K hK => ?_)
      · go_wp2_with fail
        have HE2 := hideIt (show GS _ _ _ _ _ _ _ (w9.alloc (.cells #[.int .i64 (cf : Int)] 3)) _ _ _ from (HE.out.lit 2 (by decide) (.int .i64 (cf : Int))).to (vs' := V4 (v7) (v8) (.slice (some ⟨w9.heap.size, 0, none⟩) 1 1) (.slice none 0 0)) (ks' := V4 (k) (k) (1) (0)) (ls' := V4 (cs) (ss) ([.int .i64 (cf : Int)]) ([])) (four rfl rfl rfl rfl) (four rfl rfl rfl rfl) (four rfl rfl rfl rfl))
        clear HE
        obtain ⟨w21, hw21⟩ : ∃ W, W = w9.alloc (.cells #[.int .i64 (cf : Int)] 3) := ⟨_, rfl⟩
        obtain ⟨b21, hb21⟩ : ∃ b, b = w9.heap.size := ⟨_, rfl⟩
        rw [← hw21, ← hb21] at HE2
        rw [← hw21, ← hb21]
        have HE := HE2
        clear HE2 hw21 hb21
        refine hK _ _ (HQ.out _ _ HE.out.box HE.out.low) ?_
        clear hK K
        refine wpAnyL_two (oi := ⟨some 23, _, _, _, _, _⟩) (oj := ⟨some 30, _, _, _, _, _⟩) 4 11 (by kernel_rfl) rfl rfl (fun K hK => ?_) (fun K hK => ?_)
        · go_wp2_with ((with_reducible refine at_append ?_); refine wpList_apG (z := .int .i64 0) (size := 1) (bytes := 8) (n := k) (m := 1) (news := [.int .i64 (cf : Int)]) (xs := cs) (ad := ⟨b21, 0, none⟩) Tryd.underlying29 (by kernel_rfl) rfl (by decide) (by decide) rfl (.tmp 19) (.tmp 22) rfl rfl (HE.out.rn.own 0 (by decide)) rfl rfl ((HE.out.rn.own 2 (by decide)).cells (g := b21) rfl) (ones_one rfl) (by omega) HE.out.sz ?_; intro v9 w22 HO9 HG9 HA9 HB9)
          obtain ⟨A22, k22, e9, _, _⟩ := own_form HO9.out
          subst e9
          have HE2 := hideIt ((HE.out.step 0 (by decide) HG9.out HO9.out HA9.out).to (vs' := V4 (.slice A22 (k + 1) k22) (v8) (.slice (some ⟨b21, 0, none⟩) 1 1) (.slice none 0 0)) (ks' := V4 (k + 1) (k) (1) (0)) (ls' := V4 (cs ++ [.int .i64 (cf : Int)]) (ss) ([.int .i64 (cf : Int)]) ([])) (four rfl rfl rfl rfl) (four rfl rfl rfl rfl) (four rfl rfl rfl rfl))
          clear HE HO9 HG9 HA9 HB9
          have HE := HE2
          clear HE2
          refine hK _ _ (HQ.out _ _ HE.out.box HE.out.low) ?_
          clear hK K
          refine wpAnyL_one (o := ⟨some 30, _, _, _, _, _⟩) 11 (by kernel_rfl) rfl (fun K hK => ?_)
          go_wp2_with fail
          have HE2 := hideIt (show GS _ _ _ _ _ _ _ (w22.alloc (.cells #[sv s0] 9)) _ _ _ from (HE.out.lit 3 (by decide) (sv s0)).to (vs' := V4 (.slice A22 (k + 1) k22) (v8) (.slice (some ⟨b21, 0, none⟩) 1 1) (.slice (some ⟨w22.heap.size, 0, none⟩) 1 1)) (ks' := V4 (k + 1) (k) (1) (1)) (ls' := V4 (cs ++ [.int .i64 (cf : Int)]) (ss) ([.int .i64 (cf : Int)]) ([sv s0])) (four rfl rfl rfl rfl) (four rfl rfl rfl rfl) (four rfl rfl rfl rfl))
          clear HE
          obtain ⟨w23, hw23⟩ : ∃ W, W = w22.alloc (.cells #[sv s0] 9) := ⟨_, rfl⟩
          obtain ⟨b23, hb23⟩ : ∃ b, b = w22.heap.size := ⟨_, rfl⟩
          rw [← hw23, ← hb23] at HE2
          rw [← hw23, ← hb23]
          have HE := HE2
          clear HE2 hw23 hb23
          refine hK _ _ (HQ.out _ _ HE.out.box HE.out.low) ?_
          clear hK K
          refine wpAnyL_one (o := ⟨some 31, _, _, _, _, _⟩) 12 (by kernel_rfl) rfl (fun K hK => ?_)
          go_wp2_with ((with_reducible refine at_append ?_); refine wpList_apG (z := .string ⟨#[]⟩) (size := 1) (bytes := 16) (n := k) (m := 1) (news := [sv s0]) (xs := ss) (ad := ⟨b23, 0, none⟩) Tryd.underlying25 (by kernel_rfl) rfl (by decide) (by decide) rfl (.tmp 24) (.tmp 30) rfl rfl (HE.out.rn.own 1 (by decide)) rfl rfl ((HE.out.rn.own 3 (by decide)).cells (g := b23) rfl) (ones_one rfl) (by omega) HE.out.sz ?_; intro v9 w24 HO9 HG9 HA9 HB9)
          obtain ⟨A24, k24, e9, _, _⟩ := own_form HO9.out
          subst e9
          have HE2 := hideIt ((HE.out.step 1 (by decide) HG9.out HO9.out HA9.out).to (vs' := V4 (.slice A22 (k + 1) k22) (.slice A24 (k + 1) k24) (.slice (some ⟨b21, 0, none⟩) 1 1) (.slice (some ⟨b23, 0, none⟩) 1 1)) (ks' := V4 (k + 1) (k + 1) (1) (1)) (ls' := V4 (cs ++ [.int .i64 (cf : Int)]) (ss ++ [sv s0]) ([.int .i64 (cf : Int)]) ([sv s0])) (four rfl rfl rfl rfl) (four rfl rfl rfl rfl) (four rfl rfl rfl rfl))
          clear HE HO9 HG9 HA9 HB9
          have HE := HE2
          clear HE2
          refine hK _ _ (HQ.out _ _ HE.out.box HE.out.low) ?_
          clear hK K
          refine wpAnyL_one (o := ⟨some 7, _, _, _, _, _⟩) 13 (by kernel_rfl) rfl (fun K hK => ?_)
          go_wp2_with fail
          refine hK _ _ (HQ.out _ _ HE.out.box HE.out.low) ?_
          clear hK K
          refine loads_tail 14 (by kernel_rfl) (by kernel_rfl) (by kernel_rfl) (by kernel_rfl) ?_
          simp only [List.drop_succ_cons, List.drop_zero]
          go_wp2_with fail
          go_roundg (gk - 1)
          case measure => omega
          case rel => exact ⟨k + 1, by omega, by go_num, (HLW.out.trans (HB6.out.mono HLW.out.size)).trans HE.out.low, HN1.out ▸ own_base (HE.out.rn.own 0 (by decide)) (Nat.le_refl _), HN2.out ▸ own_base (HE.out.rn.own 1 (by decide)) (Nat.le_refl _)⟩
        · go_wp2_with fail
          have HE2 := hideIt (show GS _ _ _ _ _ _ _ (w21.alloc (.cells #[sv s0] 9)) _ _ _ from (HE.out.lit 3 (by decide) (sv s0)).to (vs' := V4 (v7) (v8) (.slice (some ⟨b21, 0, none⟩) 1 1) (.slice (some ⟨w21.heap.size, 0, none⟩) 1 1)) (ks' := V4 (k) (k) (1) (1)) (ls' := V4 (cs) (ss) ([.int .i64 (cf : Int)]) ([sv s0])) (four rfl rfl rfl rfl) (four rfl rfl rfl rfl) (four rfl rfl rfl rfl))
          clear HE
          obtain ⟨w25, hw25⟩ : ∃ W, W = w21.alloc (.cells #[sv s0] 9) := ⟨_, rfl⟩
          obtain ⟨b25, hb25⟩ : ∃ b, b = w21.heap.size := ⟨_, rfl⟩
          rw [← hw25, ← hb25] at HE2
          rw [← hw25, ← hb25]
          have HE := HE2
          clear HE2 hw25 hb25
          refine hK _ _ (HQ.out _ _ HE.out.box HE.out.low) ?_
          clear hK K
          refine wpAnyL_one (o := ⟨some 23, _, _, _, _, _⟩) 4 (by kernel_rfl) rfl (fun K hK => ?_)
          go_wp2_with ((with_reducible refine at_append ?_); refine wpList_apG (z := .int .i64 0) (size := 1) (bytes := 8) (n := k) (m := 1) (news := [.int .i64 (cf : Int)]) (xs := cs) (ad := ⟨b21, 0, none⟩) Tryd.underlying29 (by kernel_rfl) rfl (by decide) (by decide) rfl (.tmp 19) (.tmp 22) rfl rfl (HE.out.rn.own 0 (by decide)) rfl rfl ((HE.out.rn.own 2 (by decide)).cells (g := b21) rfl) (ones_one rfl) (by omega) HE.out.sz ?_; intro v9 w26 HO9 HG9 HA9 HB9)
          obtain ⟨A26, k26, e9, _, _⟩ := own_form HO9.out
          subst e9
          have HE2 := hideIt ((HE.out.step 0 (by decide) HG9.out HO9.out HA9.out).to (vs' := V4 (.slice A26 (k + 1) k26) (v8) (.slice (some ⟨b21, 0, none⟩) 1 1) (.slice (some ⟨b25, 0, none⟩) 1 1)) (ks' := V4 (k + 1) (k) (1) (1)) (ls' := V4 (cs ++ [.int .i64 (cf : Int)]) (ss) ([.int .i64 (cf : Int)]) ([sv s0])) (four rfl rfl rfl rfl) (four rfl rfl rfl rfl) (four rfl rfl rfl rfl))
          clear HE HO9 HG9 HA9 HB9
          have HE := HE2
          clear HE2
          refine hK _ _ (HQ.out _ _ HE.out.box HE.out.low) ?_
          clear hK K
          refine wpAnyL_one (o := ⟨some 31, _, _, _, _, _⟩) 12 (by kernel_rfl) rfl (fun K hK => ?_)
          go_wp2_with ((with_reducible refine at_append ?_); refine wpList_apG (z := .string ⟨#[]⟩) (size := 1) (bytes := 16) (n := k) (m := 1) (news := [sv s0]) (xs := ss) (ad := ⟨b25, 0, none⟩) Tryd.underlying25 (by kernel_rfl) rfl (by decide) (by decide) rfl (.tmp 24) (.tmp 30) rfl rfl (HE.out.rn.own 1 (by decide)) rfl rfl ((HE.out.rn.own 3 (by decide)).cells (g := b25) rfl) (ones_one rfl) (by omega) HE.out.sz ?_; intro v9 w27 HO9 HG9 HA9 HB9)
          obtain ⟨A27, k27, e9, _, _⟩ := own_form HO9.out
          subst e9
          have HE2 := hideIt ((HE.out.step 1 (by decide) HG9.out HO9.out HA9.out).to (vs' := V4 (.slice A26 (k + 1) k26) (.slice A27 (k + 1) k27) (.slice (some ⟨b21, 0, none⟩) 1 1) (.slice (some ⟨b25, 0, none⟩) 1 1)) (ks' := V4 (k + 1) (k + 1) (1) (1)) (ls' := V4 (cs ++ [.int .i64 (cf : Int)]) (ss ++ [sv s0]) ([.int .i64 (cf : Int)]) ([sv s0])) (four rfl rfl rfl rfl) (four rfl rfl rfl rfl) (four rfl rfl rfl rfl))
          clear HE HO9 HG9 HA9 HB9
          have HE := HE2
          clear HE2
          refine hK _ _ (HQ.out _ _ HE.out.box HE.out.low) ?_
          clear hK K
          refine wpAnyL_one (o := ⟨some 7, _, _, _, _, _⟩) 13 (by kernel_rfl) rfl (fun K hK => ?_)
          go_wp2_with fail
          refine hK _ _ (HQ.out _ _ HE.out.box HE.out.low) ?_
          clear hK K
          refine loads_tail 14 (by kernel_rfl) (by kernel_rfl) (by kernel_rfl) (by kernel_rfl) ?_
          simp only [List.drop_succ_cons, List.drop_zero]
          go_wp2_with fail
          go_roundg (gk - 1)
          case measure => omega
          case rel => exact ⟨k + 1, by omega, by go_num, (HLW.out.trans (HB6.out.mono HLW.out.size)).trans HE.out.low, HN1.out ▸ own_base (HE.out.rn.own 0 (by decide)) (Nat.le_refl _), HN2.out ▸ own_base (HE.out.rn.own 1 (by decide)) (Nat.le_refl _)⟩
      · go_wp2_with fail
        have HE2 := hideIt (show GS _ _ _ _ _ _ _ (w9.alloc (.cells #[sv s0] 9)) _ _ _ from (HE.out.lit 3 (by decide) (sv s0)).to (vs' := V4 (v7) (v8) (.slice none 0 0) (.slice (some ⟨w9.heap.size, 0, none⟩) 1 1)) (ks' := V4 (k) (k) (0) (1)) (ls' := V4 (cs) (ss) ([]) ([sv s0])) (four rfl rfl rfl rfl) (four rfl rfl rfl rfl) (four rfl rfl rfl rfl))
        clear HE
        obtain ⟨w28, hw28⟩ : ∃ W, W = w9.alloc (.cells #[sv s0] 9) := ⟨_, rfl⟩
        obtain ⟨b28, hb28⟩ : ∃ b, b = w9.heap.size := ⟨_, rfl⟩
        rw [← hw28, ← hb28] at HE2
        rw [← hw28, ← hb28]
        have HE := HE2
        clear HE2 hw28 hb28
        refine hK _ _ (HQ.out _ _ HE.out.box HE.out.low) ?_
        clear hK K
        refine wpAnyL_one (o := ⟨some 22, _, _, _, _, _⟩) 3 (by kernel_rfl) rfl (fun K hK => ?_)
        go_wp2_with fail
        have HE2 := hideIt (show GS _ _ _ _ _ _ _ (w28.alloc (.cells #[.int .i64 (cf : Int)] 3)) _ _ _ from (HE.out.lit 2 (by decide) (.int .i64 (cf : Int))).to (vs' := V4 (v7) (v8) (.slice (some ⟨w28.heap.size, 0, none⟩) 1 1) (.slice (some ⟨b28, 0, none⟩) 1 1)) (ks' := V4 (k) (k) (1) (1)) (ls' := V4 (cs) (ss) ([.int .i64 (cf : Int)]) ([sv s0])) (four rfl rfl rfl rfl) (four rfl rfl rfl rfl) (four rfl rfl rfl rfl))
        clear HE
        obtain ⟨w29, hw29⟩ : ∃ W, W = w28.alloc (.cells #[.int .i64 (cf : Int)] 3) := ⟨_, rfl⟩
        obtain ⟨b29, hb29⟩ : ∃ b, b = w28.heap.size := ⟨_, rfl⟩
        rw [← hw29, ← hb29] at HE2
        rw [← hw29, ← hb29]
        have HE := HE2
        clear HE2 hw29 hb29
        refine hK _ _ (HQ.out _ _ HE.out.box HE.out.low) ?_
        clear hK K
        refine wpAnyL_one (o := ⟨some 23, _, _, _, _, _⟩) 4 (by kernel_rfl) rfl (fun K hK => ?_)
        go_wp2_with ((with_reducible refine at_append ?_); refine wpList_apG (z := .int .i64 0) (size := 1) (bytes := 8) (n := k) (m := 1) (news := [.int .i64 (cf : Int)]) (xs := cs) (ad := ⟨b29, 0, none⟩) Tryd.underlying29 (by kernel_rfl) rfl (by decide) (by decide) rfl (.tmp 19) (.tmp 22) rfl rfl (HE.out.rn.own 0 (by decide)) rfl rfl ((HE.out.rn.own 2 (by decide)).cells (g := b29) rfl) (ones_one rfl) (by omega) HE.out.sz ?_; intro v9 w30 HO9 HG9 HA9 HB9)
        obtain ⟨A30, k30, e9, _, _⟩ := own_form HO9.out
        subst e9
        have HE2 := hideIt ((HE.out.step 0 (by decide) HG9.out HO9.out HA9.out).to (vs' := V4 (.slice A30 (k + 1) k30) (v8) (.slice (some ⟨b29, 0, none⟩) 1 1) (.slice (some ⟨b28, 0, none⟩) 1 1)) (ks' := V4 (k + 1) (k) (1) (1)) (ls' := V4 (cs ++ [.int .i64 (cf : Int)]) (ss) ([.int .i64 (cf : Int)]) ([sv s0])) (four rfl rfl rfl rfl) (four rfl rfl rfl rfl) (four rfl rfl rfl rfl))
        clear HE HO9 HG9 HA9 HB9
        have HE := HE2
        clear HE2
        refine hK _ _ (HQ.out _ _ HE.out.box HE.out.low) ?_
        clear hK K
        refine wpAnyL_one (o := ⟨some 31, _, _, _, _, _⟩) 12 (by kernel_rfl) rfl (fun K hK => ?_)
        go_wp2_with ((with_reducible refine at_append ?_); refine wpList_apG (z := .string ⟨#[]⟩) (size := 1) (bytes := 16) (n := k) (m := 1) (news := [sv s0]) (xs := ss) (ad := ⟨b28, 0, none⟩) Tryd.underlying25 (by kernel_rfl) rfl (by decide) (by decide) rfl (.tmp 24) (.tmp 30) rfl rfl (HE.out.rn.own 1 (by decide)) rfl rfl ((HE.out.rn.own 3 (by decide)).cells (g := b28) rfl) (ones_one rfl) (by omega) HE.out.sz ?_; intro v9 w31 HO9 HG9 HA9 HB9)
        obtain ⟨A31, k31, e9, _, _⟩ := own_form HO9.out
        subst e9
        have HE2 := hideIt ((HE.out.step 1 (by decide) HG9.out HO9.out HA9.out).to (vs' := V4 (.slice A30 (k + 1) k30) (.slice A31 (k + 1) k31) (.slice (some ⟨b29, 0, none⟩) 1 1) (.slice (some ⟨b28, 0, none⟩) 1 1)) (ks' := V4 (k + 1) (k + 1) (1) (1)) (ls' := V4 (cs ++ [.int .i64 (cf : Int)]) (ss ++ [sv s0]) ([.int .i64 (cf : Int)]) ([sv s0])) (four rfl rfl rfl rfl) (four rfl rfl rfl rfl) (four rfl rfl rfl rfl))
        clear HE HO9 HG9 HA9 HB9
        have HE := HE2
        clear HE2
        refine hK _ _ (HQ.out _ _ HE.out.box HE.out.low) ?_
        clear hK K
        refine wpAnyL_one (o := ⟨some 7, _, _, _, _, _⟩) 13 (by kernel_rfl) rfl (fun K hK => ?_)
        go_wp2_with fail
        refine hK _ _ (HQ.out _ _ HE.out.box HE.out.low) ?_
        clear hK K
        refine loads_tail 14 (by kernel_rfl) (by kernel_rfl) (by kernel_rfl) (by kernel_rfl) ?_
        simp only [List.drop_succ_cons, List.drop_zero]
        go_wp2_with fail
        go_roundg (gk - 1)
        case measure => omega
        case rel => exact ⟨k + 1, by omega, by go_num, (HLW.out.trans (HB6.out.mono HLW.out.size)).trans HE.out.low, HN1.out ▸ own_base (HE.out.rn.own 0 (by decide)) (Nat.le_refl _), HN2.out ▸ own_base (HE.out.rn.own 1 (by decide)) (Nat.le_refl _)⟩
    · have hki : ¬ (k : Int) < (q : Int) := by omega
      have hkq : L.take k = L := List.take_of_length_le (by rw [← HQ0.out]; omega)
      have ho7 := HO7.out
      have ho8 := HO8.out
      rw [hkq] at ho7 ho8
      obtain rfl : k = q := by omega
      have HCN := hideIt (HCM.out w5 HLW.out A7 c7 A8 c8 (Sl.of_own ho7) (Sl.of_own ho8))
      clear hkq ho7 ho8
      go_wp2_with (first
        | (go_at_call 43; refine HCN.out.mono ?_; rintro e w6 ⟨rfl, hb6⟩; have HB6 := hideIt hb6; clear hb6 HCN))
      go_ret
      exact ⟨rfl, HLW.out.trans (HB6.out.mono HLW.out.size)⟩
end Go.Proofs.YtpjgmekpnlpjaaaDoor
