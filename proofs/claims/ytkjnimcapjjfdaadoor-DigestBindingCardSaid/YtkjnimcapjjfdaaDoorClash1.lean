/-
  The closures that clash passes to climb: each collects the inputs that it hashes.
-/
import Derived.Test.YtkjnimcapjjfdaaDoorIns
import Derived.Test.YtkjnimcapjjfdaaDoorOnce
import Derived.Test.YtkjnimcapjjfdaaDoorVerify
namespace Go.Proofs.YtkjnimcapjjfdaaDoor
open Go.RowKit
set_option linter.unusedVariables false

/-- What a call leaves as it was: every block but one cell's and one row's. -/
structure Touch (g : Nat) (row : Option Nat) (W w' : World) : Prop where
  os : w'.os = W.os
  tape : w'.tape = W.tape
  output : w'.output = W.output
  size : W.heap.size ≤ w'.heap.size
  block : ∀ k, k < W.heap.size → k ≠ g → some k ≠ row → w'.heap[k]? = W.heap[k]?
theorem Touch.keepT {g b0 B n : Nat} {W w' : World} {v u : Value} {xs : List Value} (h : Touch g v.ownBlock W w') (hF : Blk W g 54 [u]) (hO : W.ownsRow b0 22 1 v n xs) (h1 : B ≤ g) (h2 : B ≤ b0) : KeepT B [22, 54] W w' := by
  have hg := hF.lt
  refine ⟨h.os, h.tape, h.output, h.size, fun k hk => h.block k (by omega) (by omega) (fun e => by have := (hO.lt k e.symm).1; omega), fun k cs t f hk ht => ?_⟩
  refine h.block k (Array.getElem?_eq_some_iff.1 hk).1 (fun e => ?_) (fun e => ?_)
  · subst e
    unfold Blk at hF
    rw [hk] at hF
    injection hF with hF
    injection hF with _ hF
    exact ht (by rw [hF]; simp)
  · rcases hO.2 with ⟨rfl, _⟩ | ⟨j, cap, cur, rfl, _, hj, _⟩
    · simp [Value.ownBlock] at e
    · simp only [Value.ownBlock, Option.some.injEq] at e
      subst e
      rw [hk] at hj
      injection hj with hj
      injection hj with _ hj
      exact ht (by rw [hj]; simp)
theorem Touch.blk {g k : Nat} {row : Option Nat} {t : TypeId} {cs : List Value} {W w' : World} (h : Touch g row W w') (hb : Blk W k t cs) (h1 : k ≠ g) (h2 : some k ≠ row) : Blk w' k t cs := (h.block k hb.lt h1 h2).trans hb
theorem Touch.own {g : Nat} {base size n b0 m : Nat} {e : TypeId} {v r u : Value} {xs ys : List Value} {W w' : World} (h : Touch g r.ownBlock W w') (ho : W.ownsRow base e size v n xs) (hF : Blk W g 54 [u]) (hO : W.ownsRow b0 22 1 r m ys) (h1 : 54 ≠ e) (h2 : e ≠ 22) : w'.ownsRow base e size v n xs := by
  refine ⟨ho.1, ?_⟩
  have hne := own_ne ho hF h1
  rcases ho.2 with h0 | ⟨k, cap, cur, rfl, hb, hh, r⟩
  · exact .inl h0
  · refine .inr ⟨k, cap, cur, rfl, hb, ?_, r⟩
    have hB : Blk W k e cur.toList := by unfold Blk; rw [hh]
    exact (h.block k hB.lt (fun hc => hne (by rw [hc]; rfl)) (own_ne hO hB h2)).trans hh
theorem blk_app1 {w w' : World} {base : Nat} {e : TypeId} {size n g : Nat} {v : Value} {xs cs : List Value} {t : TypeId} (ho : w.ownsRow base e size v n xs) (hg : w.grownBy w' v.ownBlock) (hk : Blk w g t cs) (ht : t ≠ e) : Blk w' g t cs := hk.grown hg (own_ne ho hk ht)

set_option maxHeartbeats 800000 in
set_option maxRecDepth 100000 in
theorem clash1_any (gF gH b0 n bx B : Nat) (vr v : Value) (xs : List Value) (x : List UInt8) (W : World) (hx : x.length ≤ 100) (hn : n ≤ 100) (hHb : Blk W gH 57 [.func (.func 35) #[] #[]]) (hF : Blk W gF 54 [vr])
    (hO : W.ownsRow b0 22 1 vr n xs) (hb0 : b0 ≤ W.heap.size) (ho : W.ownsRow bx 5 1 v x.length (x.map bv)) (hT : Tab W 1) (hB1 : 1 < B) (hBF : B ≤ gF) (hBb : B ≤ b0) :
    Calls Tryd.prog 59 #[v, .pointer (some ⟨gF, 0, none⟩), .pointer (some ⟨gH, 0, none⟩)] W fun e w' => e = .returned (dv (cutD x)) ∧ (∃ vr', Blk w' gF 54 [vr'] ∧ w'.ownsRow b0 22 1 vr' (n + 1) (xs ++ [v])) ∧ Touch gF vr.ownBlock W w' := by
  obtain ⟨i0, hi0, hz0, hz1, hz2⟩ := info_parts Tryd.infoBytes
  obtain ⟨Ax, cx, rfl, _, _⟩ := own_form ho
  obtain ⟨Ar, cr, rfl, hcr1, hcr2⟩ := own_form hO
  have hFH : gH ≠ gF := fun e => by
    subst e
    unfold Blk at hF hHb
    rw [hHb] at hF
    injection hF with hF
    injection hF with _ hF
    exact absurd hF (by decide)
  obtain ⟨W0, hW0⟩ : ∃ U, U = W.alloc (.cells (zeroD.map bv).toArray 30) := ⟨_, rfl⟩
  have hF0 : Blk W0 gF 54 [.slice Ar n cr] := by rw [hW0]; exact hF.alloc _
  have hH0 : Blk W0 gH 57 [.func (.func 35) #[] #[]] := by rw [hW0]; exact hHb.alloc _
  have hO0 : W0.ownsRow b0 22 1 (.slice Ar n cr) n xs := by rw [hW0]; exact hO.alloc _
  have ho0 : W0.ownsRow bx 5 1 (.slice Ax x.length cx) x.length (x.map bv) := by rw [hW0]; exact ho.alloc _
  have hR0 : Blk W0 W.heap.size 30 (zeroD.map bv) := by rw [hW0]; exact Blk.new W _ _
  have hb : Below W.heap.size W W0 := by rw [hW0]; exact below_new W _
  have hcv : W0.cell? ⟨gF, 0, none⟩ = some (.slice Ar n cr) := by rw [hF0.cell]; rfl
  have HT := hideIt hT
  have HB := hideIt hb
  have HF0 := hideIt hF0
  have HH0 := hideIt hH0
  have HO0 := hideIt hO0
  have HV0 := hideIt ho0
  have HR0 := hideIt hR0
  have HFL := hideIt hF.lt
  have hsz := hb.size
  have HC := hideIt (fun (U : World) (h : U.ownsRow bx 5 1 (.slice Ax x.length cx) x.length (x.map bv)) (h2 : Tab U 1) => cut_own h (by omega) h2)
  obtain ⟨r, hr⟩ : ∃ r, r = cutD x := ⟨_, rfl⟩
  have HRL : Hid (r.length = 16) := by rw [hr]; exact cutD_len x
  rw [← hr] at HC ⊢
  have hUs : W0.heap.size = W.heap.size + 1 := by rw [hW0]; simp
  have hsl := sl_one W0 22 (.slice Ax x.length cx)
  rw [hUs] at hsl
  have HSL := hideIt hsl
  rw [zero_cells] at hW0
  clear hsl hUs hF hHb hO ho hT hF0 hH0 hO0 ho0 hR0 hb hr
  subst hW0
  go_enter Tryd.func59, Tryd.ntmps59
  go_wp2_with (first
    | ((with_reducible refine at_append ?_); refine wpList_app2 rfl (.tmp 5) (.tmp 7) 54 rfl b0 22 i0 (.slice none 0 0) 1 24 Tryd.underlying54 hi0 hz0 hz1 hz2 rfl (by decide) (.slice Ar n cr) n xs rfl (HO0.out.alloc _) _ _ 1 1 [.slice Ax x.length cx] rfl HSL.out (ones_one rfl) (by unfold maxLen; omega) (by omega) (by simp; omega) ?_; intro v3 w3 ho3 hg3; obtain ⟨A3, c3, rfl, _, _⟩ := own_form ho3; have HO3 := hideIt ho3; have HG3 := hideIt hg3; have HF3 := hideIt (blk_app1 (HO0.out.alloc (.cells #[.slice Ax x.length cx] 22)) hg3 (HF0.out.alloc _) (by decide)); have HH3 := hideIt (blk_app1 (HO0.out.alloc (.cells #[.slice Ax x.length cx] 22)) hg3 (HH0.out.alloc _) (by decide)); have HR3 := hideIt (blk_app1 (HO0.out.alloc (.cells #[.slice Ax x.length cx] 22)) hg3 (HR0.out.alloc _) (by decide)); have HV3 := hideIt (own_grown (HV0.out.alloc _) (HO0.out.alloc (.cells #[.slice Ax x.length cx] 22)) (by decide) hg3); have hcv3 : w3.cell? ⟨gF, 0, none⟩ = some (.slice Ar n cr) := (by rw [HF3.out.cell]; rfl); have hfr3 : w3.frozen? ⟨gF, 0, none⟩ = false := HF3.out.free 0; have hch : (w3.setCell ⟨gF, 0, none⟩ (.slice A3 (n + 1) c3)).cell? ⟨gH, 0, none⟩ = some (.func (.func 35) #[] #[]) := (by rw [(HH3.out.store_other (k := gF) (i := 0) (u := .slice A3 (n + 1) c3) hFH).cell]; rfl); clear ho3 hg3))
  obtain ⟨U, hU⟩ : ∃ U, U = w3.setCell ⟨gF, 0, none⟩ (.slice A3 (n + 1) c3) := ⟨_, rfl⟩
  have HT4 : Turned gF w3 U := by rw [hU]; exact ⟨rfl, rfl, rfl, by simp, fun k hk => heap_setCell_other w3 ⟨gF, 0, none⟩ k _ hk⟩
  have hF4 : Blk U gF 54 [.slice A3 (n + 1) c3] := by rw [hU]; exact HF3.out.store 0 _
  have hb1 := HB.out.alloc HB.out.size (.cells #[.slice Ax x.length cx] 22)
  have hB3 := below_app (hb1.mono (show B ≤ W.heap.size by omega)) (HO0.out.alloc (.cells #[.slice Ax x.length cx] 22)) HG3.out hBb (by simp; omega)
  have hB4 := HT4.below hB3 hBF
  have hV4 := own_turned HV3.out HF3.out (by decide) HT4
  have hO4 := own_turned HO3.out HF3.out (by decide) HT4
  have hR4 := HT4.blk HR3.out (by have := HFL.out; omega)
  have hT4 := HT.out.below hB1 hB4
  rw [← hU]
  have hs4 : W.heap.size ≤ U.heap.size := by rw [HT4.size]; have := HG3.out.size; simp at this; omega
  have HTU := hideIt HT4
  have HFU := hideIt hF4
  have HOU := hideIt hO4
  have HRU := hideIt hR4
  have HB1' := hideIt hb1
  refine (HC.out U hV4 hT4).mono ?_
  rintro e w5 ⟨rfl, hb5⟩
  have HR5 := hideIt (hR4.kept hb5 hR4.lt)
  have HB5 := hideIt hb5
  clear hcv hcv3 hfr3 hch hF4 hb1 hB3 hB4 hV4 hO4 hR4 hT4 hb5 hU HT4
  go_wp2_with ((with_reducible refine at_store ?_); refine wpList_put rfl 30 (.tmp 4) (.tmp 11) rfl W.heap.size (r.map bv) _ _ rfl rfl HR5.out (by rw [List.length_map, HRL.out]; kernel_rfl) (by rw [List.length_map, List.length_map, HRL.out]; rfl) (bv_one _) ?_; intro w6 ht6 hb6; have HT6 := hideIt ht6; have HB6 := hideIt hb6; clear ht6 hb6)
  have hlF := HFL.out
  have hF6 := HT6.out.blk (HFU.out.kept HB5.out HFU.out.lt) (by omega)
  have hO6 := own_turned (own_kept HOU.out HB5.out) HR5.out (by decide) HT6.out
  refine bodyPost_ret (ret_blk rfl HB6.out (.array 16 5) rfl (by kernel_rfl) rfl (isize16 _ HRL.out)) rfl ⟨rfl, ⟨_, hF6, hO6⟩, ?_⟩
  have hl5 := HB5.out.size
  have hl3 := HG3.out.size
  exact ⟨HT6.out.os.trans (HB5.out.os.trans (HTU.out.os.trans (HG3.out.os.trans HB1'.out.os))), HT6.out.tape.trans (HB5.out.tape.trans (HTU.out.tape.trans (HG3.out.tape.trans HB1'.out.tape))), HT6.out.output.trans (HB5.out.output.trans (HTU.out.output.trans (HG3.out.output.trans HB1'.out.output))),
    by rw [HT6.out.size]; omega, fun k hk h1 h2 => (HT6.out.block k (by omega)).trans ((HB5.out.block k (by omega)).trans ((HTU.out.block k h1).trans ((HG3.out.block k (by simp; omega) h2).trans (HB1'.out.block k hk))))⟩

set_option maxHeartbeats 800000 in
set_option maxRecDepth 100000 in
theorem clash2_any (gF gH b0 n bx B : Nat) (vr v : Value) (xs : List Value) (x : List UInt8) (W : World) (hx : x.length ≤ 100) (hn : n ≤ 100) (hHb : Blk W gH 57 [.func (.func 35) #[] #[]]) (hF : Blk W gF 54 [vr])
    (hO : W.ownsRow b0 22 1 vr n xs) (hb0 : b0 ≤ W.heap.size) (ho : W.ownsRow bx 5 1 v x.length (x.map bv)) (hT : Tab W 1) (hB1 : 1 < B) (hBF : B ≤ gF) (hBb : B ≤ b0) :
    Calls Tryd.prog 60 #[v, .pointer (some ⟨gF, 0, none⟩), .pointer (some ⟨gH, 0, none⟩)] W fun e w' => e = .returned (dv (cutD x)) ∧ (∃ vr', Blk w' gF 54 [vr'] ∧ w'.ownsRow b0 22 1 vr' (n + 1) (xs ++ [v])) ∧ Touch gF vr.ownBlock W w' := by
  obtain ⟨i0, hi0, hz0, hz1, hz2⟩ := info_parts Tryd.infoBytes
  obtain ⟨Ax, cx, rfl, _, _⟩ := own_form ho
  obtain ⟨Ar, cr, rfl, hcr1, hcr2⟩ := own_form hO
  have hFH : gH ≠ gF := fun e => by
    subst e
    unfold Blk at hF hHb
    rw [hHb] at hF
    injection hF with hF
    injection hF with _ hF
    exact absurd hF (by decide)
  obtain ⟨W0, hW0⟩ : ∃ U, U = W.alloc (.cells (zeroD.map bv).toArray 30) := ⟨_, rfl⟩
  have hF0 : Blk W0 gF 54 [.slice Ar n cr] := by rw [hW0]; exact hF.alloc _
  have hH0 : Blk W0 gH 57 [.func (.func 35) #[] #[]] := by rw [hW0]; exact hHb.alloc _
  have hO0 : W0.ownsRow b0 22 1 (.slice Ar n cr) n xs := by rw [hW0]; exact hO.alloc _
  have ho0 : W0.ownsRow bx 5 1 (.slice Ax x.length cx) x.length (x.map bv) := by rw [hW0]; exact ho.alloc _
  have hR0 : Blk W0 W.heap.size 30 (zeroD.map bv) := by rw [hW0]; exact Blk.new W _ _
  have hb : Below W.heap.size W W0 := by rw [hW0]; exact below_new W _
  have hcv : W0.cell? ⟨gF, 0, none⟩ = some (.slice Ar n cr) := by rw [hF0.cell]; rfl
  have HT := hideIt hT
  have HB := hideIt hb
  have HF0 := hideIt hF0
  have HH0 := hideIt hH0
  have HO0 := hideIt hO0
  have HV0 := hideIt ho0
  have HR0 := hideIt hR0
  have HFL := hideIt hF.lt
  have hsz := hb.size
  have HC := hideIt (fun (U : World) (h : U.ownsRow bx 5 1 (.slice Ax x.length cx) x.length (x.map bv)) (h2 : Tab U 1) => cut_own h (by omega) h2)
  obtain ⟨r, hr⟩ : ∃ r, r = cutD x := ⟨_, rfl⟩
  have HRL : Hid (r.length = 16) := by rw [hr]; exact cutD_len x
  rw [← hr] at HC ⊢
  have hUs : W0.heap.size = W.heap.size + 1 := by rw [hW0]; simp
  have hsl := sl_one W0 22 (.slice Ax x.length cx)
  rw [hUs] at hsl
  have HSL := hideIt hsl
  rw [zero_cells] at hW0
  clear hsl hUs hF hHb hO ho hT hF0 hH0 hO0 ho0 hR0 hb hr
  subst hW0
  go_enter Tryd.func60, Tryd.ntmps60
  go_wp2_with (first
    | ((with_reducible refine at_append ?_); refine wpList_app2 rfl (.tmp 5) (.tmp 7) 54 rfl b0 22 i0 (.slice none 0 0) 1 24 Tryd.underlying54 hi0 hz0 hz1 hz2 rfl (by decide) (.slice Ar n cr) n xs rfl (HO0.out.alloc _) _ _ 1 1 [.slice Ax x.length cx] rfl HSL.out (ones_one rfl) (by unfold maxLen; omega) (by omega) (by simp; omega) ?_; intro v3 w3 ho3 hg3; obtain ⟨A3, c3, rfl, _, _⟩ := own_form ho3; have HO3 := hideIt ho3; have HG3 := hideIt hg3; have HF3 := hideIt (blk_app1 (HO0.out.alloc (.cells #[.slice Ax x.length cx] 22)) hg3 (HF0.out.alloc _) (by decide)); have HH3 := hideIt (blk_app1 (HO0.out.alloc (.cells #[.slice Ax x.length cx] 22)) hg3 (HH0.out.alloc _) (by decide)); have HR3 := hideIt (blk_app1 (HO0.out.alloc (.cells #[.slice Ax x.length cx] 22)) hg3 (HR0.out.alloc _) (by decide)); have HV3 := hideIt (own_grown (HV0.out.alloc _) (HO0.out.alloc (.cells #[.slice Ax x.length cx] 22)) (by decide) hg3); have hcv3 : w3.cell? ⟨gF, 0, none⟩ = some (.slice Ar n cr) := (by rw [HF3.out.cell]; rfl); have hfr3 : w3.frozen? ⟨gF, 0, none⟩ = false := HF3.out.free 0; have hch : (w3.setCell ⟨gF, 0, none⟩ (.slice A3 (n + 1) c3)).cell? ⟨gH, 0, none⟩ = some (.func (.func 35) #[] #[]) := (by rw [(HH3.out.store_other (k := gF) (i := 0) (u := .slice A3 (n + 1) c3) hFH).cell]; rfl); clear ho3 hg3))
  obtain ⟨U, hU⟩ : ∃ U, U = w3.setCell ⟨gF, 0, none⟩ (.slice A3 (n + 1) c3) := ⟨_, rfl⟩
  have HT4 : Turned gF w3 U := by rw [hU]; exact ⟨rfl, rfl, rfl, by simp, fun k hk => heap_setCell_other w3 ⟨gF, 0, none⟩ k _ hk⟩
  have hF4 : Blk U gF 54 [.slice A3 (n + 1) c3] := by rw [hU]; exact HF3.out.store 0 _
  have hb1 := HB.out.alloc HB.out.size (.cells #[.slice Ax x.length cx] 22)
  have hB3 := below_app (hb1.mono (show B ≤ W.heap.size by omega)) (HO0.out.alloc (.cells #[.slice Ax x.length cx] 22)) HG3.out hBb (by simp; omega)
  have hB4 := HT4.below hB3 hBF
  have hV4 := own_turned HV3.out HF3.out (by decide) HT4
  have hO4 := own_turned HO3.out HF3.out (by decide) HT4
  have hR4 := HT4.blk HR3.out (by have := HFL.out; omega)
  have hT4 := HT.out.below hB1 hB4
  rw [← hU]
  have hs4 : W.heap.size ≤ U.heap.size := by rw [HT4.size]; have := HG3.out.size; simp at this; omega
  have HTU := hideIt HT4
  have HFU := hideIt hF4
  have HOU := hideIt hO4
  have HRU := hideIt hR4
  have HB1' := hideIt hb1
  refine (HC.out U hV4 hT4).mono ?_
  rintro e w5 ⟨rfl, hb5⟩
  have HR5 := hideIt (hR4.kept hb5 hR4.lt)
  have HB5 := hideIt hb5
  clear hcv hcv3 hfr3 hch hF4 hb1 hB3 hB4 hV4 hO4 hR4 hT4 hb5 hU HT4
  go_wp2_with ((with_reducible refine at_store ?_); refine wpList_put rfl 30 (.tmp 4) (.tmp 11) rfl W.heap.size (r.map bv) _ _ rfl rfl HR5.out (by rw [List.length_map, HRL.out]; kernel_rfl) (by rw [List.length_map, List.length_map, HRL.out]; rfl) (bv_one _) ?_; intro w6 ht6 hb6; have HT6 := hideIt ht6; have HB6 := hideIt hb6; clear ht6 hb6)
  have hlF := HFL.out
  have hF6 := HT6.out.blk (HFU.out.kept HB5.out HFU.out.lt) (by omega)
  have hO6 := own_turned (own_kept HOU.out HB5.out) HR5.out (by decide) HT6.out
  refine bodyPost_ret (ret_blk rfl HB6.out (.array 16 5) rfl (by kernel_rfl) rfl (isize16 _ HRL.out)) rfl ⟨rfl, ⟨_, hF6, hO6⟩, ?_⟩
  have hl5 := HB5.out.size
  have hl3 := HG3.out.size
  exact ⟨HT6.out.os.trans (HB5.out.os.trans (HTU.out.os.trans (HG3.out.os.trans HB1'.out.os))), HT6.out.tape.trans (HB5.out.tape.trans (HTU.out.tape.trans (HG3.out.tape.trans HB1'.out.tape))), HT6.out.output.trans (HB5.out.output.trans (HTU.out.output.trans (HG3.out.output.trans HB1'.out.output))),
    by rw [HT6.out.size]; omega, fun k hk h1 h2 => (HT6.out.block k (by omega)).trans ((HB5.out.block k (by omega)).trans ((HTU.out.block k h1).trans ((HG3.out.block k (by simp; omega) h2).trans (HB1'.out.block k hk))))⟩

end Go.Proofs.YtkjnimcapjjfdaaDoor
