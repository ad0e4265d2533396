/-
  Twin, and the iterators over the twins: fingerprint.Twin, Twins, and the law's own twins, walked.
-/
import Derived.Test.YtbejmcndflmgaaaDoorTwin
import Derived.Laws.EntriesVeiled
namespace Go.Proofs.YtbejmcndflmgaaaDoor
open Go.RowKit Go.Shelf
set_option linter.unusedVariables false
attribute [local go_sem] Oper.semAt_some

theorem spc_some {n k : Int} (h : 0 ≤ k ∧ k < spc n) : 5 ≤ n ∧ n ≤ 2000 ∧ k + 32 < 8 * n := by
  unfold spc at h
  split at h <;> omega
theorem spc_nonneg (n : Int) : 0 ≤ spc n := by unfold spc; split <;> omega
theorem spc_le (n : Int) : spc n ≤ 15968 := by unfold spc; split <;> omega
/-- The k-th twin, or the empty string. -/
def twS (l : List UInt8) (k : Int) : List UInt8 := if 0 ≤ k ∧ k < spc l.length then twin l k.toNat else []
def twE (l : List UInt8) (k : Int) : Int := if 0 ≤ k ∧ k < spc l.length then 0 else 1

set_option maxHeartbeats 400000 in
theorem tw_any (l : List UInt8) (k : Int) (w : World) (hT : Tabs w) :
    Calls Tryd.prog 9 #[.string (str l), .int .i64 k] w fun e w' => e = .returned (.tuple #[.string (str (twS l k)), .int .i64 (twE l k)]) ∧ Below w.heap.size w w' := by
  by_cases h0 : k < 0
  · have hS : twS l k = [] := by unfold twS; rw [if_neg (by omega)]
    have hE : twE l k = 1 := by unfold twE; rw [if_neg (by omega)]
    rw [hS, hE]
    clear hS hE hT
    go_enter Tryd.func9, Tryd.ntmps9
    go_wp2_with fail
    go_ret2
    exact ⟨rfl, Below.refl _ _⟩
  by_cases h1 : k < spc l.length
  · obtain ⟨h5, h6, h7⟩ := spc_some ⟨by omega, h1⟩
    have hS : twS l k = twin l k.toNat := by unfold twS; rw [if_pos (by omega)]
    have hE : twE l k = 0 := by unfold twE; rw [if_pos (by omega)]
    rw [hS, hE]
    obtain ⟨j, rfl⟩ : ∃ j : Nat, k = (j : Int) := ⟨k.toNat, by omega⟩
    rw [show ((j : Int)).toNat = j by omega]
    have HTW := hideIt (twin_any l j w (by omega) (by omega) hT)
    have HZ := hideIt (str_size l)
    clear hS hE hT h5 h6 h7
    have HSP := hideIt (fun W => space_any (l.length : Int) W)
    generalize spc (l.length : Int) = z at *
    generalize str (twin l j) = t at *
    generalize str l = s at *
    go_enter Tryd.func9, Tryd.ntmps9
    go_wp2_with (first
      | (go_at_call 10; rw [HZ.out]; refine (HSP.out _).mono ?_; rintro e w' ⟨rfl, rfl⟩)
      | (go_at_call 15; refine HTW.out.mono ?_; rintro e w' ⟨rfl, hb⟩; have HB := hideIt hb; clear hb))
    go_ret2
    exact ⟨rfl, HB.out⟩
  · have hS : twS l k = [] := by unfold twS; rw [if_neg (by omega)]
    have hE : twE l k = 1 := by unfold twE; rw [if_neg (by omega)]
    rw [hS, hE]
    have HZ := hideIt (str_size l)
    clear hS hE hT
    have HSP := hideIt (fun W => space_any (l.length : Int) W)
    generalize spc (l.length : Int) = z at *
    generalize str l = s at *
    go_enter Tryd.func9, Tryd.ntmps9
    go_wp2_with (go_at_call 10; rw [HZ.out]; refine (HSP.out _).mono ?_; rintro e w' ⟨rfl, rfl⟩)
    go_ret2
    exact ⟨rfl, Below.refl _ _⟩

/-- All twins, in the order of their numbers. -/
def twinsL (l : List UInt8) : List (List UInt8) := (List.range (spc l.length).toNat).map (twin l)
theorem twinsL_len (l : List UInt8) : (twinsL l).length = (spc l.length).toNat := by unfold twinsL; simp
theorem twinsL_at (l : List UInt8) (j : Nat) (h : j < (twinsL l).length) : (twinsL l)[j] = twin l j := by
  have h2 : (twinsL l)[j]? = some (twin l j) := by
    rw [twinsL_len] at h
    unfold twinsL
    rw [List.getElem?_map, List.getElem?_range h]
    rfl
  rw [List.getElem?_eq_getElem h] at h2
  exact Option.some.inj h2
theorem Tabs.of_blocks {w w' : World} (h : Tabs w) (h0 : w'.heap[1]? = w.heap[1]?) (h1 : w'.heap[0]? = w.heap[0]?) : Tabs w' := by
  have a0 := h.lo
  have a1 := h.hi
  rw [Array.getElem?_eq_getElem a0] at h0
  rw [Array.getElem?_eq_getElem a1] at h1
  refine ⟨(Array.getElem?_eq_some_iff.1 h0).1, (Array.getElem?_eq_some_iff.1 h1).1, fun j hj => ?_, fun j hj => ?_⟩
  · rw [World.cell?_of_block (w := w) (a := ⟨1, j, none⟩) (by rw [Array.getElem?_eq_getElem a0]; exact h0)]; exact h.rem j hj
  · rw [World.cell?_of_block (w := w) (a := ⟨0, j, none⟩) (by rw [Array.getElem?_eq_getElem a1]; exact h1)]; exact h.ex j hj
theorem Tabs.keeps {T : Nat → Prop} {w w' : World} (h : Tabs w) (hk : Keeps T w w') (h0 : ¬ T 1) (h1 : ¬ T 0) : Tabs w' :=
  h.of_blocks (hk.block _ h.lo h0) (hk.block _ h.hi h1)
theorem lt_of_block {w w' : World} {k : Nat} (h : k < w.heap.size) (e : w'.heap[k]? = w.heap[k]?) : k < w'.heap.size := by
  rw [Array.getElem?_eq_getElem h] at e
  exact (Array.getElem?_eq_some_iff.1 e).1

/-- What an iterator over the twins reads: the box of the string, and the tables. -/
def capT (B b : Nat) : Prop := b = B ∨ b = 1 ∨ b = 0

set_option maxHeartbeats 400000 in
set_option maxRecDepth 100000 in
theorem twins_iter (l : List UInt8) (B : Nat) (w0 : World) (hT : Tabs w0) (hB : B < w0.heap.size) (hc : w0.cell? ⟨B, 0, none⟩ = some (.string (str l))) :
    Iter Tryd.prog 22 #[.pointer (some ⟨B, 0, none⟩)] (fun x : List UInt8 => #[.string (str x)]) (twinsL l) (capT B) w0 := by
  intro y T J Jx W hC hT1 hJ hJx hY h0
  have hn0 : ¬ T 1 := fun h => (hT1 _ h).2 (Or.inr (Or.inl rfl))
  have hn1 : ¬ T 0 := fun h => (hT1 _ h).2 (Or.inr (Or.inr rfl))
  have hTW : Tabs W := hT.of_blocks (hC _ (Or.inr (Or.inl rfl))).2 (hC _ (Or.inr (Or.inr rfl))).2
  have HT := hideIt (fun (V : World) (hV : Keeps T W V) => hTW.keeps hV hn0 hn1)
  have hcB : ∀ V : World, Keeps T W V → V.cell? ⟨B, 0, none⟩ = some (.string (str l)) := fun V hV => by
    have h1 := hC B (Or.inl rfl)
    rw [hV.cell (p := ⟨B, 0, none⟩) (lt_of_block h1.1 h1.2) (fun h => (hT1 B h).2 (Or.inl rfl)), World.cell?_of_block (w := w0) (a := ⟨B, 0, none⟩) h1.2]
    exact hc
  have hcW := hcB W (Keeps.refl T W)
  have HB := hideIt hcB
  have HY := hideIt hY
  have H0 := hideIt h0
  have HZ := hideIt (str_size l)
  have HJ := hideIt hJ
  have HSP := hideIt (fun W => space_any (l.length : Int) W)
  have HLN := hideIt (twinsL_len l)
  have hsn : ∀ j : Nat, (j : Int) < spc l.length → (twinsL l).take j ++ [twin l j] <+: twinsL l ∧ (twinsL l).take (j + 1) = (twinsL l).take j ++ [twin l j] := fun j hj => by
    have hlt : j < (twinsL l).length := by rw [twinsL_len]; omega
    rw [take_snoc _ _ hlt, twinsL_at l j hlt]
    exact ⟨by have := take_pre (twinsL l) j hlt; rwa [twinsL_at l j hlt] at this, rfl⟩
  have HSN := hideIt hsn
  have HTW := hideIt (fun (j : Nat) (V : World) (hj : (j : Int) < spc l.length) (hV : Keeps T W V) => twin_any l j V (by have := spc_some (n := (l.length : Int)) (k := (j : Int)) ⟨by omega, hj⟩; omega) (by have := spc_some (n := (l.length : Int)) (k := (j : Int)) ⟨by omega, hj⟩; omega) (hTW.keeps hV hn0 hn1))
  obtain ⟨z, hz⟩ : ∃ z : Nat, spc (l.length : Int) = (z : Int) := ⟨(spc l.length).toNat, by have := spc_nonneg l.length; omega⟩
  have hz2 : z ≤ 15968 := by have := spc_le l.length; omega
  rw [hz] at HSP HLN HSN HTW
  have HZ2 := hideIt hz2
  clear hC hT1 hJ hJx hY h0 hcB hT hc hTW hn0 hn1 hsn hz hz2
  generalize str l = s at *
  refine callsIn_of_wp Tryd.func22 rfl trivial ?_
  simp only [Tryd.ntmps22, List.size_toArray, List.length_cons, List.length_nil, Nat.reduceAdd, Nat.reduceSub, Array.replicate_succ, Array.replicate_zero, List.push_toArray, List.append_toArray, List.nil_append, List.cons_append]
  refine (wpIn_wide (n := 0)).2 ?_
  go_wp2_with (go_at_call 10; rw [HZ.out]; refine (HSP.out _).mono ?_; rintro e w' ⟨rfl, rfl⟩)
  refine (wpIn_wide (n := 0)).1 ?_
  gi_loopw [7] (fun i wr => ∃ j : Nat, j ≤ z ∧ i = .int .i64 j ∧ J ((twinsL l).take j) wr ∧ Keeps T W wr) (fun i _ => z - (intOf i).toNat)
  case atStart => exact ⟨0, by omega, rfl, H0.out, Keeps.refl T W⟩
  case round =>
    obtain ⟨j, hj, rfl, hJs, hKs⟩ := hrel
    clear hcW
    by_cases hlt : (j : Int) < (z : Int)
    · obtain ⟨hpre, hsn⟩ := HSN.out j hlt
      have HPR := hideIt hpre
      have HS1 := hideIt hsn
      have hcell := HB.out _ hKs
      have HKS := hideIt hKs
      have HJS := hideIt hJs
      have HTJ := hideIt (HTW.out j wr hlt hKs)
      have hinc := inc_c 3 j (by have := HZ2.out; omega)
      clear hpre hsn hKs hJs
      generalize twin l j = t at *
      gi_wp2_with fail
      refine ⟨trivial, rfl, ?_⟩
      refine (callsIn_wide.2 HTJ.out).mono ?_
      rintro e w2 ⟨rfl, hb2⟩
      obtain ⟨fn, tmps, assign, body, hy, hR⟩ := HY.out _ _ w2 HPR.out (HKS.out.later (hb2.mono HKS.out.size)) (HJ.out _ _ _ HJS.out (hb2.mono HKS.out.size))
      have HK2 := hideIt (HKS.out.later (hb2.mono HKS.out.size))
      clear hb2
      generalize str t = st at *
      gi_wp2_with fail
      refine ⟨rfl, ?_⟩
      refine hR.mono ?_
      rintro e W3 (⟨rfl, hK3, hJ3⟩ | ⟨rfl, hK3, hJx3⟩)
      · gi_wp2_with fail
        go_roundw
        case rel => exact ⟨j + 1, by omega, by go_num, by rw [HS1.out]; exact hJ3, HK2.out.trans hK3⟩
        case measure => simp [intOf]; omega
      · gi_wp2_with fail
        refine bodyPost_ret (results_none rfl _ _ _) rfl ?_
        exact ⟨⟨_, rfl⟩, HK2.out.trans hK3, .inr ⟨_, by rw [← HS1.out]; exact List.take_prefix _ _, hJx3⟩⟩
    · obtain rfl : j = z := by omega
      rw [List.take_of_length_le (by rw [HLN.out]; omega)] at hJs
      have HJS := hideIt hJs
      have HKS := hideIt hKs
      clear hJs hKs
      gi_wp2_with fail
      go_end0
      exact ⟨⟨_, rfl⟩, HKS.out, .inl HJS.out⟩

theorem ftwins_any (s : ByteArray) (w : World) :
    Calls Tryd.prog 17 #[.string s] w fun e w' => e = .returned (.func (.func 22) #[] #[.pointer (some ⟨w.heap.size, 0, none⟩)]) ∧ w' = w.alloc (.cells #[.string s] 9) := by
  go_enter Tryd.func17, Tryd.ntmps17
  go_wp2_with fail
  go_ret
  exact ⟨rfl, rfl⟩
theorem twins_any (s : ByteArray) (w : World) :
    Calls Tryd.prog 13 #[.string s] w fun e w' => e = .returned (.func (.func 18) #[] #[.pointer (some ⟨w.heap.size + 1, 0, none⟩)]) ∧
      w' = (w.alloc (.cells #[.string s] 9)).alloc (.cells #[.func (.func 22) #[] #[.pointer (some ⟨w.heap.size, 0, none⟩)]] 34) := by
  go_enter Tryd.func13, Tryd.ntmps13
  go_wp2_with (go_at_call 17; refine (ftwins_any _ _).mono ?_; rintro e w' ⟨rfl, rfl⟩)
  go_ret
  exact ⟨by simp, rfl⟩

end Go.Proofs.YtbejmcndflmgaaaDoor
