/-
  What a call leaves as it was, cell by cell; addMultiple, walked.
-/
import Derived.Test.YtodmcojcmihooaaDoorMatZ
namespace Go.Proofs.YtodmcojcmihooaaDoor
open Go.RowKit
set_option linter.unusedVariables false

/-- Cells that S does not name are as they were; no block has turned its kind. -/
structure Sel (S : Nat → Nat → Prop) (w w' : World) : Prop where
  os : w'.os = w.os
  tape : w'.tape = w.tape
  output : w'.output = w.output
  size : w.heap.size ≤ w'.heap.size
  cell : ∀ k o, k < w.heap.size → ¬ S k o → w'.cell? ⟨k, o, none⟩ = w.cell? ⟨k, o, none⟩
  frozen : ∀ k o, k < w.heap.size → w'.frozen? ⟨k, o, none⟩ = w.frozen? ⟨k, o, none⟩
  block : ∀ k, k < w.heap.size → (∀ o, ¬ S k o) → w'.heap[k]? = w.heap[k]?
  kind : ∀ k t cs, Blk w k t cs → ∃ cs', cs'.length = cs.length ∧ Blk w' k t cs'
section
variable {S S' : Nat → Nat → Prop} {a b c : World}
theorem Sel.refl (S : Nat → Nat → Prop) (w : World) : Sel S w w := ⟨rfl, rfl, rfl, Nat.le_refl _, fun _ _ _ _ => rfl, fun _ _ _ => rfl, fun _ _ _ => rfl, fun _ _ cs h => ⟨cs, rfl, h⟩⟩
theorem Sel.trans (h : Sel S a b) (k : Sel S b c) : Sel S a c :=
  ⟨k.os.trans h.os, k.tape.trans h.tape, k.output.trans h.output, Nat.le_trans h.size k.size,
    fun i o hi hs => (k.cell i o (Nat.lt_of_lt_of_le hi h.size) hs).trans (h.cell i o hi hs), fun i o hi => (k.frozen i o (Nat.lt_of_lt_of_le hi h.size)).trans (h.frozen i o hi),
    fun i hi hs => (k.block i (Nat.lt_of_lt_of_le hi h.size) hs).trans (h.block i hi hs),
    fun i t cs hb => by
      obtain ⟨c1, h1, h2⟩ := h.kind i t cs hb
      obtain ⟨c2, h3, h4⟩ := k.kind i t c1 h2
      exact ⟨c2, h3.trans h1, h4⟩⟩
theorem Sel.wide (h : Sel S a b) (hs : ∀ k o, S k o → S' k o) : Sel S' a b :=
  ⟨h.os, h.tape, h.output, h.size, fun k o hk hn => h.cell k o hk (fun q => hn (hs k o q)), h.frozen, fun k hk hn => h.block k hk (fun o q => hn o (hs k o q)), h.kind⟩
/-- The same, where S names more blocks that are new. -/
theorem Sel.old (h : Sel S a b) (hs : ∀ k o, k < a.heap.size → S k o → S' k o) : Sel S' a b :=
  ⟨h.os, h.tape, h.output, h.size, fun k o hk hn => h.cell k o hk (fun q => hn (hs k o hk q)), h.frozen, fun k hk hn => h.block k hk (fun o q => hn o (hs k o hk q)), h.kind⟩
theorem Sel.of_below (S : Nat → Nat → Prop) (h : Below a.heap.size a b) : Sel S a b :=
  ⟨h.os, h.tape, h.output, h.size, fun k o hk _ => h.cell (p := ⟨k, o, none⟩) hk, fun k o hk => h.frozen (p := ⟨k, o, none⟩) hk, fun k hk _ => h.block k hk, fun k t cs hb => ⟨cs, rfl, hb.kept h hb.lt⟩⟩
theorem Sel.below {B : Nat} (h : Sel S a b) (hB : B ≤ a.heap.size) (hs : ∀ k o, k < B → ¬ S k o) : Below B a b :=
  ⟨h.os, h.tape, h.output, h.size, fun k hk => h.block k (Nat.lt_of_lt_of_le hk hB) (fun o => hs k o hk)⟩
theorem Sel.setCell (h : Sel S a b) {k o : Nat} (hs : S k o) (u : Value) : Sel S a (b.setCell ⟨k, o, none⟩ u) := by
  refine h.trans ⟨rfl, rfl, rfl, by simp [World.setCell], fun i q hi hn => ?_, fun i q hi => World.frozen?_setCell _ _ _ _, fun i hi hn => heap_setCell_other _ _ _ _ (fun e => hn o (e ▸ hs)), fun i t cs hb => ?_⟩
  · exact World.cell?_setCell_other _ _ _ _ (by intro hh; injection hh with h1 h2; subst h1 h2; exact hn hs)
  · by_cases e : i = k
    · subst e
      exact ⟨cs.set o u, by simp, hb.store o u⟩
    · exact ⟨cs, rfl, hb.store_other e⟩
theorem Sel.blk (h : Sel S a b) {k : Nat} {t : TypeId} {cs : List Value} (hb : Blk a k t cs) (hs : ∀ o, ¬ S k o) : Blk b k t cs := (h.block k hb.lt hs).trans hb
/-- A block whose cells are known again. -/
theorem Sel.cells (h : Sel S a b) {k : Nat} {t : TypeId} {cs ds : List Value} (hb : Blk a k t cs) (hl : ds.length = cs.length) (hd : ∀ j u, ds[j]? = some u → b.cell? ⟨k, j, none⟩ = some u) : Blk b k t ds := by
  obtain ⟨c2, h1, h2⟩ := h.kind k t cs hb
  have : c2 = ds := by
    apply List.ext_getElem
    · omega
    · intro j h3 h4
      have h5 := hd j _ (List.getElem?_eq_getElem h4)
      rw [h2.cell, List.getElem?_eq_getElem h3] at h5
      exact Option.some.inj h5
  rw [← this]; exact h2
end
theorem Tabs.sel {S : Nat → Nat → Prop} {w w' : World} (h : Tabs w) (hs : Sel S w w') (hn : ∀ o, ¬ S 0 o) : Tabs w' :=
  ⟨Nat.lt_of_lt_of_le h.lo hs.size, fun j hj => (hs.cell _ j h.lo (hn j)).trans (h.tab j hj)⟩
theorem sel_drewN {S : Nat → Nat → Prop} {a b : World} (h : Sel S a b) (n : Nat) : Sel S a (b.drewN n) := h.trans (Sel.of_below S (below_drewN (Below.refl _ _) n))

/-- n integers at a place. -/
structure Ints (w : World) (A : Option Addr) (b o n : Nat) (f : Nat → Nat) : Prop where
  adr : 0 < n → A = some ⟨b, o, none⟩
  lt : 0 < n → b < w.heap.size
  cell : ∀ j, j < n → w.cell? ⟨b, o + j, none⟩ = some (.int .i64 (f j : Int))
theorem Ints.sel {S : Nat → Nat → Prop} {w w' : World} {A : Option Addr} {b o n : Nat} {f : Nat → Nat} (h : Ints w A b o n f) (hs : Sel S w w') (hn : ∀ j, j < n → ¬ S b (o + j)) : Ints w' A b o n f :=
  ⟨h.adr, fun h0 => Nat.lt_of_lt_of_le (h.lt h0) hs.size, fun j hj => (hs.cell b _ (h.lt (by omega)) (hn j hj)).trans (h.cell j hj)⟩
theorem Ints.below {B : Nat} {w w' : World} {A : Option Addr} {b o n : Nat} {f : Nat → Nat} (h : Ints w A b o n f) (hb : Below B w w') (hB : 0 < n → b < B) : Ints w' A b o n f :=
  ⟨h.adr, fun h0 => Nat.lt_of_lt_of_le (h.lt h0) hb.size, fun j hj => (hb.cell (p := ⟨b, o + j, none⟩) (hB (by omega))).trans (h.cell j hj)⟩

set_option maxHeartbeats 1000000 in
set_option maxRecDepth 100000 in
theorem addm_any (m x n : Nat) (hm : Fm m) (hx : x < 2 ^ m) (hn : n ≤ 1000) (s t : Nat → Nat) (hs : ∀ j, j < n → s j < 2 ^ m) (ht : ∀ j, j < n → t j < 2 ^ m) (A D : Option Addr) (ca cd b o b2 o2 : Nat) (w : World) (hT : Tabs w)
    (h1 : Ints w A b o n s) (h2 : Ints w D b2 o2 n t) (hf : ∀ j, j < n → w.frozen? ⟨b, o + j, none⟩ = false) (hap : ∀ j l, j < n → l < n → ¬ (b2 = b ∧ o2 + l = o + j)) (hg : 0 ≠ b) :
    Calls Tryd.prog 37 #[.int .i64 (m : Int), .slice A n ca, .slice D n cd, .int .i64 (x : Int)] w fun e w' => e = .returned (.tuple #[]) ∧ Ints w' A b o n (fun j => s j ^^^ mul m (t j) x) ∧ Sel (fun k q => k = b ∧ o ≤ q ∧ q < o + n) w w' := by
  have HM := hideIt hm
  have HX := hideIt hx
  have HS := hideIt hs
  have HTT := hideIt ht
  have HT := hideIt hT
  have H1 := hideIt h1
  have H2 := hideIt h2
  have HF := hideIt hf
  have HAP := hideIt hap
  have HG := hideIt hg
  clear hm hx hs ht hT h1 h2 hf hap hg
  go_enter Tryd.func37, Tryd.ntmps37
  go_wp2_with fail
  go_loopg [14] n (fun gk s14 wr => ∃ j : Nat, j + gk = n ∧ s14 = .int .i64 (j : Int) ∧ Aside (Sel (fun k q => k = b ∧ o ≤ q ∧ q < o + j) w wr ∧ ∀ i, i < j → wr.cell? ⟨b, o + i, none⟩ = some (.int .i64 ((s i ^^^ mul m (t i) x : Nat) : Int))))
  case atStart => exact ⟨0, by omega, rfl, Sel.refl _ _, fun i hi => absurd hi (Nat.not_lt_zero _)⟩
  case round =>
    obtain ⟨j, hj, rfl, HI⟩ := hrel
    by_cases hlt : j < n
    · have h0n : 0 < n := by omega
      have hA := H1.out.adr h0n
      have hD := H2.out.adr h0n
      subst hA
      subst hD
      have hb := H1.out.lt h0n
      have hb2 := H2.out.lt h0n
      have hc1 := (HI.out.1.cell b (o + j) hb (by omega)).trans (H1.out.cell j hlt)
      have hc2 := (HI.out.1.cell b2 (o2 + j) hb2 (fun h => HAP.out (o2 + j - o) j (by omega) hlt ⟨h.1, by omega⟩)).trans (H2.out.cell j hlt)
      have hfr := (HI.out.1.frozen b (o + j) hb).trans (HF.out j hlt)
      have hTr := HT.out.sel HI.out.1 (fun q h => HG.out h.1)
      have HMU := hideIt (fmul_is hTr HM.out (HTT.out j hlt) HX.out 0)
      have HAD := hideIt (fun k => fadd_is hTr HM.out (HS.out j hlt) (mul_lt HM.out x (HTT.out j hlt)) k)
      have HSL := hideIt HI.out
      obtain ⟨y, hy⟩ : ∃ y, y = mul m (t j) x := ⟨_, rfl⟩
      rw [← hy] at HMU HAD
      obtain ⟨z, hz⟩ : ∃ z, z = s j ^^^ y := ⟨_, rfl⟩
      rw [← hz] at HAD
      have HZ := hideIt (show z = s j ^^^ mul m (t j) x by rw [hz, hy])
      have hinc := inc_c 3 j (by omega)
      have hji : (j : Int) < (n : Int) := by omega
      clear hy hz hb hb2 hTr HI
      generalize s j = sj at hc1 HAD
      generalize t j = tj at hc2 HMU
      go_wp2_with (first
        | (go_at_call 48; refine HMU.out.mono ?_; rintro e w1 ⟨rfl, k1, rfl⟩)
        | (go_at_call 49; refine (HAD.out k1).mono ?_; rintro e w1 ⟨rfl, k2, rfl⟩))
      go_roundg (gk - 1)
      case measure => omega
      case rel =>
        refine ⟨j + 1, by omega, by go_num, ((sel_drewN HSL.out.1 k2).wide (fun k q h => ⟨h.1, h.2.1, by omega⟩)).setCell ⟨rfl, by omega, by omega⟩ _, fun i hi => ?_⟩
        by_cases e : i = j
        · subst e
          rw [World.cell?_setCell_same' _ _ _ (by have h : (wr.drewN k2).cell? ⟨b, o + i, none⟩ = _ := hc1; rw [h]; rfl), HZ.out]
        · rw [World.cell?_setCell_other _ _ _ _ (by intro hh; injection hh with _ hh; omega)]
          exact HSL.out.2 i (by omega)
    · obtain rfl : j = n := by omega
      have HSL := hideIt HI.out
      have hji : ¬ (j : Int) < (j : Int) := by omega
      clear HI
      go_wp2_with fail
      go_end0
      exact ⟨rfl, ⟨H1.out.adr, fun h0 => Nat.lt_of_lt_of_le (H1.out.lt h0) HSL.out.1.size, HSL.out.2⟩, HSL.out.1⟩

end Go.Proofs.YtodmcojcmihooaaDoor
