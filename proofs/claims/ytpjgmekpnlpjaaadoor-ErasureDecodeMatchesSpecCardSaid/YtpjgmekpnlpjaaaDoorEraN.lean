/-
  What extend keeps: its rows and literals, its box, the rows' data; three operations that stand next in a region that draws its order.
-/
import Derived.Test.YtpjgmekpnlpjaaaDoorRowN
import Derived.Test.YtpjgmekpnlpjaaaDoorEraL
namespace Go.Proofs.YtpjgmekpnlpjaaaDoor
open Go.RowKit
set_option linter.unusedVariables false
set_option linter.unusedSimpArgs false

section
variable {P : Program} {md : Region.Mode} {ops : Array Oper} {Q : Exit → Act → World → Prop} {L : List (Nat × (World → Prop))}
theorem wpOp_of_list {j : Nat} {o : Oper} {a : Act} {w : World} {K : Act → World → Prop} (ho : ops[j]? = some o) (h1 : wpList P ops (Exit.then K Q) [o] a w) : wpOp P ops Q j K a w := by
  unfold wpOp
  simp only [ho]
  unfold wpList at h1
  split
  · rename_i hw
    rw [if_pos hw] at h1
    rcases h1 with h1 | ⟨h1, a0, w0, h2⟩
    · refine .inl ?_
      unfold Oper.wp at h1 ⊢
      generalize (execOp a.eval o).run P w = r at h1 ⊢
      cases r with
      | ok n w' =>
        cases n <;> simp only [Oper.upon] at h1 ⊢
        case value u => exact h1
        case skip => exact h1
        case defer d => exact h1
        case enter f args =>
          refine Calls.mono h1 fun e w'' he => ?_
          cases e <;> exact he
        case row row args => exact h1
      | halt x w' =>
        cases x <;> simp only [Oper.upon] at h1 ⊢
        case panic u => exact h1
    · exact .inr ⟨h1, a0, w0, h2⟩
  · rename_i hw
    rw [if_neg hw] at h1
    exact h1
/-- Two stand next. -/
theorem wpAnyL_two (i j : Nat) {oi oj : Oper} {fuel : Nat} {listed : Array Bool} {a : Act} {w : World} (hr : Region.ready md ops listed = [i, j]) (hi : ops[i]? = some oi) (hj : ops[j]? = some oj)
    (h1 : ∀ K : Act → World → Prop, (∀ a' w', Hooks L (listed.setIfInBounds i true) w' → wpAnyL P md ops Q L fuel (listed.setIfInBounds i true) a' w' → K a' w') → wpList P ops (Exit.then K Q) [oi] a w)
    (h2 : ∀ K : Act → World → Prop, (∀ a' w', Hooks L (listed.setIfInBounds j true) w' → wpAnyL P md ops Q L fuel (listed.setIfInBounds j true) a' w' → K a' w') → wpList P ops (Exit.then K Q) [oj] a w) :
    wpAnyL P md ops Q L (fuel + 1) listed a w := by
  refine ⟨fun h0 => (by rw [hr] at h0; cases h0), fun k hk => ?_⟩
  rw [hr] at hk
  rcases List.mem_cons.1 hk with rfl | hk
  · exact wpOp_of_list hi (h1 _ fun a' w' p q => ⟨p, q⟩)
  · rw [List.mem_singleton] at hk
    subst hk
    exact wpOp_of_list hj (h2 _ fun a' w' p q => ⟨p, q⟩)
theorem wpAnyL_three (i j k : Nat) {oi oj ok : Oper} {fuel : Nat} {listed : Array Bool} {a : Act} {w : World} (hr : Region.ready md ops listed = [i, j, k]) (hi : ops[i]? = some oi) (hj : ops[j]? = some oj) (hk : ops[k]? = some ok)
    (h1 : ∀ K : Act → World → Prop, (∀ a' w', Hooks L (listed.setIfInBounds i true) w' → wpAnyL P md ops Q L fuel (listed.setIfInBounds i true) a' w' → K a' w') → wpList P ops (Exit.then K Q) [oi] a w)
    (h2 : ∀ K : Act → World → Prop, (∀ a' w', Hooks L (listed.setIfInBounds j true) w' → wpAnyL P md ops Q L fuel (listed.setIfInBounds j true) a' w' → K a' w') → wpList P ops (Exit.then K Q) [oj] a w)
    (h3 : ∀ K : Act → World → Prop, (∀ a' w', Hooks L (listed.setIfInBounds k true) w' → wpAnyL P md ops Q L fuel (listed.setIfInBounds k true) a' w' → K a' w') → wpList P ops (Exit.then K Q) [ok] a w) :
    wpAnyL P md ops Q L (fuel + 1) listed a w := by
  refine ⟨fun h0 => (by rw [hr] at h0; cases h0), fun q hq => ?_⟩
  rw [hr] at hq
  rcases List.mem_cons.1 hq with rfl | hq
  · exact wpOp_of_list hi (h1 _ fun a' w' p q => ⟨p, q⟩)
  · rcases List.mem_cons.1 hq with rfl | hq
    · exact wpOp_of_list hj (h2 _ fun a' w' p q => ⟨p, q⟩)
    · rw [List.mem_singleton] at hq
      subst hq
      exact wpOp_of_list hk (h3 _ fun a' w' p q => ⟨p, q⟩)
end

/-- Six things by number. -/
def V6 {α : Type} (a b c d e f : α) : Nat → α
  | 0 => a | 1 => b | 2 => c | 3 => d | 4 => e | _ => f
def T6 : Nat → TypeId := V6 3 29 3 3 29 3
theorem six {p : Nat → Prop} (h0 : p 0) (h1 : p 1) (h2 : p 2) (h3 : p 3) (h4 : p 4) (h5 : p 5) : ∀ i, i < 6 → p i := fun i hi => by
  match i, hi with
  | 0, _ => exact h0
  | 1, _ => exact h1
  | 2, _ => exact h2
  | 3, _ => exact h3
  | 4, _ => exact h4
  | 5, _ => exact h5
theorem T6_ne : ∀ i, i < 6 → 74 ≠ T6 i := six (by decide) (by decide) (by decide) (by decide) (by decide) (by decide)
theorem grown_alloc (w : World) (o : Obj) (row : Option Nat) : w.grownBy (w.alloc o) row := ⟨rfl, rfl, rfl, by simp, fun k hk _ => heap_alloc_old w o hk⟩

structure ES (w0 : World) (N base pb : Nat) (bc : List Value) (gs : Nat → Nat) (cs : Nat → List Value) (w : World) (vs : Nat → Value) (ks : Nat → Nat) (ls : Nat → List Value) : Prop where
  rn : RN 6 T6 w base vs ks ls
  box : Blk w pb 74 bc
  rows : ∀ i, i < N → Blk w (gs i) 3 (cs i)
  free : ∀ i r, i < N → r < 6 → (vs r).ownBlock ≠ some (gs i)
  sz : base ≤ w.heap.size
  low : Below base w0 w
section
variable {w0 : World} {N base pb : Nat} {bc : List Value} {gs : Nat → Nat} {cs : Nat → List Value} {w : World} {vs vs' : Nat → Value} {ks ks' : Nat → Nat} {ls ls' : Nat → List Value}
theorem ES.to (h : ES w0 N base pb bc gs cs w vs ks ls) (hv : ∀ i, i < 6 → vs i = vs' i) (hk : ∀ i, i < 6 → ks i = ks' i) (hl : ∀ i, i < 6 → ls i = ls' i) : ES w0 N base pb bc gs cs w vs' ks' ls' :=
  ⟨⟨fun i hi => by rw [← hv i hi, ← hk i hi, ← hl i hi]; exact h.rn.own i hi, fun i j hi hj hne => by rw [← hv i hi, ← hv j hj]; exact h.rn.apart i j hi hj hne⟩, h.box, h.rows, fun i r hi hr => by rw [← hv r hr]; exact h.free i r hi hr, h.sz, h.low⟩
theorem ES.step (h : ES w0 N base pb bc gs cs w vs ks ls) (r : Nat) (hr : r < 6) {w' : World} {v' : Value} {k' : Nat} {l' : List Value} (hg : w.grownBy w' (vs r).ownBlock) (ho : w'.ownsRow base (T6 r) 1 v' k' l') (hat : v'.ownBlock = (vs r).ownBlock ∨ v'.ownBlock = some w.heap.size) :
    ES w0 N base pb bc gs cs w' (upd vs r v') (upd ks r k') (upd ls r l') := by
  refine ⟨h.rn.step r hr hg ho hat, h.box.grown hg (own_ne (h.rn.own r hr) h.box (T6_ne r hr)), fun i hi => (h.rows i hi).grown hg (fun e => h.free i r hi hr e.symm), fun i q hi hq => ?_, Nat.le_trans h.sz hg.size, below_grown h.low (h.rn.own r hr) (Nat.le_refl _) h.sz hg⟩
  unfold upd
  by_cases e : q = r
  · rw [if_pos e]
    rcases hat with hat | hat
    · rw [hat]; exact h.free i r hi hr
    · rw [hat]; intro e2; injection e2 with e2; have := (h.rows i hi).lt; omega
  · rw [if_neg e]; exact h.free i q hi hq
theorem ES.lit (h : ES w0 N base pb bc gs cs w vs ks ls) (r : Nat) (hr : r < 6) (u : Value) : ES w0 N base pb bc gs cs (w.alloc (.cells #[u] (T6 r))) (upd vs r (.slice (some ⟨w.heap.size, 0, none⟩) 1 1)) (upd ks r 1) (upd ls r [u]) :=
  h.step r hr (grown_alloc w _ _) (World.ownsRow_lit w #[u] 1 h.sz (by decide) rfl) (.inr rfl)
theorem ES.drew (h : ES w0 N base pb bc gs cs w vs ks ls) : ES w0 N base pb bc gs cs w.drew vs ks ls := ⟨h.rn.below (Below.refl _ w).drew, h.box, h.rows, h.free, h.sz, h.low.drew⟩
end
end Go.Proofs.YtpjgmekpnlpjaaaDoor
