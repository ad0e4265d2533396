/-
  What stage 10 stands on, cut out of older texts. (EraN, EraO, EraP.)
-/
import Derived.StillTailTactics
import Derived.Test.YtklngodlijiccaaDoorE10a
import Derived.Test.YtklngodlijiccaaDoorE10b
import Derived.Test.YtklngodlijiccaaDoorE10c
import Derived.Test.YtklngodlijiccaaDoorE10d
namespace Go.Proofs.YtklngodlijiccaaDoor
set_option linter.unusedVariables false
set_option linter.unusedSimpArgs false
set_option linter.unusedSectionVars false

section
open Go.RowKit
set_option linter.unusedVariables false
set_option linter.unusedSimpArgs false
section
variable {P : Program} {md : Region.Mode} {ops : Array Oper} {Q : Exit → Act → World → Prop} {L : List (Nat × (World → Prop))}
theorem wpOp_of_list {j : Nat} {o : Oper} {a : Act} {w : World} {K : Act → World → Prop} (ho : ops[j]? = some o) (h1 : wpList P ops (Exit.then K Q) [o] a w) : wpOp P ops Q j K a w := by
  unfold wpOp
  simp only [ho]
  unfold wpList at h1
  split
  · rename_i hw
    rw [if_pos hw] at h1
    rcases h1 with h1 | ⟨h1, a0, w0, h2⟩
    · refine .inl ?_
      unfold Oper.wp at h1 ⊢
      generalize (execOp a.eval o).run P w = r at h1 ⊢
      cases r with
      | ok n w' =>
        cases n <;> simp only [Oper.upon] at h1 ⊢
        case value u => exact h1
        case skip => exact h1
        case defer d => exact h1
        case enter f args =>
          refine Calls.mono h1 fun e w'' he => ?_
          cases e <;> exact he
        case row row args => exact h1
      | halt x w' =>
        cases x <;> simp only [Oper.upon] at h1 ⊢
        case panic u => exact h1
    · exact .inr ⟨h1, a0, w0, h2⟩
  · rename_i hw
    rw [if_neg hw] at h1
    exact h1
/-- Two stand next. -/
theorem wpAnyL_two (i j : Nat) {oi oj : Oper} {fuel : Nat} {listed : Array Bool} {a : Act} {w : World} (hr : Region.ready md ops listed = [i, j]) (hi : ops[i]? = some oi) (hj : ops[j]? = some oj)
    (h1 : ∀ K : Act → World → Prop, (∀ a' w', Hooks L (listed.setIfInBounds i true) w' → wpAnyL P md ops Q L fuel (listed.setIfInBounds i true) a' w' → K a' w') → wpList P ops (Exit.then K Q) [oi] a w)
    (h2 : ∀ K : Act → World → Prop, (∀ a' w', Hooks L (listed.setIfInBounds j true) w' → wpAnyL P md ops Q L fuel (listed.setIfInBounds j true) a' w' → K a' w') → wpList P ops (Exit.then K Q) [oj] a w) :
    wpAnyL P md ops Q L (fuel + 1) listed a w := by
  refine ⟨fun h0 => (by rw [hr] at h0; cases h0), fun k hk => ?_⟩
  rw [hr] at hk
  rcases List.mem_cons.1 hk with rfl | hk
  · exact wpOp_of_list hi (h1 _ fun a' w' p q => ⟨p, q⟩)
  · rw [List.mem_singleton] at hk
    subst hk
    exact wpOp_of_list hj (h2 _ fun a' w' p q => ⟨p, q⟩)
theorem wpAnyL_three (i j k : Nat) {oi oj ok : Oper} {fuel : Nat} {listed : Array Bool} {a : Act} {w : World} (hr : Region.ready md ops listed = [i, j, k]) (hi : ops[i]? = some oi) (hj : ops[j]? = some oj) (hk : ops[k]? = some ok)
    (h1 : ∀ K : Act → World → Prop, (∀ a' w', Hooks L (listed.setIfInBounds i true) w' → wpAnyL P md ops Q L fuel (listed.setIfInBounds i true) a' w' → K a' w') → wpList P ops (Exit.then K Q) [oi] a w)
    (h2 : ∀ K : Act → World → Prop, (∀ a' w', Hooks L (listed.setIfInBounds j true) w' → wpAnyL P md ops Q L fuel (listed.setIfInBounds j true) a' w' → K a' w') → wpList P ops (Exit.then K Q) [oj] a w)
    (h3 : ∀ K : Act → World → Prop, (∀ a' w', Hooks L (listed.setIfInBounds k true) w' → wpAnyL P md ops Q L fuel (listed.setIfInBounds k true) a' w' → K a' w') → wpList P ops (Exit.then K Q) [ok] a w) :
    wpAnyL P md ops Q L (fuel + 1) listed a w := by
  refine ⟨fun h0 => (by rw [hr] at h0; cases h0), fun q hq => ?_⟩
  rw [hr] at hq
  rcases List.mem_cons.1 hq with rfl | hq
  · exact wpOp_of_list hi (h1 _ fun a' w' p q => ⟨p, q⟩)
  · rcases List.mem_cons.1 hq with rfl | hq
    · exact wpOp_of_list hj (h2 _ fun a' w' p q => ⟨p, q⟩)
    · rw [List.mem_singleton] at hq
      subst hq
      exact wpOp_of_list hk (h3 _ fun a' w' p q => ⟨p, q⟩)
end
/-- Six things by number. -/
def V6 {α : Type} (a b c d e f : α) : Nat → α
  | 0 => a | 1 => b | 2 => c | 3 => d | 4 => e | _ => f
def T6 : Nat → TypeId := V6 3 36 3 3 36 3
theorem six {p : Nat → Prop} (h0 : p 0) (h1 : p 1) (h2 : p 2) (h3 : p 3) (h4 : p 4) (h5 : p 5) : ∀ i, i < 6 → p i := fun i hi => by
  match i, hi with
  | 0, _ => exact h0
  | 1, _ => exact h1
  | 2, _ => exact h2
  | 3, _ => exact h3
  | 4, _ => exact h4
  | 5, _ => exact h5
theorem T6_ne : ∀ i, i < 6 → 100 ≠ T6 i := six (by decide) (by decide) (by decide) (by decide) (by decide) (by decide)
theorem grown_alloc (w : World) (o : Obj) (row : Option Nat) : w.grownBy (w.alloc o) row := ⟨rfl, rfl, rfl, by simp, fun k hk _ => heap_alloc_old w o hk⟩
structure ES (w0 : World) (N base pb : Nat) (bc : List Value) (gs : Nat → Nat) (cs : Nat → List Value) (w : World) (vs : Nat → Value) (ks : Nat → Nat) (ls : Nat → List Value) : Prop where
  rn : RN 6 T6 w base vs ks ls
  box : Blk w pb 100 bc
  rows : ∀ i, i < N → Blk w (gs i) 3 (cs i)
  free : ∀ i r, i < N → r < 6 → (vs r).ownBlock ≠ some (gs i)
  sz : base ≤ w.heap.size
  low : Below base w0 w
section
variable {w0 : World} {N base pb : Nat} {bc : List Value} {gs : Nat → Nat} {cs : Nat → List Value} {w : World} {vs vs' : Nat → Value} {ks ks' : Nat → Nat} {ls ls' : Nat → List Value}
theorem ES.to (h : ES w0 N base pb bc gs cs w vs ks ls) (hv : ∀ i, i < 6 → vs i = vs' i) (hk : ∀ i, i < 6 → ks i = ks' i) (hl : ∀ i, i < 6 → ls i = ls' i) : ES w0 N base pb bc gs cs w vs' ks' ls' :=
  ⟨⟨fun i hi => by rw [← hv i hi, ← hk i hi, ← hl i hi]; exact h.rn.own i hi, fun i j hi hj hne => by rw [← hv i hi, ← hv j hj]; exact h.rn.apart i j hi hj hne⟩, h.box, h.rows, fun i r hi hr => by rw [← hv r hr]; exact h.free i r hi hr, h.sz, h.low⟩
theorem ES.step (h : ES w0 N base pb bc gs cs w vs ks ls) (r : Nat) (hr : r < 6) {w' : World} {v' : Value} {k' : Nat} {l' : List Value} (hg : w.grownBy w' (vs r).ownBlock) (ho : w'.ownsRow base (T6 r) 1 v' k' l') (hat : v'.ownBlock = (vs r).ownBlock ∨ v'.ownBlock = some w.heap.size) :
    ES w0 N base pb bc gs cs w' (upd vs r v') (upd ks r k') (upd ls r l') := by
  refine ⟨h.rn.step r hr hg ho hat, h.box.grown hg (own_ne (h.rn.own r hr) h.box (T6_ne r hr)), fun i hi => (h.rows i hi).grown hg (fun e => h.free i r hi hr e.symm), fun i q hi hq => ?_, Nat.le_trans h.sz hg.size, below_grown h.low (h.rn.own r hr) (Nat.le_refl _) h.sz hg⟩
  unfold upd
  by_cases e : q = r
  · rw [if_pos e]
    rcases hat with hat | hat
    · rw [hat]; exact h.free i r hi hr
    · rw [hat]; intro e2; injection e2 with e2; have := (h.rows i hi).lt; omega
  · rw [if_neg e]; exact h.free i q hi hq
theorem ES.lit (h : ES w0 N base pb bc gs cs w vs ks ls) (r : Nat) (hr : r < 6) (u : Value) : ES w0 N base pb bc gs cs (w.alloc (.cells #[u] (T6 r))) (upd vs r (.slice (some ⟨w.heap.size, 0, none⟩) 1 1)) (upd ks r 1) (upd ls r [u]) :=
  h.step r hr (grown_alloc w _ _) (World.ownsRow_lit w #[u] 1 h.sz (by decide) rfl) (.inr rfl)
theorem ES.drew (h : ES w0 N base pb bc gs cs w vs ks ls) : ES w0 N base pb bc gs cs w.drew vs ks ls := ⟨h.rn.below (Below.refl _ w).drew, h.box, h.rows, h.free, h.sz, h.low.drew⟩
end
end

section
open Go.RowKit
set_option linter.unusedVariables false
set_option linter.unusedSimpArgs false
theorem own_apart2 {w : World} {B B' n n' k k' : Nat} {e e' : TypeId} {v v' : Value} {xs xs' : List Value} (h : w.ownsRow B e k v n xs) (h' : w.ownsRow B' e' k' v' n' xs') (ht : e ≠ e') : Apart v v' := fun j h1 h2 => by
  rcases h.2 with ⟨rfl, _⟩ | ⟨g, c, cur, rfl, hg, hb, _⟩
  · cases h1
  · rcases h'.2 with ⟨rfl, _⟩ | ⟨g', c', cur', rfl, hg', hb', _⟩
    · cases h2
    · injection h1 with h1
      injection h2 with h2
      subst h1
      have h2 : g' = g := h2
      subst h2
      rw [hb] at hb'
      injection hb' with hb'
      injection hb' with _ hb' _
      exact ht hb'
abbrev rowsV (n : Nat) (gs : Nat → Nat) (p : Nat) : List Value := (List.range p).map fun i => .slice (some ⟨gs i, 0, none⟩) (n + n) (n + n)
theorem rowsV_snoc (n : Nat) (gs : Nat → Nat) (p g : Nat) : rowsV n (upd gs p g) (p + 1) = rowsV n gs p ++ [.slice (some ⟨g, 0, none⟩) (n + n) (n + n)] := by
  unfold rowsV
  rw [List.range_succ, List.map_append]
  congr 1
  · refine List.map_congr_left fun i hi => ?_
    unfold upd; rw [if_neg (by have := List.mem_range.1 hi; omega)]
  · simp [upd]
structure BaO (W : World) (base : Nat) (x : Cd) (n : Nat) (B pv : List Nat) (Q : Mx) (gA : Option Addr) (vU vR vP : Value) (gs : Nat → Nat) : Prop where
  gen : Sl W base gA 1 ((n + x.par.length) * n) ((genK x x.par.length).map iv)
  uni : W.ownsRow base 3 1 vU B.length (pvC B)
  row : W.ownsRow base 36 1 vR B.length (rowsV n gs B.length)
  piv : W.ownsRow base 3 1 vP B.length (pvC pv)
  ap : Apart vU vP
  dat : ∀ i, i < B.length → Blk W (gs i) 3 ((nl (n + n) (Q i)).map iv) ∧ base ≤ gs i ∧ vU.ownBlock ≠ some (gs i) ∧ vP.ownBlock ≠ some (gs i)
section
variable {W W' : World} {base : Nat} {x : Cd} {m n : Nat} {B pv : List Nat} {Q : Mx} {gA : Option Addr} {vU vR vP : Value} {gs : Nat → Nat}
theorem BaO.keep (h : BaO W base x n B pv Q gA vU vR vP gs) (hs : base ≤ W.heap.size) (hb : Below W.heap.size W W') : BaO W' base x n B pv Q gA vU vR vP gs :=
  ⟨h.gen.below (hb.mono hs), own_kept h.uni hb, own_kept h.row hb, own_kept h.piv hb, h.ap, fun i hi => ⟨(h.dat i hi).1.kept hb (h.dat i hi).1.lt, (h.dat i hi).2⟩⟩
theorem BaO.turned {g : Nat} {cs : List Value} (h : BaO W base x n B pv Q gA vU vR vP gs) (ht : Turned g W W') (hg : base ≤ g) (hb : Blk W g 3 cs) (h1 : vU.ownBlock ≠ some g) (h2 : vP.ownBlock ≠ some g) (h3 : ∀ i, i < B.length → gs i ≠ g) : BaO W' base x n B pv Q gA vU vR vP gs := by
  have hgr : W.grownBy W' (some g) := ⟨ht.os, ht.tape, ht.output, by rw [ht.size]; exact Nat.le_refl _, fun k _ hne => ht.block k (fun e => hne (by rw [e]))⟩
  have hbl : Below base W W' := ht.below (Below.refl _ _) hg
  refine ⟨h.gen.below hbl, h.uni.kept hgr (.inr h1), ?_, h.piv.kept hgr (.inr h2), h.ap, fun i hi => ⟨ht.blk (h.dat i hi).1 (h3 i hi), (h.dat i hi).2⟩⟩
  refine h.row.kept hgr (.inr fun e => ?_)
  exact own_ne h.row hb (by decide) e.symm
/-- To read. -/
theorem BaO.toM (h : BaO W base x n B pv Q gA vU vR vP gs) (hs : base ≤ W.heap.size) (hl : pv.length = B.length) : ∃ uA uc rA rc pA pc, vU = .slice uA B.length uc ∧ vR = .slice rA B.length rc ∧ vP = .slice pA pv.length pc ∧ BaM W x m n B pv Q gA uA rA pA := by
  obtain ⟨uA, uc, e1, _, _⟩ := own_form h.uni
  obtain ⟨rA, rc, e2, _, _⟩ := own_form h.row
  obtain ⟨pA, pc, e3, _, _⟩ := own_form h.piv
  subst e1 e2 e3
  rw [← hl]
  refine ⟨uA, uc, rA, rc, pA, pc, rfl, rfl, rfl, h.gen.wide hs, Sl.of_own h.uni, ⟨rowsV n gs B.length, ?_, ?_⟩, ?_⟩
  · rw [rowsL_len]; exact Sl.of_own h.row
  · have : ∀ p, p ≤ B.length → All2 (fun (l : List Int) u => ∃ A c, u = .slice A l.length c ∧ Sl W W.heap.size A 1 l.length (l.map iv)) (rowsL n Q p) (rowsV n gs p) := fun p => by
      induction p with
      | zero => intro _; exact trivial
      | succ p ih =>
        intro hp
        unfold rowsL rowsV
        rw [List.range_succ, List.map_append, List.map_append]
        refine All2.snoc ⟨some ⟨gs p, 0, none⟩, n + n, by rw [nl_len, show 2 * n = n + n by omega], ?_⟩ (ih (by omega))
        have hb := (h.dat p (by omega)).1
        rw [show 2 * n = n + n by omega, nl_len]
        exact ⟨by rw [List.length_map, nl_len, Nat.mul_one], fun _ => ⟨gs p, 0, rfl, hb.lt, fun j u hj => by rw [Nat.zero_add, hb.cell]; exact hj⟩⟩
    exact this B.length (Nat.le_refl _)
  · have := h.piv; rw [← hl] at this; exact Sl.of_own this
end
end

section
open Go.RowKit
set_option linter.unusedVariables false
set_option linter.unusedSimpArgs false
/-- What extend leaves, beginning at world w. -/
def ExtPost (base : Nat) (x : Cd) (m n : Nat) (B pv : List Nat) (Q : Mx) (gA : Option Addr) (gc : Nat) (gs : Nat → Nat) (pb u c g : Nat) (f : Nat → Nat) (w : World) (e : Ending) (w' : World) : Prop :=
  e = .returned (.tuple #[]) ∧ ∃ vU vR vP, BaO w' base x n (B ++ [u]) (pv ++ [c]) (addQ Q B.length f) gA vU vR vP (upd gs B.length g) ∧ Blk w' pb 100 (baC (m : Int) ((n + x.par.length : Nat) : Int) (n : Int) (.slice gA ((n + x.par.length) * n) gc) vU vR vP) ∧ Below base w w'
theorem Tabs.turned {g : Nat} {w w' : World} (h : Tabs w) (ht : Turned g w w') (hg : 0 ≠ g) : Tabs w' :=
  ⟨by have := h.lo; rw [ht.size]; exact this, fun i hi => (ht.cell hg).trans (h.tab i hi)⟩
def one1 (n p : Nat) (r : Nat → Nat) : Nat → Nat := fun j => if j = n + p then 1 else r j
def scK (m a : Nat) (r : Nat → Nat) (k : Nat) : Nat → Nat := fun i => if i < k then mul m a (r i) else r i
theorem scK_next (m a : Nat) (r : Nat → Nat) (k : Nat) : (fun i => if i = k then mul m a (r k) else scK m a r k i) = scK m a r (k + 1) := by
  funext i
  unfold scK
  by_cases h : i = k
  · subst h; rw [if_pos rfl, if_pos (by omega)]
  · rw [if_neg h]
    by_cases h2 : i < k
    · rw [if_pos h2, if_pos (by omega)]
    · rw [if_neg h2, if_neg (by omega)]
set_option maxHeartbeats 40000000 in
set_option maxRecDepth 100000 in
theorem extend_any (base : Nat) {x : Cd} {m n : Nat} (hvc : VC x m n) (B pv : List Nat) (Q : Mx) (gA : Option Addr) (gc : Nat) (vU vR vP : Value) (gs : Nat → Nat) (pb u c g : Nat) (r : Nat → Nat) (hr : Vv m r) (hpv : pv.length = B.length) (hB : B.length < n) (hc : c < n) (h0 : r c ≠ 0) (w : World) (hT : Tabs w)
    (h : BaO w base x n B pv Q gA vU vR vP gs) (hbox : Blk w pb 100 (baC (m : Int) ((n + x.par.length : Nat) : Int) (n : Int) (.slice gA ((n + x.par.length) * n) gc) vU vR vP)) (hpb : base ≤ pb) (hTb : 0 < base) (hg : Blk w g 3 ((nl (n + n) r).map iv)) (hgb : base ≤ g) (h1 : vU.ownBlock ≠ some g) (h2 : vP.ownBlock ≠ some g) (h3 : ∀ i, i < B.length → gs i ≠ g) :
    Calls Tryd.prog 91 #[.pointer (some ⟨pb, 0, none⟩), .int .i64 (u : Int), .slice (some ⟨g, 0, none⟩) (n + n) (n + n), .int .i64 (c : Int)] w (ExtPost base x m n B pv Q gA gc gs pb u c g (newR m n r B.length c) w) := by
  have hsz : base ≤ w.heap.size := Nat.le_trans hpb (Nat.le_of_lt hbox.lt)
  obtain ⟨uA, uc, eU, _, _⟩ := own_form h.uni
  subst eU
  have c0 : w.cell? ⟨pb, 0, none⟩ = some (.int .i64 (m : Int)) := hbox.cell 0
  have c2 : w.cell? ⟨pb, 2, none⟩ = some (.int .i64 (n : Int)) := hbox.cell 2
  have c4 : w.cell? ⟨pb, 4, none⟩ = some (.slice uA B.length uc) := hbox.cell 4
  have hcg := hg.cell (n + B.length)
  rw [iv_at (by omega)] at hcg
  have hfr := hg.free (n + B.length)
  have hwid := hvc.wid
  have HB := hideIt h
  have HBX := hideIt hbox
  have HT := hideIt hT
  have HVC := hideIt hvc
  have HG := hideIt hg
  have HGP := hideIt (show pb ≠ g by
    intro e; subst e
    unfold Blk at hbox hg
    rw [hbox] at hg
    injection hg with hg
    injection hg with _ hg _
    exact absurd hg (by decide))
  have HLO := hideIt (And.intro hpb (And.intro hgb (And.intro hsz hTb)))
  have HU := hideIt h1
  have HPV := hideIt h2
  have HGS := hideIt h3
  have HRV := hideIt hr
  have HC0 := hideIt h0
  have HPL := hideIt hpv
  have hadd := nadd 3 n B.length (by omega)
  have hix : ((n + B.length : Nat) : Int) < ((n + n : Nat) : Int) := by omega
  clear h hbox hT hvc hg hpb hgb hsz hTb h1 h2 h3 hr h0 hpv
  go_enter Tryd.func91, Tryd.ntmps91
  go_wp2_with fail
  refine still_tail 12 (by kernel_rfl) (by kernel_rfl) ?_
  intro w1 hw1
  have d2 : w1.cell? ⟨pb, 2, none⟩ = some (.int .i64 (n : Int)) := by rw [hw1]; exact c2
  have d4 : w1.cell? ⟨pb, 4, none⟩ = some (.slice uA B.length uc) := by rw [hw1]; exact c4
  have dg : w1.cell? ⟨g, n + B.length, none⟩ = some (.int .i64 (r (n + B.length) : Int)) := by rw [hw1]; exact hcg
  have df : w1.frozen? ⟨g, n + B.length, none⟩ = false := by rw [hw1]; exact hfr
  have HW1 := hideIt (show Turned g w w1 from hw1 ▸ Turned.drewN g w 1)
  have HG1 := hideIt (show Blk w1 g 3 ((nl (n + n) r).map iv) by rw [hw1]; exact HG.out)
  clear c0 c2 c4 hcg hfr hw1
  simp only [List.take_succ_cons, List.take_zero, List.drop_succ_cons, List.drop_zero]
  repeat still_step
  refine wpStill_nil ?_
  have HG2 := hideIt (show Blk (w1.setCell ⟨g, n + B.length, none⟩ (.int .i64 1)) g 3 ((nl (n + n) (one1 n B.length r)).map iv) by
    have := HG1.out.store (n + B.length) (.int .i64 ((1 : Nat) : Int))
    rw [set_nl _ _ _ (by omega)] at this
    exact this)
  have hrc : one1 n B.length r c = r c := by unfold one1; rw [if_neg (by omega)]
  have c5 := HG2.out.cell c
  rw [iv_at (by omega), hrc] at c5
  have HTU2 := hideIt (HW1.out.trans (Turned.set g w1 (n + B.length) (.int .i64 1)))
  obtain ⟨w2, hw2⟩ : ∃ W, W = w1.setCell ⟨g, n + B.length, none⟩ (.int .i64 1) := ⟨_, rfl⟩
  rw [← hw2] at HG2 HTU2
  have HT2 := hideIt (HT.out.turned HTU2.out (by have := HLO.out; omega))
  have HIV := hideIt (finv_is (w := w2) HT2.out HVC.out.fm (HRV.out c) HC0.out 0)
  have HXV := hideIt (show Vv m (one1 n B.length r) from fun j => by unfold one1; split; exact fm_one HVC.out.fm; exact HRV.out j)
  have hivl := inv_lt HVC.out.fm (r c)
  have hcn : (c : Int) < ((n + n : Nat) : Int) := by omega
  have HIVL := hideIt hivl
  have HF0 := hideIt (show ∀ j, newR m n r B.length c j = mul m (inv m (r c)) (one1 n B.length r j) from fun _ => rfl)
  generalize inv m (r c) = iv0 at *
  generalize hx1 : one1 n B.length r = x1 at *
  generalize hrcv : r c = rc at *
  clear d2 d4 HG1 HW1 hrc hx1 hrcv hadd hivl
  have HW2 := hideIt hw2
  clear hw2
  go_wp2_with (first
    | (go_at_call 86; rw [← HW2.out]; refine HIV.out.mono ?_; rintro e w3 ⟨rfl, k3, rfl⟩))
  have HTU3 := hideIt (HTU2.out.trans (Turned.drewN g w2 k3))
  have HG3 := hideIt (show Blk (w2.drewN k3) g 3 ((nl (n + n) x1).map iv) from HG2.out)
  obtain ⟨w3, hw3⟩ : ∃ W, W = w2.drewN k3 := ⟨_, rfl⟩
  rw [← hw3] at HTU3 HG3 ⊢
  clear HTU2 HG2 HT2 HIV HW2 c5 hw3 dg df hix
  go_loopg [42] (n + n) (fun gk s42 wr => ∃ k : Nat, k + gk = n + n ∧ s42 = .int .i64 (k : Int) ∧ Aside (Turned g w wr) ∧ Aside (Blk wr g 3 ((nl (n + n) (scK m iv0 x1 k)).map iv)))
  case atStart => exact ⟨0, by omega, rfl, HTU3.out, by have := HG3.out; rwa [show nl (n + n) (scK m iv0 x1 0) = nl (n + n) x1 from nl_congr fun k _ => by unfold scK; rw [if_neg (by omega)]]⟩
  case round =>
    obtain ⟨k, hk, rfl, HTU, HGK⟩ := hrel
    obtain ⟨w4, rfl⟩ : ∃ x, x = wr := ⟨wr, rfl⟩
    by_cases hlt : k < n + n
    · have hcg := HGK.out.cell k
      rw [iv_at hlt, show scK m iv0 x1 k k = x1 k by unfold scK; rw [if_neg (by omega)]] at hcg
      have hfr := HGK.out.free k
      have HT4 := hideIt (HT.out.turned HTU.out (by have := HLO.out; omega))
      have HMU := hideIt (fmul_is (w := w4) HT4.out HVC.out.fm HIVL.out (HXV.out k) 0)
      have HNX := hideIt (scK_next m iv0 x1 k)
      have hinc := inc_c 3 k (by omega)
      have hki : (k : Int) < ((n + n : Nat) : Int) := by omega
      obtain ⟨y, hy⟩ : ∃ y, y = mul m iv0 (x1 k) := ⟨_, rfl⟩
      rw [← hy] at HMU HNX
      generalize x1 k = z at *
      clear hy HT4
      go_wp2_with (first
        | (go_at_call 102; refine HMU.out.mono ?_; rintro e w5 ⟨rfl, k5, rfl⟩))
      go_roundg (gk - 1)
      case measure => omega
      case rel =>
        refine ⟨k + 1, by omega, by go_num, (HTU.out.trans (Turned.drewN g w4 k5)).trans (Turned.set g _ k _), ?_⟩
        have hs := Blk.store (w := w4.drewN k5) (show Blk (w4.drewN k5) g 3 ((nl (n + n) (scK m iv0 x1 k)).map iv) from HGK.out) k (.int .i64 (y : Int))
        rw [set_nl _ k _ hlt, HNX.out] at hs
        exact hs
    · have hki : ¬ (k : Int) < ((n + n : Nat) : Int) := by omega
      have hke : k = n + n := by omega
      have HG5 := hideIt (show Blk w4 g 3 ((nl (n + n) (newR m n r B.length c)).map iv) by
        have := HGK.out
        rwa [show nl (n + n) (scK m iv0 x1 k) = nl (n + n) (newR m n r B.length c) from nl_congr fun j hj => by rw [HF0.out j]; unfold scK; rw [if_pos (by omega)]] at this)
      have HBO := hideIt (HB.out.turned HTU.out HLO.out.2.1 HG.out HU.out HPV.out HGS.out)
      have HBX5 := hideIt (HTU.out.blk HBX.out HGP.out)
      have HBL := hideIt (HTU.out.below (Below.refl base w) HLO.out.2.1)
      obtain ⟨vU, hvU⟩ : ∃ v, v = (.slice uA B.length uc : Value) := ⟨_, rfl⟩
      rw [← hvU] at HBO HBX5 HU
      generalize newR m n r B.length c = f at *
      have hown : ∀ i, i < 6 → w4.ownsRow base (T6 i) 1 (V6 vU vR vP (.slice none 0 0) (.slice none 0 0) (.slice none 0 0) i) (V6 B.length B.length B.length 0 0 0 i) (V6 (pvC B) (rowsV n gs B.length) (pvC pv) [] [] [] i) := six HBO.out.uni HBO.out.row HBO.out.piv (World.ownsRow_nil _ _ _ _) (World.ownsRow_nil _ _ _ _) (World.ownsRow_nil _ _ _ _)
      have hap : ∀ i j, i < 6 → j < 6 → i ≠ j → Apart (V6 vU vR vP (.slice none 0 0) (.slice none 0 0) (.slice none 0 0) i) (V6 vU vR vP (.slice none 0 0) (.slice none 0 0) (.slice none 0 0) j) := by
        intro i j hi hj hne
        have e1 := own_apart2 HBO.out.uni HBO.out.row (by decide)
        have e2 := own_apart2 HBO.out.row HBO.out.piv (by decide)
        have e3 := HBO.out.ap
        have en : ∀ v : Value, Apart v (.slice none 0 0) := fun v k _ h => by cases h
        have en2 : ∀ v : Value, Apart (.slice none 0 0) v := fun v k h _ => by cases h
        revert hne
        match i, hi, j, hj with
        | 0, _, 0, _ => exact fun h => absurd rfl h
        | 0, _, 1, _ => exact fun _ => e1
        | 0, _, 2, _ => exact fun _ => e3
        | 0, _, 3, _ => exact fun _ => en _
        | 0, _, 4, _ => exact fun _ => en _
        | 0, _, 5, _ => exact fun _ => en _
        | 1, _, 0, _ => exact fun _ => e1.symm
        | 1, _, 1, _ => exact fun h => absurd rfl h
        | 1, _, 2, _ => exact fun _ => e2
        | 1, _, 3, _ => exact fun _ => en _
        | 1, _, 4, _ => exact fun _ => en _
        | 1, _, 5, _ => exact fun _ => en _
        | 2, _, 0, _ => exact fun _ => e3.symm
        | 2, _, 1, _ => exact fun _ => e2.symm
        | 2, _, 2, _ => exact fun h => absurd rfl h
        | 2, _, 3, _ => exact fun _ => en _
        | 2, _, 4, _ => exact fun _ => en _
        | 2, _, 5, _ => exact fun _ => en _
        | 3, _, 0, _ => exact fun _ => en2 _
        | 3, _, 1, _ => exact fun _ => en2 _
        | 3, _, 2, _ => exact fun _ => en2 _
        | 3, _, 3, _ => exact fun h => absurd rfl h
        | 3, _, 4, _ => exact fun _ => en2 _
        | 3, _, 5, _ => exact fun _ => en2 _
        | 4, _, 0, _ => exact fun _ => en2 _
        | 4, _, 1, _ => exact fun _ => en2 _
        | 4, _, 2, _ => exact fun _ => en2 _
        | 4, _, 3, _ => exact fun _ => en2 _
        | 4, _, 4, _ => exact fun h => absurd rfl h
        | 4, _, 5, _ => exact fun _ => en2 _
        | 5, _, 0, _ => exact fun _ => en2 _
        | 5, _, 1, _ => exact fun _ => en2 _
        | 5, _, 2, _ => exact fun _ => en2 _
        | 5, _, 3, _ => exact fun _ => en2 _
        | 5, _, 4, _ => exact fun _ => en2 _
        | 5, _, 5, _ => exact fun h => absurd rfl h
      have hrows : ∀ i, i < B.length + 1 → Blk w4 (upd gs B.length g i) 3 ((fun i => (nl (n + n) (addQ Q B.length f i)).map iv) i) := by
        intro i hi
        by_cases e : i = B.length
        · subst e
          simp only [upd, addQ, if_true]
          exact HG5.out
        · have e2 : upd gs B.length g i = gs i := by unfold upd; rw [if_neg e]
          have e3 : addQ Q B.length f i = Q i := by unfold addQ; rw [if_neg e]
          show Blk _ _ _ ((nl (n + n) (addQ Q B.length f i)).map iv)
          rw [e2, e3]; exact (HBO.out.dat i (by omega)).1
      have hfree : ∀ i r, i < B.length + 1 → r < 6 → (V6 vU vR vP (.slice none 0 0) (.slice none 0 0) (.slice none 0 0) r).ownBlock ≠ some (upd gs B.length g i) := by
        intro i r hi hr
        by_cases e : i = B.length
        · subst e
          rw [show upd gs B.length g B.length = g by simp [upd]]
          revert r
          refine six HU.out ?_ HPV.out (fun h => by cases h) (fun h => by cases h) (fun h => by cases h)
          intro h
          exact own_ne HBO.out.row HG5.out (by decide) h.symm
        · rw [show upd gs B.length g i = gs i by unfold upd; rw [if_neg e]]
          have hd := HBO.out.dat i (by omega)
          revert r
          refine six hd.2.2.1 ?_ hd.2.2.2 (fun h => by cases h) (fun h => by cases h) (fun h => by cases h)
          intro h
          exact own_ne HBO.out.row hd.1 (by decide) h.symm
      have HE : Hid (ES w (B.length + 1) base pb (baC (m : Int) ((n + x.par.length : Nat) : Int) (n : Int) (.slice gA ((n + x.par.length) * n) gc) vU vR vP) (upd gs B.length g) (fun i => (nl (n + n) (addQ Q B.length f i)).map iv) w4 _ _ _) := hideIt ⟨⟨hown, hap⟩, HBX5.out, hrows, hfree, Nat.le_trans HLO.out.2.2.1 (by rw [HTU.out.size]; exact Nat.le_refl _), HBL.out⟩
      clear hown hap hrows hfree
      have HF : Hid (∀ W A1 k1 A2 k2 A3 k3 l3 l4 l5, ES w (B.length + 1) base pb (baC (m : Int) ((n + x.par.length : Nat) : Int) (n : Int) (.slice gA ((n + x.par.length) * n) gc) vU vR vP) (upd gs B.length g) (fun i => (nl (n + n) (addQ Q B.length f i)).map iv) W (V6 (.slice A1 (B.length + 1) k1) (.slice A2 (B.length + 1) k2) (.slice A3 (B.length + 1) k3) l3 l4 l5) (V6 (B.length + 1) (B.length + 1) (B.length + 1) 1 1 1) (V6 (pvC B ++ [.int .i64 (u : Int)]) (rowsV n gs B.length ++ [.slice (some ⟨g, 0, none⟩) (n + n) (n + n)]) (pvC pv ++ [.int .i64 (c : Int)]) [.int .i64 (u : Int)] [.slice (some ⟨g, 0, none⟩) (n + n) (n + n)] [.int .i64 (c : Int)]) → ExtPost base x m n B pv Q gA gc gs pb u c g f w (.returned (.tuple #[])) (((W.setCell ⟨pb, 4, none⟩ (.slice A1 (B.length + 1) k1)).setCell ⟨pb, 5, none⟩ (.slice A2 (B.length + 1) k2)).setCell ⟨pb, 6, none⟩ (.slice A3 (B.length + 1) k3))) := hideIt (fun W A1 k1 A2 k2 A3 k3 l3 l4 l5 hE => by
        have hl : (B ++ [u]).length = B.length + 1 := by simp
        have ht : Turned pb W (((W.setCell ⟨pb, 4, none⟩ (.slice A1 (B.length + 1) k1)).setCell ⟨pb, 5, none⟩ (.slice A2 (B.length + 1) k2)).setCell ⟨pb, 6, none⟩ (.slice A3 (B.length + 1) k3)) := ((Turned.set pb W 4 _).trans (Turned.set pb _ 5 _)).trans (Turned.set pb _ 6 _)
        have hgen : Sl W base gA 1 ((n + x.par.length) * n) ((genK x x.par.length).map iv) := HB.out.gen.below hE.low
        refine ⟨rfl, _, _, _, ⟨hgen.below (ht.below (Below.refl _ _) HLO.out.1), ?_, ?_, ?_, hE.rn.apart 0 2 (by decide) (by decide) (by decide), fun i hi => ?_⟩, ((hE.box.store 4 _).store 5 _).store 6 _, ht.below hE.low HLO.out.1⟩
        · rw [hl, pvC_snoc]; exact own_turned (hE.rn.own 0 (by decide)) hE.box (by decide) ht
        · rw [hl, rowsV_snoc]; exact own_turned (hE.rn.own 1 (by decide)) hE.box (by decide) ht
        · rw [hl, pvC_snoc]; exact own_turned (hE.rn.own 2 (by decide)) hE.box (by decide) ht
        · rw [hl] at hi
          refine ⟨ht.blk (hE.rows i hi) ?_, ?_, hE.free i 0 hi (by decide), hE.free i 2 hi (by decide)⟩
          · intro e
            have hb := hE.rows i hi
            rw [e] at hb
            have hx := hE.box
            unfold Blk at hb hx
            rw [hx] at hb
            injection hb with hb
            injection hb with _ hb _
            exact absurd hb (by decide)
          · unfold upd
            split
            · exact HLO.out.2.1
            · exact (HB.out.dat i (by omega)).2.1)
      have HC : Hid (∀ W, Blk W pb 100 (baC (m : Int) ((n + x.par.length : Nat) : Int) (n : Int) (.slice gA ((n + x.par.length) * n) gc) vU vR vP) → W.cell? ⟨pb, 4, none⟩ = some vU ∧ W.cell? ⟨pb, 5, none⟩ = some vR ∧ W.cell? ⟨pb, 6, none⟩ = some vP ∧ W.frozen? ⟨pb, 4, none⟩ = false ∧ W.frozen? ⟨pb, 5, none⟩ = false ∧ W.frozen? ⟨pb, 6, none⟩ = false) := hideIt (fun W hb => ⟨hb.cell 4, hb.cell 5, hb.cell 6, hb.free 4, hb.free 5, hb.free 6⟩)
      have HQ : Hid (∀ bb W, Blk W pb 100 (baC (m : Int) ((n + x.par.length : Nat) : Int) (n : Int) (.slice gA ((n + x.par.length) * n) gc) vU vR vP) → Hooks [(9, fun W => W.cell? ⟨pb, 4, none⟩ = some vU), (16, fun W => W.cell? ⟨pb, 5, none⟩ = some vR), (23, fun W => W.cell? ⟨pb, 6, none⟩ = some vP)] bb W) := hideIt (fun bb W hb => Hooks.add (hb.cell 4) (Hooks.add (hb.cell 5) (Hooks.add (hb.cell 6) (Hooks.nil _ _))))
      obtain ⟨c4, c5, c6, _, _, _⟩ := HC.out w4 HBX5.out
      have hB31 : B.length < 32 := by omega
      clear HG5 HBO HBX5 HBL HGK HTU HTU3 HG3
      go_wp2_with fail
      refine loads_begin_n 33 [(9, fun W => W.cell? ⟨pb, 4, none⟩ = some vU), (16, fun W => W.cell? ⟨pb, 5, none⟩ = some vR), (23, fun W => W.cell? ⟨pb, 6, none⟩ = some vP)] rfl (by kernel_rfl) ?_
      refine wpAnyL_move (oi := ⟨some 58, _, _, _, _, _⟩) 0 ?_ rfl (by kernel_rfl) (by kernel_rfl) (by kernel_rfl) (by kernel_rfl) (fun _ _ _ h => h) (by kernel_rfl) ?_ ((Hooks.add c4 (Hooks.add c5 (Hooks.add c6 (Hooks.nil _ _))))) ?_
      rotate_left
      · intro W'; go_simp; first | done | with_reducible rfl
      try simp only [Act.put]
      try simp only [List.setIfInBounds_toArray]
      try simp only [List.set_cons_succ]
      try simp only [List.set_cons_zero]
      refine wpAnyL_move (oi := ⟨some 59, _, _, _, _, _⟩) 1 ?_ rfl (by kernel_rfl) (by kernel_rfl) (by kernel_rfl) (by kernel_rfl) (fun _ _ _ h => h) (by kernel_rfl) ?_ ((Hooks.add c4 (Hooks.add c5 (Hooks.add c6 (Hooks.nil _ _))))) ?_
      rotate_left
      · intro W'; go_simp; first | done | with_reducible rfl
      try simp only [Act.put]
      try simp only [List.setIfInBounds_toArray]
      try simp only [List.set_cons_succ]
      try simp only [List.set_cons_zero]
      refine wpAnyL_move (oi := ⟨some 60, _, _, _, _, _⟩) 2 ?_ rfl (by kernel_rfl) (by kernel_rfl) (by kernel_rfl) (by kernel_rfl) (fun _ _ _ h => h) (by kernel_rfl) ?_ ((Hooks.add c4 (Hooks.add c5 (Hooks.add c6 (Hooks.nil _ _))))) ?_
      rotate_left
      · intro W'; go_simp; first | done | with_reducible rfl
      try simp only [Act.put]
      try simp only [List.setIfInBounds_toArray]
      try simp only [List.set_cons_succ]
      try simp only [List.set_cons_zero]
      refine wpAnyL_move (oi := ⟨some 61, _, _, _, _, _⟩) 3 ?_ rfl (by kernel_rfl) (by kernel_rfl) (by kernel_rfl) (by kernel_rfl) (fun _ _ _ h => h) (by kernel_rfl) ?_ ((Hooks.add c4 (Hooks.add c5 (Hooks.add c6 (Hooks.nil _ _))))) ?_
      rotate_left
      · intro W'; go_simp; first | done | with_reducible rfl
      try simp only [Act.put]
      try simp only [List.setIfInBounds_toArray]
      try simp only [List.set_cons_succ]
      try simp only [List.set_cons_zero]
      refine wpAnyL_move (oi := ⟨some 62, _, _, _, _, _⟩) 4 ?_ rfl (by kernel_rfl) (by kernel_rfl) (by kernel_rfl) (by kernel_rfl) (fun _ _ _ h => h) (by kernel_rfl) ?_ ((Hooks.add c4 (Hooks.add c5 (Hooks.add c6 (Hooks.nil _ _))))) ?_
      rotate_left
      · intro W'; go_simp; first | done | with_reducible rfl
      try simp only [Act.put]
      try simp only [List.setIfInBounds_toArray]
      try simp only [List.set_cons_succ]
      try simp only [List.set_cons_zero]
      refine wpAnyL_move (oi := ⟨some 63, _, _, _, _, _⟩) 5 ?_ rfl (by kernel_rfl) (by kernel_rfl) (by kernel_rfl) (by kernel_rfl) (fun _ _ _ h => h) (by kernel_rfl) ?_ ((Hooks.add c4 (Hooks.add c5 (Hooks.add c6 (Hooks.nil _ _))))) ?_
      rotate_left
      · intro W'; go_simp; first | done | with_reducible rfl
      try simp only [Act.put]
      try simp only [List.setIfInBounds_toArray]
      try simp only [List.set_cons_succ]
      try simp only [List.set_cons_zero]
      refine wpAnyL_take (oi := ⟨some 64, _, _, _, _, _⟩) 6 9 vU _ rfl (by kernel_rfl) (by kernel_rfl) (by kernel_rfl) (by kernel_rfl) (by kernel_rfl) (by kernel_rfl) (.head _) (fun _ _ _ h => h) (by kernel_rfl) (fun W' hW' => by (try dsimp only at hW'); go_simp) (Hooks.add c4 (Hooks.add c5 (Hooks.add c6 (Hooks.nil _ _)))) ?_
      try simp only [Act.put]
      try simp only [List.setIfInBounds_toArray]
      try simp only [List.set_cons_succ]
      try simp only [List.set_cons_zero]
      refine wpAnyL_move (oi := ⟨some 65, _, _, _, _, _⟩) 7 ?_ rfl (by kernel_rfl) (by kernel_rfl) (by kernel_rfl) (by kernel_rfl) (fun _ _ _ h => h) (by kernel_rfl) ?_ ((Hooks.add c4 (Hooks.add c5 (Hooks.add c6 (Hooks.nil _ _))))) ?_
      rotate_left
      · intro W'; go_simp; first | done | with_reducible rfl
      try simp only [Act.put]
      try simp only [List.setIfInBounds_toArray]
      try simp only [List.set_cons_succ]
      try simp only [List.set_cons_zero]
      refine wpAnyL_move (oi := ⟨some 68, _, _, _, _, _⟩) 10 ?_ rfl (by kernel_rfl) (by kernel_rfl) (by kernel_rfl) (by kernel_rfl) (fun _ _ _ h => h) (by kernel_rfl) ?_ ((Hooks.add c4 (Hooks.add c5 (Hooks.add c6 (Hooks.nil _ _))))) ?_
      rotate_left
      · intro W'; go_simp; first | done | with_reducible rfl
      try simp only [Act.put]
      try simp only [List.setIfInBounds_toArray]
      try simp only [List.set_cons_succ]
      try simp only [List.set_cons_zero]
      refine wpAnyL_move (oi := ⟨some 69, _, _, _, _, _⟩) 11 ?_ rfl (by kernel_rfl) (by kernel_rfl) (by kernel_rfl) (by kernel_rfl) (fun _ _ _ h => h) (by kernel_rfl) ?_ ((Hooks.add c4 (Hooks.add c5 (Hooks.add c6 (Hooks.nil _ _))))) ?_
      rotate_left
      · intro W'; go_simp; first | done | with_reducible rfl
      try simp only [Act.put]
      try simp only [List.setIfInBounds_toArray]
      try simp only [List.set_cons_succ]
      try simp only [List.set_cons_zero]
      refine wpAnyL_move (oi := ⟨some 70, _, _, _, _, _⟩) 12 ?_ rfl (by kernel_rfl) (by kernel_rfl) (by kernel_rfl) (by kernel_rfl) (fun _ _ _ h => h) (by kernel_rfl) ?_ ((Hooks.add c4 (Hooks.add c5 (Hooks.add c6 (Hooks.nil _ _))))) ?_
      rotate_left
      · intro W'; go_simp; first | done | with_reducible rfl
      try simp only [Act.put]
      try simp only [List.setIfInBounds_toArray]
      try simp only [List.set_cons_succ]
      try simp only [List.set_cons_zero]
      refine wpAnyL_take (oi := ⟨some 71, _, _, _, _, _⟩) 13 16 vR _ rfl (by kernel_rfl) (by kernel_rfl) (by kernel_rfl) (by kernel_rfl) (by kernel_rfl) (by kernel_rfl) (.tail _ (.head _)) (fun _ _ _ h => h) (by kernel_rfl) (fun W' hW' => by (try dsimp only at hW'); go_simp) (Hooks.add c4 (Hooks.add c5 (Hooks.add c6 (Hooks.nil _ _)))) ?_
      try simp only [Act.put]
      try simp only [List.setIfInBounds_toArray]
      try simp only [List.set_cons_succ]
      try simp only [List.set_cons_zero]
      refine wpAnyL_move (oi := ⟨some 72, _, _, _, _, _⟩) 14 ?_ rfl (by kernel_rfl) (by kernel_rfl) (by kernel_rfl) (by kernel_rfl) (fun _ _ _ h => h) (by kernel_rfl) ?_ ((Hooks.add c4 (Hooks.add c5 (Hooks.add c6 (Hooks.nil _ _))))) ?_
      rotate_left
      · intro W'; go_simp; first | done | with_reducible rfl
      try simp only [Act.put]
      try simp only [List.setIfInBounds_toArray]
      try simp only [List.set_cons_succ]
      try simp only [List.set_cons_zero]
      refine wpAnyL_move (oi := ⟨some 75, _, _, _, _, _⟩) 17 ?_ rfl (by kernel_rfl) (by kernel_rfl) (by kernel_rfl) (by kernel_rfl) (fun _ _ _ h => h) (by kernel_rfl) ?_ ((Hooks.add c4 (Hooks.add c5 (Hooks.add c6 (Hooks.nil _ _))))) ?_
      rotate_left
      · intro W'; go_simp; first | done | with_reducible rfl
      try simp only [Act.put]
      try simp only [List.setIfInBounds_toArray]
      try simp only [List.set_cons_succ]
      try simp only [List.set_cons_zero]
      refine wpAnyL_move (oi := ⟨some 76, _, _, _, _, _⟩) 18 ?_ rfl (by kernel_rfl) (by kernel_rfl) (by kernel_rfl) (by kernel_rfl) (fun _ _ _ h => h) (by kernel_rfl) ?_ ((Hooks.add c4 (Hooks.add c5 (Hooks.add c6 (Hooks.nil _ _))))) ?_
      rotate_left
      · intro W'; go_simp; first | done | with_reducible rfl
      try simp only [Act.put]
      try simp only [List.setIfInBounds_toArray]
      try simp only [List.set_cons_succ]
      try simp only [List.set_cons_zero]
      refine wpAnyL_move (oi := ⟨some 77, _, _, _, _, _⟩) 19 ?_ rfl (by kernel_rfl) (by kernel_rfl) (by kernel_rfl) (by kernel_rfl) (fun _ _ _ h => h) (by kernel_rfl) ?_ ((Hooks.add c4 (Hooks.add c5 (Hooks.add c6 (Hooks.nil _ _))))) ?_
      rotate_left
      · intro W'; go_simp; first | done | with_reducible rfl
      try simp only [Act.put]
      try simp only [List.setIfInBounds_toArray]
      try simp only [List.set_cons_succ]
      try simp only [List.set_cons_zero]
      refine wpAnyL_take (oi := ⟨some 78, _, _, _, _, _⟩) 20 23 vP _ rfl (by kernel_rfl) (by kernel_rfl) (by kernel_rfl) (by kernel_rfl) (by kernel_rfl) (by kernel_rfl) (.tail _ (.tail _ (.head _))) (fun _ _ _ h => h) (by kernel_rfl) (fun W' hW' => by (try dsimp only at hW'); go_simp) (Hooks.add c4 (Hooks.add c5 (Hooks.add c6 (Hooks.nil _ _)))) ?_
      try simp only [Act.put]
      try simp only [List.setIfInBounds_toArray]
      try simp only [List.set_cons_succ]
      try simp only [List.set_cons_zero]
      refine wpAnyL_move (oi := ⟨some 79, _, _, _, _, _⟩) 21 ?_ rfl (by kernel_rfl) (by kernel_rfl) (by kernel_rfl) (by kernel_rfl) (fun _ _ _ h => h) (by kernel_rfl) ?_ ((Hooks.add c4 (Hooks.add c5 (Hooks.add c6 (Hooks.nil _ _))))) ?_
      rotate_left
      · intro W'; go_simp; first | done | with_reducible rfl
      try simp only [Act.put]
      try simp only [List.setIfInBounds_toArray]
      try simp only [List.set_cons_succ]
      try simp only [List.set_cons_zero]
      obtain ⟨w9, hw9⟩ : ∃ W, W = w4.drew := ⟨_, rfl⟩
      have HE2 := hideIt (show ES w (B.length + 1) base pb (baC (m : Int) ((n + x.par.length : Nat) : Int) (n : Int) (.slice gA ((n + x.par.length) * n) gc) vU vR vP) (upd gs B.length g) (fun i => (nl (n + n) (addQ Q B.length f i)).map iv) w9 _ _ _ by rw [hw9]; exact HE.out.drew)
      rw [← hw9]
      clear HE hw9 c4 c5 c6
      have HE := HE2
      clear HE2
      refine wpAnyL_three (oi := ⟨some 66, _, _, _, _, _⟩) (oj := ⟨some 73, _, _, _, _, _⟩) (ok := ⟨some 80, _, _, _, _, _⟩) 8 15 22 (by kernel_rfl) rfl rfl rfl (fun K hK => ?_) (fun K hK => ?_) (fun K hK => ?_)
      · go_wp2_with fail
        have HE2 := hideIt (show ES _ _ _ _ _ _ _ (w9.alloc (.cells #[.int .i64 (u : Int)] 3)) _ _ _ from (HE.out.lit 3 (by decide) (.int .i64 (u : Int))).to (vs' := V6 (vU) (vR) (vP) (.slice (some ⟨w9.heap.size, 0, none⟩) 1 1) (.slice none 0 0) (.slice none 0 0)) (ks' := V6 (B.length) (B.length) (B.length) (1) (0) (0)) (ls' := V6 (pvC B) (rowsV n gs B.length) (pvC pv) ([.int .i64 (u : Int)]) ([]) ([])) (six rfl rfl rfl rfl rfl rfl) (six rfl rfl rfl rfl rfl rfl) (six rfl rfl rfl rfl rfl rfl))
        clear HE
        obtain ⟨w21, hw21⟩ : ∃ W, W = w9.alloc (.cells #[.int .i64 (u : Int)] 3) := ⟨_, rfl⟩
        obtain ⟨b21, hb21⟩ : ∃ b, b = w9.heap.size := ⟨_, rfl⟩
        rw [← hw21, ← hb21] at HE2
        rw [← hw21, ← hb21]
        have HE := HE2
        clear HE2 hw21 hb21
        refine hK _ _ (HQ.out _ _ HE.out.box) ?_
        clear hK K
        refine wpAnyL_three (oi := ⟨some 67, _, _, _, _, _⟩) (oj := ⟨some 73, _, _, _, _, _⟩) (ok := ⟨some 80, _, _, _, _, _⟩) 9 15 22 (by kernel_rfl) rfl rfl rfl (fun K hK => ?_) (fun K hK => ?_) (fun K hK => ?_)
        · go_wp2_with ((with_reducible refine at_append ?_); refine wpList_apG (z := .int .i64 0) (size := 1) (bytes := 8) (n := B.length) (m := 1) (news := [.int .i64 (u : Int)]) (xs := pvC B) (ad := ⟨b21, 0, none⟩) Tryd.underlying36 (by kernel_rfl) rfl (by decide) (by decide) rfl (.tmp 64) (.tmp 66) rfl rfl (HE.out.rn.own 0 (by decide)) rfl rfl ((HE.out.rn.own 3 (by decide)).cells (g := b21) rfl) (ones_one rfl) (by omega) HE.out.sz ?_; intro v9 w22 HO9 HG9 HA9 HB9)
          obtain ⟨A22, k22, e9, _, _⟩ := own_form HO9.out
          subst e9
          have HE2 := hideIt ((HE.out.step 0 (by decide) HG9.out HO9.out HA9.out).to (vs' := V6 (.slice A22 (B.length + 1) k22) (vR) (vP) (.slice (some ⟨b21, 0, none⟩) 1 1) (.slice none 0 0) (.slice none 0 0)) (ks' := V6 (B.length + 1) (B.length) (B.length) (1) (0) (0)) (ls' := V6 (pvC B ++ [.int .i64 (u : Int)]) (rowsV n gs B.length) (pvC pv) ([.int .i64 (u : Int)]) ([]) ([])) (six rfl rfl rfl rfl rfl rfl) (six rfl rfl rfl rfl rfl rfl) (six rfl rfl rfl rfl rfl rfl))
          clear HE HO9 HG9 HA9 HB9
          have HE := HE2
          clear HE2
          refine hK _ _ (HQ.out _ _ HE.out.box) ?_
          clear hK K
          refine wpAnyL_two (oi := ⟨some 73, _, _, _, _, _⟩) (oj := ⟨some 80, _, _, _, _, _⟩) 15 22 (by kernel_rfl) rfl rfl (fun K hK => ?_) (fun K hK => ?_)
          · go_wp2_with fail
            have HE2 := hideIt (show ES _ _ _ _ _ _ _ (w22.alloc (.cells #[.slice (some ⟨g, 0, none⟩) (n + n) (n + n)] 36)) _ _ _ from (HE.out.lit 4 (by decide) (.slice (some ⟨g, 0, none⟩) (n + n) (n + n))).to (vs' := V6 (.slice A22 (B.length + 1) k22) (vR) (vP) (.slice (some ⟨b21, 0, none⟩) 1 1) (.slice (some ⟨w22.heap.size, 0, none⟩) 1 1) (.slice none 0 0)) (ks' := V6 (B.length + 1) (B.length) (B.length) (1) (1) (0)) (ls' := V6 (pvC B ++ [.int .i64 (u : Int)]) (rowsV n gs B.length) (pvC pv) ([.int .i64 (u : Int)]) ([.slice (some ⟨g, 0, none⟩) (n + n) (n + n)]) ([])) (six rfl rfl rfl rfl rfl rfl) (six rfl rfl rfl rfl rfl rfl) (six rfl rfl rfl rfl rfl rfl))
            clear HE
            obtain ⟨w23, hw23⟩ : ∃ W, W = w22.alloc (.cells #[.slice (some ⟨g, 0, none⟩) (n + n) (n + n)] 36) := ⟨_, rfl⟩
            obtain ⟨b23, hb23⟩ : ∃ b, b = w22.heap.size := ⟨_, rfl⟩
            rw [← hw23, ← hb23] at HE2
            rw [← hw23, ← hb23]
            have HE := HE2
            clear HE2 hw23 hb23
            refine hK _ _ (HQ.out _ _ HE.out.box) ?_
            clear hK K
            refine wpAnyL_two (oi := ⟨some 74, _, _, _, _, _⟩) (oj := ⟨some 80, _, _, _, _, _⟩) 16 22 (by kernel_rfl) rfl rfl (fun K hK => ?_) (fun K hK => ?_)
            · go_wp2_with ((with_reducible refine at_append ?_); refine wpList_apG (z := .slice none 0 0) (size := 1) (bytes := 24) (n := B.length) (m := 1) (news := [.slice (some ⟨g, 0, none⟩) (n + n) (n + n)]) (xs := rowsV n gs B.length) (ad := ⟨b23, 0, none⟩) Tryd.underlying22 (by kernel_rfl) rfl (by decide) (by decide) rfl (.tmp 71) (.tmp 73) rfl rfl (HE.out.rn.own 1 (by decide)) rfl rfl ((HE.out.rn.own 4 (by decide)).cells (g := b23) rfl) (ones_one rfl) (by omega) HE.out.sz ?_; intro v9 w24 HO9 HG9 HA9 HB9)
              obtain ⟨A24, k24, e9, _, _⟩ := own_form HO9.out
              subst e9
              have HE2 := hideIt ((HE.out.step 1 (by decide) HG9.out HO9.out HA9.out).to (vs' := V6 (.slice A22 (B.length + 1) k22) (.slice A24 (B.length + 1) k24) (vP) (.slice (some ⟨b21, 0, none⟩) 1 1) (.slice (some ⟨b23, 0, none⟩) 1 1) (.slice none 0 0)) (ks' := V6 (B.length + 1) (B.length + 1) (B.length) (1) (1) (0)) (ls' := V6 (pvC B ++ [.int .i64 (u : Int)]) (rowsV n gs B.length ++ [.slice (some ⟨g, 0, none⟩) (n + n) (n + n)]) (pvC pv) ([.int .i64 (u : Int)]) ([.slice (some ⟨g, 0, none⟩) (n + n) (n + n)]) ([])) (six rfl rfl rfl rfl rfl rfl) (six rfl rfl rfl rfl rfl rfl) (six rfl rfl rfl rfl rfl rfl))
              clear HE HO9 HG9 HA9 HB9
              have HE := HE2
              clear HE2
              refine hK _ _ (HQ.out _ _ HE.out.box) ?_
              clear hK K
              refine wpAnyL_one (o := ⟨some 80, _, _, _, _, _⟩) 22 (by kernel_rfl) rfl (fun K hK => ?_)
              go_wp2_with fail
              have HE2 := hideIt (show ES _ _ _ _ _ _ _ (w24.alloc (.cells #[.int .i64 (c : Int)] 3)) _ _ _ from (HE.out.lit 5 (by decide) (.int .i64 (c : Int))).to (vs' := V6 (.slice A22 (B.length + 1) k22) (.slice A24 (B.length + 1) k24) (vP) (.slice (some ⟨b21, 0, none⟩) 1 1) (.slice (some ⟨b23, 0, none⟩) 1 1) (.slice (some ⟨w24.heap.size, 0, none⟩) 1 1)) (ks' := V6 (B.length + 1) (B.length + 1) (B.length) (1) (1) (1)) (ls' := V6 (pvC B ++ [.int .i64 (u : Int)]) (rowsV n gs B.length ++ [.slice (some ⟨g, 0, none⟩) (n + n) (n + n)]) (pvC pv) ([.int .i64 (u : Int)]) ([.slice (some ⟨g, 0, none⟩) (n + n) (n + n)]) ([.int .i64 (c : Int)])) (six rfl rfl rfl rfl rfl rfl) (six rfl rfl rfl rfl rfl rfl) (six rfl rfl rfl rfl rfl rfl))
              clear HE
              obtain ⟨w25, hw25⟩ : ∃ W, W = w24.alloc (.cells #[.int .i64 (c : Int)] 3) := ⟨_, rfl⟩
              obtain ⟨b25, hb25⟩ : ∃ b, b = w24.heap.size := ⟨_, rfl⟩
              rw [← hw25, ← hb25] at HE2
              rw [← hw25, ← hb25]
              have HE := HE2
              clear HE2 hw25 hb25
              refine hK _ _ (HQ.out _ _ HE.out.box) ?_
              clear hK K
              refine wpAnyL_one (o := ⟨some 81, _, _, _, _, _⟩) 23 (by kernel_rfl) rfl (fun K hK => ?_)
              go_wp2_with ((with_reducible refine at_append ?_); refine wpList_apG (z := .int .i64 0) (size := 1) (bytes := 8) (n := B.length) (m := 1) (news := [.int .i64 (c : Int)]) (xs := pvC pv) (ad := ⟨b25, 0, none⟩) Tryd.underlying36 (by kernel_rfl) rfl (by decide) (by decide) rfl (.tmp 78) (.tmp 80) rfl rfl (HE.out.rn.own 2 (by decide)) rfl rfl ((HE.out.rn.own 5 (by decide)).cells (g := b25) rfl) (ones_one rfl) (by omega) HE.out.sz ?_; intro v9 w26 HO9 HG9 HA9 HB9)
              obtain ⟨A26, k26, e9, _, _⟩ := own_form HO9.out
              subst e9
              have HE2 := hideIt ((HE.out.step 2 (by decide) HG9.out HO9.out HA9.out).to (vs' := V6 (.slice A22 (B.length + 1) k22) (.slice A24 (B.length + 1) k24) (.slice A26 (B.length + 1) k26) (.slice (some ⟨b21, 0, none⟩) 1 1) (.slice (some ⟨b23, 0, none⟩) 1 1) (.slice (some ⟨b25, 0, none⟩) 1 1)) (ks' := V6 (B.length + 1) (B.length + 1) (B.length + 1) (1) (1) (1)) (ls' := V6 (pvC B ++ [.int .i64 (u : Int)]) (rowsV n gs B.length ++ [.slice (some ⟨g, 0, none⟩) (n + n) (n + n)]) (pvC pv ++ [.int .i64 (c : Int)]) ([.int .i64 (u : Int)]) ([.slice (some ⟨g, 0, none⟩) (n + n) (n + n)]) ([.int .i64 (c : Int)])) (six rfl rfl rfl rfl rfl rfl) (six rfl rfl rfl rfl rfl rfl) (six rfl rfl rfl rfl rfl rfl))
              clear HE HO9 HG9 HA9 HB9
              have HE := HE2
              clear HE2
              refine hK _ _ (HQ.out _ _ HE.out.box) ?_
              clear hK K
              refine loads_tail 24 (by kernel_rfl) (by kernel_rfl) (by kernel_rfl) (by kernel_rfl) ?_
              simp only [List.drop_succ_cons, List.drop_zero]
              obtain ⟨e4, e5, e6, f4, f5, f6⟩ := HC.out w26 HE.out.box
              go_wp2_with fail
              go_end0
              exact HF.out _ _ _ _ _ _ _ _ _ _ HE.out
            · go_wp2_with fail
              have HE2 := hideIt (show ES _ _ _ _ _ _ _ (w23.alloc (.cells #[.int .i64 (c : Int)] 3)) _ _ _ from (HE.out.lit 5 (by decide) (.int .i64 (c : Int))).to (vs' := V6 (.slice A22 (B.length + 1) k22) (vR) (vP) (.slice (some ⟨b21, 0, none⟩) 1 1) (.slice (some ⟨b23, 0, none⟩) 1 1) (.slice (some ⟨w23.heap.size, 0, none⟩) 1 1)) (ks' := V6 (B.length + 1) (B.length) (B.length) (1) (1) (1)) (ls' := V6 (pvC B ++ [.int .i64 (u : Int)]) (rowsV n gs B.length) (pvC pv) ([.int .i64 (u : Int)]) ([.slice (some ⟨g, 0, none⟩) (n + n) (n + n)]) ([.int .i64 (c : Int)])) (six rfl rfl rfl rfl rfl rfl) (six rfl rfl rfl rfl rfl rfl) (six rfl rfl rfl rfl rfl rfl))
              clear HE
              obtain ⟨w27, hw27⟩ : ∃ W, W = w23.alloc (.cells #[.int .i64 (c : Int)] 3) := ⟨_, rfl⟩
              obtain ⟨b27, hb27⟩ : ∃ b, b = w23.heap.size := ⟨_, rfl⟩
              rw [← hw27, ← hb27] at HE2
              rw [← hw27, ← hb27]
              have HE := HE2
              clear HE2 hw27 hb27
              refine hK _ _ (HQ.out _ _ HE.out.box) ?_
              clear hK K
              refine wpAnyL_one (o := ⟨some 74, _, _, _, _, _⟩) 16 (by kernel_rfl) rfl (fun K hK => ?_)
              go_wp2_with ((with_reducible refine at_append ?_); refine wpList_apG (z := .slice none 0 0) (size := 1) (bytes := 24) (n := B.length) (m := 1) (news := [.slice (some ⟨g, 0, none⟩) (n + n) (n + n)]) (xs := rowsV n gs B.length) (ad := ⟨b23, 0, none⟩) Tryd.underlying22 (by kernel_rfl) rfl (by decide) (by decide) rfl (.tmp 71) (.tmp 73) rfl rfl (HE.out.rn.own 1 (by decide)) rfl rfl ((HE.out.rn.own 4 (by decide)).cells (g := b23) rfl) (ones_one rfl) (by omega) HE.out.sz ?_; intro v9 w28 HO9 HG9 HA9 HB9)
              obtain ⟨A28, k28, e9, _, _⟩ := own_form HO9.out
              subst e9
              have HE2 := hideIt ((HE.out.step 1 (by decide) HG9.out HO9.out HA9.out).to (vs' := V6 (.slice A22 (B.length + 1) k22) (.slice A28 (B.length + 1) k28) (vP) (.slice (some ⟨b21, 0, none⟩) 1 1) (.slice (some ⟨b23, 0, none⟩) 1 1) (.slice (some ⟨b27, 0, none⟩) 1 1)) (ks' := V6 (B.length + 1) (B.length + 1) (B.length) (1) (1) (1)) (ls' := V6 (pvC B ++ [.int .i64 (u : Int)]) (rowsV n gs B.length ++ [.slice (some ⟨g, 0, none⟩) (n + n) (n + n)]) (pvC pv) ([.int .i64 (u : Int)]) ([.slice (some ⟨g, 0, none⟩) (n + n) (n + n)]) ([.int .i64 (c : Int)])) (six rfl rfl rfl rfl rfl rfl) (six rfl rfl rfl rfl rfl rfl) (six rfl rfl rfl rfl rfl rfl))
              clear HE HO9 HG9 HA9 HB9
              have HE := HE2
              clear HE2
              refine hK _ _ (HQ.out _ _ HE.out.box) ?_
              clear hK K
              refine wpAnyL_one (o := ⟨some 81, _, _, _, _, _⟩) 23 (by kernel_rfl) rfl (fun K hK => ?_)
              go_wp2_with ((with_reducible refine at_append ?_); refine wpList_apG (z := .int .i64 0) (size := 1) (bytes := 8) (n := B.length) (m := 1) (news := [.int .i64 (c : Int)]) (xs := pvC pv) (ad := ⟨b27, 0, none⟩) Tryd.underlying36 (by kernel_rfl) rfl (by decide) (by decide) rfl (.tmp 78) (.tmp 80) rfl rfl (HE.out.rn.own 2 (by decide)) rfl rfl ((HE.out.rn.own 5 (by decide)).cells (g := b27) rfl) (ones_one rfl) (by omega) HE.out.sz ?_; intro v9 w29 HO9 HG9 HA9 HB9)
              obtain ⟨A29, k29, e9, _, _⟩ := own_form HO9.out
              subst e9
              have HE2 := hideIt ((HE.out.step 2 (by decide) HG9.out HO9.out HA9.out).to (vs' := V6 (.slice A22 (B.length + 1) k22) (.slice A28 (B.length + 1) k28) (.slice A29 (B.length + 1) k29) (.slice (some ⟨b21, 0, none⟩) 1 1) (.slice (some ⟨b23, 0, none⟩) 1 1) (.slice (some ⟨b27, 0, none⟩) 1 1)) (ks' := V6 (B.length + 1) (B.length + 1) (B.length + 1) (1) (1) (1)) (ls' := V6 (pvC B ++ [.int .i64 (u : Int)]) (rowsV n gs B.length ++ [.slice (some ⟨g, 0, none⟩) (n + n) (n + n)]) (pvC pv ++ [.int .i64 (c : Int)]) ([.int .i64 (u : Int)]) ([.slice (some ⟨g, 0, none⟩) (n + n) (n + n)]) ([.int .i64 (c : Int)])) (six rfl rfl rfl rfl rfl rfl) (six rfl rfl rfl rfl rfl rfl) (six rfl rfl rfl rfl rfl rfl))
              clear HE HO9 HG9 HA9 HB9
              have HE := HE2
              clear HE2
              refine hK _ _ (HQ.out _ _ HE.out.box) ?_
              clear hK K
              refine loads_tail 24 (by kernel_rfl) (by kernel_rfl) (by kernel_rfl) (by kernel_rfl) ?_
              simp only [List.drop_succ_cons, List.drop_zero]
              obtain ⟨e4, e5, e6, f4, f5, f6⟩ := HC.out w29 HE.out.box
              go_wp2_with fail
              go_end0
              exact HF.out _ _ _ _ _ _ _ _ _ _ HE.out
          · go_wp2_with fail
            have HE2 := hideIt (show ES _ _ _ _ _ _ _ (w22.alloc (.cells #[.int .i64 (c : Int)] 3)) _ _ _ from (HE.out.lit 5 (by decide) (.int .i64 (c : Int))).to (vs' := V6 (.slice A22 (B.length + 1) k22) (vR) (vP) (.slice (some ⟨b21, 0, none⟩) 1 1) (.slice none 0 0) (.slice (some ⟨w22.heap.size, 0, none⟩) 1 1)) (ks' := V6 (B.length + 1) (B.length) (B.length) (1) (0) (1)) (ls' := V6 (pvC B ++ [.int .i64 (u : Int)]) (rowsV n gs B.length) (pvC pv) ([.int .i64 (u : Int)]) ([]) ([.int .i64 (c : Int)])) (six rfl rfl rfl rfl rfl rfl) (six rfl rfl rfl rfl rfl rfl) (six rfl rfl rfl rfl rfl rfl))
            clear HE
            obtain ⟨w30, hw30⟩ : ∃ W, W = w22.alloc (.cells #[.int .i64 (c : Int)] 3) := ⟨_, rfl⟩
            obtain ⟨b30, hb30⟩ : ∃ b, b = w22.heap.size := ⟨_, rfl⟩
            rw [← hw30, ← hb30] at HE2
            rw [← hw30, ← hb30]
            have HE := HE2
            clear HE2 hw30 hb30
            refine hK _ _ (HQ.out _ _ HE.out.box) ?_
            clear hK K
            refine wpAnyL_one (o := ⟨some 73, _, _, _, _, _⟩) 15 (by kernel_rfl) rfl (fun K hK => ?_)
            go_wp2_with fail
            have HE2 := hideIt (show ES _ _ _ _ _ _ _ (w30.alloc (.cells #[.slice (some ⟨g, 0, none⟩) (n + n) (n + n)] 36)) _ _ _ from (HE.out.lit 4 (by decide) (.slice (some ⟨g, 0, none⟩) (n + n) (n + n))).to (vs' := V6 (.slice A22 (B.length + 1) k22) (vR) (vP) (.slice (some ⟨b21, 0, none⟩) 1 1) (.slice (some ⟨w30.heap.size, 0, none⟩) 1 1) (.slice (some ⟨b30, 0, none⟩) 1 1)) (ks' := V6 (B.length + 1) (B.length) (B.length) (1) (1) (1)) (ls' := V6 (pvC B ++ [.int .i64 (u : Int)]) (rowsV n gs B.length) (pvC pv) ([.int .i64 (u : Int)]) ([.slice (some ⟨g, 0, none⟩) (n + n) (n + n)]) ([.int .i64 (c : Int)])) (six rfl rfl rfl rfl rfl rfl) (six rfl rfl rfl rfl rfl rfl) (six rfl rfl rfl rfl rfl rfl))
            clear HE
            obtain ⟨w31, hw31⟩ : ∃ W, W = w30.alloc (.cells #[.slice (some ⟨g, 0, none⟩) (n + n) (n + n)] 36) := ⟨_, rfl⟩
            obtain ⟨b31, hb31⟩ : ∃ b, b = w30.heap.size := ⟨_, rfl⟩
            rw [← hw31, ← hb31] at HE2
            rw [← hw31, ← hb31]
            have HE := HE2
            clear HE2 hw31 hb31
            refine hK _ _ (HQ.out _ _ HE.out.box) ?_
            clear hK K
            refine wpAnyL_one (o := ⟨some 74, _, _, _, _, _⟩) 16 (by kernel_rfl) rfl (fun K hK => ?_)
            go_wp2_with ((with_reducible refine at_append ?_); refine wpList_apG (z := .slice none 0 0) (size := 1) (bytes := 24) (n := B.length) (m := 1) (news := [.slice (some ⟨g, 0, none⟩) (n + n) (n + n)]) (xs := rowsV n gs B.length) (ad := ⟨b31, 0, none⟩) Tryd.underlying22 (by kernel_rfl) rfl (by decide) (by decide) rfl (.tmp 71) (.tmp 73) rfl rfl (HE.out.rn.own 1 (by decide)) rfl rfl ((HE.out.rn.own 4 (by decide)).cells (g := b31) rfl) (ones_one rfl) (by omega) HE.out.sz ?_; intro v9 w32 HO9 HG9 HA9 HB9)
            obtain ⟨A32, k32, e9, _, _⟩ := own_form HO9.out
            subst e9
            have HE2 := hideIt ((HE.out.step 1 (by decide) HG9.out HO9.out HA9.out).to (vs' := V6 (.slice A22 (B.length + 1) k22) (.slice A32 (B.length + 1) k32) (vP) (.slice (some ⟨b21, 0, none⟩) 1 1) (.slice (some ⟨b31, 0, none⟩) 1 1) (.slice (some ⟨b30, 0, none⟩) 1 1)) (ks' := V6 (B.length + 1) (B.length + 1) (B.length) (1) (1) (1)) (ls' := V6 (pvC B ++ [.int .i64 (u : Int)]) (rowsV n gs B.length ++ [.slice (some ⟨g, 0, none⟩) (n + n) (n + n)]) (pvC pv) ([.int .i64 (u : Int)]) ([.slice (some ⟨g, 0, none⟩) (n + n) (n + n)]) ([.int .i64 (c : Int)])) (six rfl rfl rfl rfl rfl rfl) (six rfl rfl rfl rfl rfl rfl) (six rfl rfl rfl rfl rfl rfl))
            clear HE HO9 HG9 HA9 HB9
            have HE := HE2
            clear HE2
            refine hK _ _ (HQ.out _ _ HE.out.box) ?_
            clear hK K
            refine wpAnyL_one (o := ⟨some 81, _, _, _, _, _⟩) 23 (by kernel_rfl) rfl (fun K hK => ?_)
            go_wp2_with ((with_reducible refine at_append ?_); refine wpList_apG (z := .int .i64 0) (size := 1) (bytes := 8) (n := B.length) (m := 1) (news := [.int .i64 (c : Int)]) (xs := pvC pv) (ad := ⟨b30, 0, none⟩) Tryd.underlying36 (by kernel_rfl) rfl (by decide) (by decide) rfl (.tmp 78) (.tmp 80) rfl rfl (HE.out.rn.own 2 (by decide)) rfl rfl ((HE.out.rn.own 5 (by decide)).cells (g := b30) rfl) (ones_one rfl) (by omega) HE.out.sz ?_; intro v9 w33 HO9 HG9 HA9 HB9)
            obtain ⟨A33, k33, e9, _, _⟩ := own_form HO9.out
            subst e9
            have HE2 := hideIt ((HE.out.step 2 (by decide) HG9.out HO9.out HA9.out).to (vs' := V6 (.slice A22 (B.length + 1) k22) (.slice A32 (B.length + 1) k32) (.slice A33 (B.length + 1) k33) (.slice (some ⟨b21, 0, none⟩) 1 1) (.slice (some ⟨b31, 0, none⟩) 1 1) (.slice (some ⟨b30, 0, none⟩) 1 1)) (ks' := V6 (B.length + 1) (B.length + 1) (B.length + 1) (1) (1) (1)) (ls' := V6 (pvC B ++ [.int .i64 (u : Int)]) (rowsV n gs B.length ++ [.slice (some ⟨g, 0, none⟩) (n + n) (n + n)]) (pvC pv ++ [.int .i64 (c : Int)]) ([.int .i64 (u : Int)]) ([.slice (some ⟨g, 0, none⟩) (n + n) (n + n)]) ([.int .i64 (c : Int)])) (six rfl rfl rfl rfl rfl rfl) (six rfl rfl rfl rfl rfl rfl) (six rfl rfl rfl rfl rfl rfl))
            clear HE HO9 HG9 HA9 HB9
            have HE := HE2
            clear HE2
            refine hK _ _ (HQ.out _ _ HE.out.box) ?_
            clear hK K
            refine loads_tail 24 (by kernel_rfl) (by kernel_rfl) (by kernel_rfl) (by kernel_rfl) ?_
            simp only [List.drop_succ_cons, List.drop_zero]
            obtain ⟨e4, e5, e6, f4, f5, f6⟩ := HC.out w33 HE.out.box
            go_wp2_with fail
            go_end0
            exact HF.out _ _ _ _ _ _ _ _ _ _ HE.out
        · go_wp2_with fail
          have HE2 := hideIt (show ES _ _ _ _ _ _ _ (w21.alloc (.cells #[.slice (some ⟨g, 0, none⟩) (n + n) (n + n)] 36)) _ _ _ from (HE.out.lit 4 (by decide) (.slice (some ⟨g, 0, none⟩) (n + n) (n + n))).to (vs' := V6 (vU) (vR) (vP) (.slice (some ⟨b21, 0, none⟩) 1 1) (.slice (some ⟨w21.heap.size, 0, none⟩) 1 1) (.slice none 0 0)) (ks' := V6 (B.length) (B.length) (B.length) (1) (1) (0)) (ls' := V6 (pvC B) (rowsV n gs B.length) (pvC pv) ([.int .i64 (u : Int)]) ([.slice (some ⟨g, 0, none⟩) (n + n) (n + n)]) ([])) (six rfl rfl rfl rfl rfl rfl) (six rfl rfl rfl rfl rfl rfl) (six rfl rfl rfl rfl rfl rfl))
          clear HE
          obtain ⟨w34, hw34⟩ : ∃ W, W = w21.alloc (.cells #[.slice (some ⟨g, 0, none⟩) (n + n) (n + n)] 36) := ⟨_, rfl⟩
          obtain ⟨b34, hb34⟩ : ∃ b, b = w21.heap.size := ⟨_, rfl⟩
          rw [← hw34, ← hb34] at HE2
          rw [← hw34, ← hb34]
          have HE := HE2
          clear HE2 hw34 hb34
          refine hK _ _ (HQ.out _ _ HE.out.box) ?_
          clear hK K
          refine wpAnyL_two (oi := ⟨some 67, _, _, _, _, _⟩) (oj := ⟨some 80, _, _, _, _, _⟩) 9 22 (by kernel_rfl) rfl rfl (fun K hK => ?_) (fun K hK => ?_)
          · go_wp2_with ((with_reducible refine at_append ?_); refine wpList_apG (z := .int .i64 0) (size := 1) (bytes := 8) (n := B.length) (m := 1) (news := [.int .i64 (u : Int)]) (xs := pvC B) (ad := ⟨b21, 0, none⟩) Tryd.underlying36 (by kernel_rfl) rfl (by decide) (by decide) rfl (.tmp 64) (.tmp 66) rfl rfl (HE.out.rn.own 0 (by decide)) rfl rfl ((HE.out.rn.own 3 (by decide)).cells (g := b21) rfl) (ones_one rfl) (by omega) HE.out.sz ?_; intro v9 w35 HO9 HG9 HA9 HB9)
            obtain ⟨A35, k35, e9, _, _⟩ := own_form HO9.out
            subst e9
            have HE2 := hideIt ((HE.out.step 0 (by decide) HG9.out HO9.out HA9.out).to (vs' := V6 (.slice A35 (B.length + 1) k35) (vR) (vP) (.slice (some ⟨b21, 0, none⟩) 1 1) (.slice (some ⟨b34, 0, none⟩) 1 1) (.slice none 0 0)) (ks' := V6 (B.length + 1) (B.length) (B.length) (1) (1) (0)) (ls' := V6 (pvC B ++ [.int .i64 (u : Int)]) (rowsV n gs B.length) (pvC pv) ([.int .i64 (u : Int)]) ([.slice (some ⟨g, 0, none⟩) (n + n) (n + n)]) ([])) (six rfl rfl rfl rfl rfl rfl) (six rfl rfl rfl rfl rfl rfl) (six rfl rfl rfl rfl rfl rfl))
            clear HE HO9 HG9 HA9 HB9
            have HE := HE2
            clear HE2
            refine hK _ _ (HQ.out _ _ HE.out.box) ?_
            clear hK K
            refine wpAnyL_two (oi := ⟨some 74, _, _, _, _, _⟩) (oj := ⟨some 80, _, _, _, _, _⟩) 16 22 (by kernel_rfl) rfl rfl (fun K hK => ?_) (fun K hK => ?_)
            · go_wp2_with ((with_reducible refine at_append ?_); refine wpList_apG (z := .slice none 0 0) (size := 1) (bytes := 24) (n := B.length) (m := 1) (news := [.slice (some ⟨g, 0, none⟩) (n + n) (n + n)]) (xs := rowsV n gs B.length) (ad := ⟨b34, 0, none⟩) Tryd.underlying22 (by kernel_rfl) rfl (by decide) (by decide) rfl (.tmp 71) (.tmp 73) rfl rfl (HE.out.rn.own 1 (by decide)) rfl rfl ((HE.out.rn.own 4 (by decide)).cells (g := b34) rfl) (ones_one rfl) (by omega) HE.out.sz ?_; intro v9 w36 HO9 HG9 HA9 HB9)
              obtain ⟨A36, k36, e9, _, _⟩ := own_form HO9.out
              subst e9
              have HE2 := hideIt ((HE.out.step 1 (by decide) HG9.out HO9.out HA9.out).to (vs' := V6 (.slice A35 (B.length + 1) k35) (.slice A36 (B.length + 1) k36) (vP) (.slice (some ⟨b21, 0, none⟩) 1 1) (.slice (some ⟨b34, 0, none⟩) 1 1) (.slice none 0 0)) (ks' := V6 (B.length + 1) (B.length + 1) (B.length) (1) (1) (0)) (ls' := V6 (pvC B ++ [.int .i64 (u : Int)]) (rowsV n gs B.length ++ [.slice (some ⟨g, 0, none⟩) (n + n) (n + n)]) (pvC pv) ([.int .i64 (u : Int)]) ([.slice (some ⟨g, 0, none⟩) (n + n) (n + n)]) ([])) (six rfl rfl rfl rfl rfl rfl) (six rfl rfl rfl rfl rfl rfl) (six rfl rfl rfl rfl rfl rfl))
              clear HE HO9 HG9 HA9 HB9
              have HE := HE2
              clear HE2
              refine hK _ _ (HQ.out _ _ HE.out.box) ?_
              clear hK K
              refine wpAnyL_one (o := ⟨some 80, _, _, _, _, _⟩) 22 (by kernel_rfl) rfl (fun K hK => ?_)
              go_wp2_with fail
              have HE2 := hideIt (show ES _ _ _ _ _ _ _ (w36.alloc (.cells #[.int .i64 (c : Int)] 3)) _ _ _ from (HE.out.lit 5 (by decide) (.int .i64 (c : Int))).to (vs' := V6 (.slice A35 (B.length + 1) k35) (.slice A36 (B.length + 1) k36) (vP) (.slice (some ⟨b21, 0, none⟩) 1 1) (.slice (some ⟨b34, 0, none⟩) 1 1) (.slice (some ⟨w36.heap.size, 0, none⟩) 1 1)) (ks' := V6 (B.length + 1) (B.length + 1) (B.length) (1) (1) (1)) (ls' := V6 (pvC B ++ [.int .i64 (u : Int)]) (rowsV n gs B.length ++ [.slice (some ⟨g, 0, none⟩) (n + n) (n + n)]) (pvC pv) ([.int .i64 (u : Int)]) ([.slice (some ⟨g, 0, none⟩) (n + n) (n + n)]) ([.int .i64 (c : Int)])) (six rfl rfl rfl rfl rfl rfl) (six rfl rfl rfl rfl rfl rfl) (six rfl rfl rfl rfl rfl rfl))
              clear HE
              obtain ⟨w37, hw37⟩ : ∃ W, W = w36.alloc (.cells #[.int .i64 (c : Int)] 3) := ⟨_, rfl⟩
              obtain ⟨b37, hb37⟩ : ∃ b, b = w36.heap.size := ⟨_, rfl⟩
              rw [← hw37, ← hb37] at HE2
              rw [← hw37, ← hb37]
              have HE := HE2
              clear HE2 hw37 hb37
              refine hK _ _ (HQ.out _ _ HE.out.box) ?_
              clear hK K
              refine wpAnyL_one (o := ⟨some 81, _, _, _, _, _⟩) 23 (by kernel_rfl) rfl (fun K hK => ?_)
              go_wp2_with ((with_reducible refine at_append ?_); refine wpList_apG (z := .int .i64 0) (size := 1) (bytes := 8) (n := B.length) (m := 1) (news := [.int .i64 (c : Int)]) (xs := pvC pv) (ad := ⟨b37, 0, none⟩) Tryd.underlying36 (by kernel_rfl) rfl (by decide) (by decide) rfl (.tmp 78) (.tmp 80) rfl rfl (HE.out.rn.own 2 (by decide)) rfl rfl ((HE.out.rn.own 5 (by decide)).cells (g := b37) rfl) (ones_one rfl) (by omega) HE.out.sz ?_; intro v9 w38 HO9 HG9 HA9 HB9)
              obtain ⟨A38, k38, e9, _, _⟩ := own_form HO9.out
              subst e9
              have HE2 := hideIt ((HE.out.step 2 (by decide) HG9.out HO9.out HA9.out).to (vs' := V6 (.slice A35 (B.length + 1) k35) (.slice A36 (B.length + 1) k36) (.slice A38 (B.length + 1) k38) (.slice (some ⟨b21, 0, none⟩) 1 1) (.slice (some ⟨b34, 0, none⟩) 1 1) (.slice (some ⟨b37, 0, none⟩) 1 1)) (ks' := V6 (B.length + 1) (B.length + 1) (B.length + 1) (1) (1) (1)) (ls' := V6 (pvC B ++ [.int .i64 (u : Int)]) (rowsV n gs B.length ++ [.slice (some ⟨g, 0, none⟩) (n + n) (n + n)]) (pvC pv ++ [.int .i64 (c : Int)]) ([.int .i64 (u : Int)]) ([.slice (some ⟨g, 0, none⟩) (n + n) (n + n)]) ([.int .i64 (c : Int)])) (six rfl rfl rfl rfl rfl rfl) (six rfl rfl rfl rfl rfl rfl) (six rfl rfl rfl rfl rfl rfl))
              clear HE HO9 HG9 HA9 HB9
              have HE := HE2
              clear HE2
              refine hK _ _ (HQ.out _ _ HE.out.box) ?_
              clear hK K
              refine loads_tail 24 (by kernel_rfl) (by kernel_rfl) (by kernel_rfl) (by kernel_rfl) ?_
              simp only [List.drop_succ_cons, List.drop_zero]
              obtain ⟨e4, e5, e6, f4, f5, f6⟩ := HC.out w38 HE.out.box
              go_wp2_with fail
              go_end0
              exact HF.out _ _ _ _ _ _ _ _ _ _ HE.out
            · go_wp2_with fail
              have HE2 := hideIt (show ES _ _ _ _ _ _ _ (w35.alloc (.cells #[.int .i64 (c : Int)] 3)) _ _ _ from (HE.out.lit 5 (by decide) (.int .i64 (c : Int))).to (vs' := V6 (.slice A35 (B.length + 1) k35) (vR) (vP) (.slice (some ⟨b21, 0, none⟩) 1 1) (.slice (some ⟨b34, 0, none⟩) 1 1) (.slice (some ⟨w35.heap.size, 0, none⟩) 1 1)) (ks' := V6 (B.length + 1) (B.length) (B.length) (1) (1) (1)) (ls' := V6 (pvC B ++ [.int .i64 (u : Int)]) (rowsV n gs B.length) (pvC pv) ([.int .i64 (u : Int)]) ([.slice (some ⟨g, 0, none⟩) (n + n) (n + n)]) ([.int .i64 (c : Int)])) (six rfl rfl rfl rfl rfl rfl) (six rfl rfl rfl rfl rfl rfl) (six rfl rfl rfl rfl rfl rfl))
              clear HE
              obtain ⟨w39, hw39⟩ : ∃ W, W = w35.alloc (.cells #[.int .i64 (c : Int)] 3) := ⟨_, rfl⟩
              obtain ⟨b39, hb39⟩ : ∃ b, b = w35.heap.size := ⟨_, rfl⟩
              rw [← hw39, ← hb39] at HE2
              rw [← hw39, ← hb39]
              have HE := HE2
              clear HE2 hw39 hb39
              refine hK _ _ (HQ.out _ _ HE.out.box) ?_
              clear hK K
              refine wpAnyL_one (o := ⟨some 74, _, _, _, _, _⟩) 16 (by kernel_rfl) rfl (fun K hK => ?_)
              go_wp2_with ((with_reducible refine at_append ?_); refine wpList_apG (z := .slice none 0 0) (size := 1) (bytes := 24) (n := B.length) (m := 1) (news := [.slice (some ⟨g, 0, none⟩) (n + n) (n + n)]) (xs := rowsV n gs B.length) (ad := ⟨b34, 0, none⟩) Tryd.underlying22 (by kernel_rfl) rfl (by decide) (by decide) rfl (.tmp 71) (.tmp 73) rfl rfl (HE.out.rn.own 1 (by decide)) rfl rfl ((HE.out.rn.own 4 (by decide)).cells (g := b34) rfl) (ones_one rfl) (by omega) HE.out.sz ?_; intro v9 w40 HO9 HG9 HA9 HB9)
              obtain ⟨A40, k40, e9, _, _⟩ := own_form HO9.out
              subst e9
              have HE2 := hideIt ((HE.out.step 1 (by decide) HG9.out HO9.out HA9.out).to (vs' := V6 (.slice A35 (B.length + 1) k35) (.slice A40 (B.length + 1) k40) (vP) (.slice (some ⟨b21, 0, none⟩) 1 1) (.slice (some ⟨b34, 0, none⟩) 1 1) (.slice (some ⟨b39, 0, none⟩) 1 1)) (ks' := V6 (B.length + 1) (B.length + 1) (B.length) (1) (1) (1)) (ls' := V6 (pvC B ++ [.int .i64 (u : Int)]) (rowsV n gs B.length ++ [.slice (some ⟨g, 0, none⟩) (n + n) (n + n)]) (pvC pv) ([.int .i64 (u : Int)]) ([.slice (some ⟨g, 0, none⟩) (n + n) (n + n)]) ([.int .i64 (c : Int)])) (six rfl rfl rfl rfl rfl rfl) (six rfl rfl rfl rfl rfl rfl) (six rfl rfl rfl rfl rfl rfl))
              clear HE HO9 HG9 HA9 HB9
              have HE := HE2
              clear HE2
              refine hK _ _ (HQ.out _ _ HE.out.box) ?_
              clear hK K
              refine wpAnyL_one (o := ⟨some 81, _, _, _, _, _⟩) 23 (by kernel_rfl) rfl (fun K hK => ?_)
              go_wp2_with ((with_reducible refine at_append ?_); refine wpList_apG (z := .int .i64 0) (size := 1) (bytes := 8) (n := B.length) (m := 1) (news := [.int .i64 (c : Int)]) (xs := pvC pv) (ad := ⟨b39, 0, none⟩) Tryd.underlying36 (by kernel_rfl) rfl (by decide) (by decide) rfl (.tmp 78) (.tmp 80) rfl rfl (HE.out.rn.own 2 (by decide)) rfl rfl ((HE.out.rn.own 5 (by decide)).cells (g := b39) rfl) (ones_one rfl) (by omega) HE.out.sz ?_; intro v9 w41 HO9 HG9 HA9 HB9)
              obtain ⟨A41, k41, e9, _, _⟩ := own_form HO9.out
              subst e9
              have HE2 := hideIt ((HE.out.step 2 (by decide) HG9.out HO9.out HA9.out).to (vs' := V6 (.slice A35 (B.length + 1) k35) (.slice A40 (B.length + 1) k40) (.slice A41 (B.length + 1) k41) (.slice (some ⟨b21, 0, none⟩) 1 1) (.slice (some ⟨b34, 0, none⟩) 1 1) (.slice (some ⟨b39, 0, none⟩) 1 1)) (ks' := V6 (B.length + 1) (B.length + 1) (B.length + 1) (1) (1) (1)) (ls' := V6 (pvC B ++ [.int .i64 (u : Int)]) (rowsV n gs B.length ++ [.slice (some ⟨g, 0, none⟩) (n + n) (n + n)]) (pvC pv ++ [.int .i64 (c : Int)]) ([.int .i64 (u : Int)]) ([.slice (some ⟨g, 0, none⟩) (n + n) (n + n)]) ([.int .i64 (c : Int)])) (six rfl rfl rfl rfl rfl rfl) (six rfl rfl rfl rfl rfl rfl) (six rfl rfl rfl rfl rfl rfl))
              clear HE HO9 HG9 HA9 HB9
              have HE := HE2
              clear HE2
              refine hK _ _ (HQ.out _ _ HE.out.box) ?_
              clear hK K
              refine loads_tail 24 (by kernel_rfl) (by kernel_rfl) (by kernel_rfl) (by kernel_rfl) ?_
              simp only [List.drop_succ_cons, List.drop_zero]
              obtain ⟨e4, e5, e6, f4, f5, f6⟩ := HC.out w41 HE.out.box
              go_wp2_with fail
              go_end0
              exact HF.out _ _ _ _ _ _ _ _ _ _ HE.out
          · go_wp2_with fail
            have HE2 := hideIt (show ES _ _ _ _ _ _ _ (w34.alloc (.cells #[.int .i64 (c : Int)] 3)) _ _ _ from (HE.out.lit 5 (by decide) (.int .i64 (c : Int))).to (vs' := V6 (vU) (vR) (vP) (.slice (some ⟨b21, 0, none⟩) 1 1) (.slice (some ⟨b34, 0, none⟩) 1 1) (.slice (some ⟨w34.heap.size, 0, none⟩) 1 1)) (ks' := V6 (B.length) (B.length) (B.length) (1) (1) (1)) (ls' := V6 (pvC B) (rowsV n gs B.length) (pvC pv) ([.int .i64 (u : Int)]) ([.slice (some ⟨g, 0, none⟩) (n + n) (n + n)]) ([.int .i64 (c : Int)])) (six rfl rfl rfl rfl rfl rfl) (six rfl rfl rfl rfl rfl rfl) (six rfl rfl rfl rfl rfl rfl))
            clear HE
            obtain ⟨w42, hw42⟩ : ∃ W, W = w34.alloc (.cells #[.int .i64 (c : Int)] 3) := ⟨_, rfl⟩
            obtain ⟨b42, hb42⟩ : ∃ b, b = w34.heap.size := ⟨_, rfl⟩
            rw [← hw42, ← hb42] at HE2
            rw [← hw42, ← hb42]
            have HE := HE2
            clear HE2 hw42 hb42
            refine hK _ _ (HQ.out _ _ HE.out.box) ?_
            clear hK K
            refine wpAnyL_one (o := ⟨some 67, _, _, _, _, _⟩) 9 (by kernel_rfl) rfl (fun K hK => ?_)
            go_wp2_with ((with_reducible refine at_append ?_); refine wpList_apG (z := .int .i64 0) (size := 1) (bytes := 8) (n := B.length) (m := 1) (news := [.int .i64 (u : Int)]) (xs := pvC B) (ad := ⟨b21, 0, none⟩) Tryd.underlying36 (by kernel_rfl) rfl (by decide) (by decide) rfl (.tmp 64) (.tmp 66) rfl rfl (HE.out.rn.own 0 (by decide)) rfl rfl ((HE.out.rn.own 3 (by decide)).cells (g := b21) rfl) (ones_one rfl) (by omega) HE.out.sz ?_; intro v9 w43 HO9 HG9 HA9 HB9)
            obtain ⟨A43, k43, e9, _, _⟩ := own_form HO9.out
            subst e9
            have HE2 := hideIt ((HE.out.step 0 (by decide) HG9.out HO9.out HA9.out).to (vs' := V6 (.slice A43 (B.length + 1) k43) (vR) (vP) (.slice (some ⟨b21, 0, none⟩) 1 1) (.slice (some ⟨b34, 0, none⟩) 1 1) (.slice (some ⟨b42, 0, none⟩) 1 1)) (ks' := V6 (B.length + 1) (B.length) (B.length) (1) (1) (1)) (ls' := V6 (pvC B ++ [.int .i64 (u : Int)]) (rowsV n gs B.length) (pvC pv) ([.int .i64 (u : Int)]) ([.slice (some ⟨g, 0, none⟩) (n + n) (n + n)]) ([.int .i64 (c : Int)])) (six rfl rfl rfl rfl rfl rfl) (six rfl rfl rfl rfl rfl rfl) (six rfl rfl rfl rfl rfl rfl))
            clear HE HO9 HG9 HA9 HB9
            have HE := HE2
            clear HE2
            refine hK _ _ (HQ.out _ _ HE.out.box) ?_
            clear hK K
            refine wpAnyL_one (o := ⟨some 74, _, _, _, _, _⟩) 16 (by kernel_rfl) rfl (fun K hK => ?_)
            go_wp2_with ((with_reducible refine at_append ?_); refine wpList_apG (z := .slice none 0 0) (size := 1) (bytes := 24) (n := B.length) (m := 1) (news := [.slice (some ⟨g, 0, none⟩) (n + n) (n + n)]) (xs := rowsV n gs B.length) (ad := ⟨b34, 0, none⟩) Tryd.underlying22 (by kernel_rfl) rfl (by decide) (by decide) rfl (.tmp 71) (.tmp 73) rfl rfl (HE.out.rn.own 1 (by decide)) rfl rfl ((HE.out.rn.own 4 (by decide)).cells (g := b34) rfl) (ones_one rfl) (by omega) HE.out.sz ?_; intro v9 w44 HO9 HG9 HA9 HB9)
            obtain ⟨A44, k44, e9, _, _⟩ := own_form HO9.out
            subst e9
            have HE2 := hideIt ((HE.out.step 1 (by decide) HG9.out HO9.out HA9.out).to (vs' := V6 (.slice A43 (B.length + 1) k43) (.slice A44 (B.length + 1) k44) (vP) (.slice (some ⟨b21, 0, none⟩) 1 1) (.slice (some ⟨b34, 0, none⟩) 1 1) (.slice (some ⟨b42, 0, none⟩) 1 1)) (ks' := V6 (B.length + 1) (B.length + 1) (B.length) (1) (1) (1)) (ls' := V6 (pvC B ++ [.int .i64 (u : Int)]) (rowsV n gs B.length ++ [.slice (some ⟨g, 0, none⟩) (n + n) (n + n)]) (pvC pv) ([.int .i64 (u : Int)]) ([.slice (some ⟨g, 0, none⟩) (n + n) (n + n)]) ([.int .i64 (c : Int)])) (six rfl rfl rfl rfl rfl rfl) (six rfl rfl rfl rfl rfl rfl) (six rfl rfl rfl rfl rfl rfl))
            clear HE HO9 HG9 HA9 HB9
            have HE := HE2
            clear HE2
            refine hK _ _ (HQ.out _ _ HE.out.box) ?_
            clear hK K
            refine wpAnyL_one (o := ⟨some 81, _, _, _, _, _⟩) 23 (by kernel_rfl) rfl (fun K hK => ?_)
            go_wp2_with ((with_reducible refine at_append ?_); refine wpList_apG (z := .int .i64 0) (size := 1) (bytes := 8) (n := B.length) (m := 1) (news := [.int .i64 (c : Int)]) (xs := pvC pv) (ad := ⟨b42, 0, none⟩) Tryd.underlying36 (by kernel_rfl) rfl (by decide) (by decide) rfl (.tmp 78) (.tmp 80) rfl rfl (HE.out.rn.own 2 (by decide)) rfl rfl ((HE.out.rn.own 5 (by decide)).cells (g := b42) rfl) (ones_one rfl) (by omega) HE.out.sz ?_; intro v9 w45 HO9 HG9 HA9 HB9)
            obtain ⟨A45, k45, e9, _, _⟩ := own_form HO9.out
            subst e9
            have HE2 := hideIt ((HE.out.step 2 (by decide) HG9.out HO9.out HA9.out).to (vs' := V6 (.slice A43 (B.length + 1) k43) (.slice A44 (B.length + 1) k44) (.slice A45 (B.length + 1) k45) (.slice (some ⟨b21, 0, none⟩) 1 1) (.slice (some ⟨b34, 0, none⟩) 1 1) (.slice (some ⟨b42, 0, none⟩) 1 1)) (ks' := V6 (B.length + 1) (B.length + 1) (B.length + 1) (1) (1) (1)) (ls' := V6 (pvC B ++ [.int .i64 (u : Int)]) (rowsV n gs B.length ++ [.slice (some ⟨g, 0, none⟩) (n + n) (n + n)]) (pvC pv ++ [.int .i64 (c : Int)]) ([.int .i64 (u : Int)]) ([.slice (some ⟨g, 0, none⟩) (n + n) (n + n)]) ([.int .i64 (c : Int)])) (six rfl rfl rfl rfl rfl rfl) (six rfl rfl rfl rfl rfl rfl) (six rfl rfl rfl rfl rfl rfl))
            clear HE HO9 HG9 HA9 HB9
            have HE := HE2
            clear HE2
            refine hK _ _ (HQ.out _ _ HE.out.box) ?_
            clear hK K
            refine loads_tail 24 (by kernel_rfl) (by kernel_rfl) (by kernel_rfl) (by kernel_rfl) ?_
            simp only [List.drop_succ_cons, List.drop_zero]
            obtain ⟨e4, e5, e6, f4, f5, f6⟩ := HC.out w45 HE.out.box
            go_wp2_with fail
            go_end0
            exact HF.out _ _ _ _ _ _ _ _ _ _ HE.out
        · go_wp2_with fail
          have HE2 := hideIt (show ES _ _ _ _ _ _ _ (w21.alloc (.cells #[.int .i64 (c : Int)] 3)) _ _ _ from (HE.out.lit 5 (by decide) (.int .i64 (c : Int))).to (vs' := V6 (vU) (vR) (vP) (.slice (some ⟨b21, 0, none⟩) 1 1) (.slice none 0 0) (.slice (some ⟨w21.heap.size, 0, none⟩) 1 1)) (ks' := V6 (B.length) (B.length) (B.length) (1) (0) (1)) (ls' := V6 (pvC B) (rowsV n gs B.length) (pvC pv) ([.int .i64 (u : Int)]) ([]) ([.int .i64 (c : Int)])) (six rfl rfl rfl rfl rfl rfl) (six rfl rfl rfl rfl rfl rfl) (six rfl rfl rfl rfl rfl rfl))
          clear HE
          obtain ⟨w46, hw46⟩ : ∃ W, W = w21.alloc (.cells #[.int .i64 (c : Int)] 3) := ⟨_, rfl⟩
          obtain ⟨b46, hb46⟩ : ∃ b, b = w21.heap.size := ⟨_, rfl⟩
          rw [← hw46, ← hb46] at HE2
          rw [← hw46, ← hb46]
          have HE := HE2
          clear HE2 hw46 hb46
          refine hK _ _ (HQ.out _ _ HE.out.box) ?_
          clear hK K
          refine wpAnyL_two (oi := ⟨some 67, _, _, _, _, _⟩) (oj := ⟨some 73, _, _, _, _, _⟩) 9 15 (by kernel_rfl) rfl rfl (fun K hK => ?_) (fun K hK => ?_)
          · go_wp2_with ((with_reducible refine at_append ?_); refine wpList_apG (z := .int .i64 0) (size := 1) (bytes := 8) (n := B.length) (m := 1) (news := [.int .i64 (u : Int)]) (xs := pvC B) (ad := ⟨b21, 0, none⟩) Tryd.underlying36 (by kernel_rfl) rfl (by decide) (by decide) rfl (.tmp 64) (.tmp 66) rfl rfl (HE.out.rn.own 0 (by decide)) rfl rfl ((HE.out.rn.own 3 (by decide)).cells (g := b21) rfl) (ones_one rfl) (by omega) HE.out.sz ?_; intro v9 w47 HO9 HG9 HA9 HB9)
            obtain ⟨A47, k47, e9, _, _⟩ := own_form HO9.out
            subst e9
            have HE2 := hideIt ((HE.out.step 0 (by decide) HG9.out HO9.out HA9.out).to (vs' := V6 (.slice A47 (B.length + 1) k47) (vR) (vP) (.slice (some ⟨b21, 0, none⟩) 1 1) (.slice none 0 0) (.slice (some ⟨b46, 0, none⟩) 1 1)) (ks' := V6 (B.length + 1) (B.length) (B.length) (1) (0) (1)) (ls' := V6 (pvC B ++ [.int .i64 (u : Int)]) (rowsV n gs B.length) (pvC pv) ([.int .i64 (u : Int)]) ([]) ([.int .i64 (c : Int)])) (six rfl rfl rfl rfl rfl rfl) (six rfl rfl rfl rfl rfl rfl) (six rfl rfl rfl rfl rfl rfl))
            clear HE HO9 HG9 HA9 HB9
            have HE := HE2
            clear HE2
            refine hK _ _ (HQ.out _ _ HE.out.box) ?_
            clear hK K
            refine wpAnyL_one (o := ⟨some 73, _, _, _, _, _⟩) 15 (by kernel_rfl) rfl (fun K hK => ?_)
            go_wp2_with fail
            have HE2 := hideIt (show ES _ _ _ _ _ _ _ (w47.alloc (.cells #[.slice (some ⟨g, 0, none⟩) (n + n) (n + n)] 36)) _ _ _ from (HE.out.lit 4 (by decide) (.slice (some ⟨g, 0, none⟩) (n + n) (n + n))).to (vs' := V6 (.slice A47 (B.length + 1) k47) (vR) (vP) (.slice (some ⟨b21, 0, none⟩) 1 1) (.slice (some ⟨w47.heap.size, 0, none⟩) 1 1) (.slice (some ⟨b46, 0, none⟩) 1 1)) (ks' := V6 (B.length + 1) (B.length) (B.length) (1) (1) (1)) (ls' := V6 (pvC B ++ [.int .i64 (u : Int)]) (rowsV n gs B.length) (pvC pv) ([.int .i64 (u : Int)]) ([.slice (some ⟨g, 0, none⟩) (n + n) (n + n)]) ([.int .i64 (c : Int)])) (six rfl rfl rfl rfl rfl rfl) (six rfl rfl rfl rfl rfl rfl) (six rfl rfl rfl rfl rfl rfl))
            clear HE
            obtain ⟨w48, hw48⟩ : ∃ W, W = w47.alloc (.cells #[.slice (some ⟨g, 0, none⟩) (n + n) (n + n)] 36) := ⟨_, rfl⟩
            obtain ⟨b48, hb48⟩ : ∃ b, b = w47.heap.size := ⟨_, rfl⟩
            rw [← hw48, ← hb48] at HE2
            rw [← hw48, ← hb48]
            have HE := HE2
            clear HE2 hw48 hb48
            refine hK _ _ (HQ.out _ _ HE.out.box) ?_
            clear hK K
            refine wpAnyL_one (o := ⟨some 74, _, _, _, _, _⟩) 16 (by kernel_rfl) rfl (fun K hK => ?_)
            go_wp2_with ((with_reducible refine at_append ?_); refine wpList_apG (z := .slice none 0 0) (size := 1) (bytes := 24) (n := B.length) (m := 1) (news := [.slice (some ⟨g, 0, none⟩) (n + n) (n + n)]) (xs := rowsV n gs B.length) (ad := ⟨b48, 0, none⟩) Tryd.underlying22 (by kernel_rfl) rfl (by decide) (by decide) rfl (.tmp 71) (.tmp 73) rfl rfl (HE.out.rn.own 1 (by decide)) rfl rfl ((HE.out.rn.own 4 (by decide)).cells (g := b48) rfl) (ones_one rfl) (by omega) HE.out.sz ?_; intro v9 w49 HO9 HG9 HA9 HB9)
            obtain ⟨A49, k49, e9, _, _⟩ := own_form HO9.out
            subst e9
            have HE2 := hideIt ((HE.out.step 1 (by decide) HG9.out HO9.out HA9.out).to (vs' := V6 (.slice A47 (B.length + 1) k47) (.slice A49 (B.length + 1) k49) (vP) (.slice (some ⟨b21, 0, none⟩) 1 1) (.slice (some ⟨b48, 0, none⟩) 1 1) (.slice (some ⟨b46, 0, none⟩) 1 1)) (ks' := V6 (B.length + 1) (B.length + 1) (B.length) (1) (1) (1)) (ls' := V6 (pvC B ++ [.int .i64 (u : Int)]) (rowsV n gs B.length ++ [.slice (some ⟨g, 0, none⟩) (n + n) (n + n)]) (pvC pv) ([.int .i64 (u : Int)]) ([.slice (some ⟨g, 0, none⟩) (n + n) (n + n)]) ([.int .i64 (c : Int)])) (six rfl rfl rfl rfl rfl rfl) (six rfl rfl rfl rfl rfl rfl) (six rfl rfl rfl rfl rfl rfl))
            clear HE HO9 HG9 HA9 HB9
            have HE := HE2
            clear HE2
            refine hK _ _ (HQ.out _ _ HE.out.box) ?_
            clear hK K
            refine wpAnyL_one (o := ⟨some 81, _, _, _, _, _⟩) 23 (by kernel_rfl) rfl (fun K hK => ?_)
            go_wp2_with ((with_reducible refine at_append ?_); refine wpList_apG (z := .int .i64 0) (size := 1) (bytes := 8) (n := B.length) (m := 1) (news := [.int .i64 (c : Int)]) (xs := pvC pv) (ad := ⟨b46, 0, none⟩) Tryd.underlying36 (by kernel_rfl) rfl (by decide) (by decide) rfl (.tmp 78) (.tmp 80) rfl rfl (HE.out.rn.own 2 (by decide)) rfl rfl ((HE.out.rn.own 5 (by decide)).cells (g := b46) rfl) (ones_one rfl) (by omega) HE.out.sz ?_; intro v9 w50 HO9 HG9 HA9 HB9)
            obtain ⟨A50, k50, e9, _, _⟩ := own_form HO9.out
            subst e9
            have HE2 := hideIt ((HE.out.step 2 (by decide) HG9.out HO9.out HA9.out).to (vs' := V6 (.slice A47 (B.length + 1) k47) (.slice A49 (B.length + 1) k49) (.slice A50 (B.length + 1) k50) (.slice (some ⟨b21, 0, none⟩) 1 1) (.slice (some ⟨b48, 0, none⟩) 1 1) (.slice (some ⟨b46, 0, none⟩) 1 1)) (ks' := V6 (B.length + 1) (B.length + 1) (B.length + 1) (1) (1) (1)) (ls' := V6 (pvC B ++ [.int .i64 (u : Int)]) (rowsV n gs B.length ++ [.slice (some ⟨g, 0, none⟩) (n + n) (n + n)]) (pvC pv ++ [.int .i64 (c : Int)]) ([.int .i64 (u : Int)]) ([.slice (some ⟨g, 0, none⟩) (n + n) (n + n)]) ([.int .i64 (c : Int)])) (six rfl rfl rfl rfl rfl rfl) (six rfl rfl rfl rfl rfl rfl) (six rfl rfl rfl rfl rfl rfl))
            clear HE HO9 HG9 HA9 HB9
            have HE := HE2
            clear HE2
            refine hK _ _ (HQ.out _ _ HE.out.box) ?_
            clear hK K
            refine loads_tail 24 (by kernel_rfl) (by kernel_rfl) (by kernel_rfl) (by kernel_rfl) ?_
            simp only [List.drop_succ_cons, List.drop_zero]
            obtain ⟨e4, e5, e6, f4, f5, f6⟩ := HC.out w50 HE.out.box
            go_wp2_with fail
            go_end0
            exact HF.out _ _ _ _ _ _ _ _ _ _ HE.out
          · go_wp2_with fail
            have HE2 := hideIt (show ES _ _ _ _ _ _ _ (w46.alloc (.cells #[.slice (some ⟨g, 0, none⟩) (n + n) (n + n)] 36)) _ _ _ from (HE.out.lit 4 (by decide) (.slice (some ⟨g, 0, none⟩) (n + n) (n + n))).to (vs' := V6 (vU) (vR) (vP) (.slice (some ⟨b21, 0, none⟩) 1 1) (.slice (some ⟨w46.heap.size, 0, none⟩) 1 1) (.slice (some ⟨b46, 0, none⟩) 1 1)) (ks' := V6 (B.length) (B.length) (B.length) (1) (1) (1)) (ls' := V6 (pvC B) (rowsV n gs B.length) (pvC pv) ([.int .i64 (u : Int)]) ([.slice (some ⟨g, 0, none⟩) (n + n) (n + n)]) ([.int .i64 (c : Int)])) (six rfl rfl rfl rfl rfl rfl) (six rfl rfl rfl rfl rfl rfl) (six rfl rfl rfl rfl rfl rfl))
            clear HE
            obtain ⟨w51, hw51⟩ : ∃ W, W = w46.alloc (.cells #[.slice (some ⟨g, 0, none⟩) (n + n) (n + n)] 36) := ⟨_, rfl⟩
            obtain ⟨b51, hb51⟩ : ∃ b, b = w46.heap.size := ⟨_, rfl⟩
            rw [← hw51, ← hb51] at HE2
            rw [← hw51, ← hb51]
            have HE := HE2
            clear HE2 hw51 hb51
            refine hK _ _ (HQ.out _ _ HE.out.box) ?_
            clear hK K
            refine wpAnyL_one (o := ⟨some 67, _, _, _, _, _⟩) 9 (by kernel_rfl) rfl (fun K hK => ?_)
            go_wp2_with ((with_reducible refine at_append ?_); refine wpList_apG (z := .int .i64 0) (size := 1) (bytes := 8) (n := B.length) (m := 1) (news := [.int .i64 (u : Int)]) (xs := pvC B) (ad := ⟨b21, 0, none⟩) Tryd.underlying36 (by kernel_rfl) rfl (by decide) (by decide) rfl (.tmp 64) (.tmp 66) rfl rfl (HE.out.rn.own 0 (by decide)) rfl rfl ((HE.out.rn.own 3 (by decide)).cells (g := b21) rfl) (ones_one rfl) (by omega) HE.out.sz ?_; intro v9 w52 HO9 HG9 HA9 HB9)
            obtain ⟨A52, k52, e9, _, _⟩ := own_form HO9.out
            subst e9
            have HE2 := hideIt ((HE.out.step 0 (by decide) HG9.out HO9.out HA9.out).to (vs' := V6 (.slice A52 (B.length + 1) k52) (vR) (vP) (.slice (some ⟨b21, 0, none⟩) 1 1) (.slice (some ⟨b51, 0, none⟩) 1 1) (.slice (some ⟨b46, 0, none⟩) 1 1)) (ks' := V6 (B.length + 1) (B.length) (B.length) (1) (1) (1)) (ls' := V6 (pvC B ++ [.int .i64 (u : Int)]) (rowsV n gs B.length) (pvC pv) ([.int .i64 (u : Int)]) ([.slice (some ⟨g, 0, none⟩) (n + n) (n + n)]) ([.int .i64 (c : Int)])) (six rfl rfl rfl rfl rfl rfl) (six rfl rfl rfl rfl rfl rfl) (six rfl rfl rfl rfl rfl rfl))
            clear HE HO9 HG9 HA9 HB9
            have HE := HE2
            clear HE2
            refine hK _ _ (HQ.out _ _ HE.out.box) ?_
            clear hK K
            refine wpAnyL_one (o := ⟨some 74, _, _, _, _, _⟩) 16 (by kernel_rfl) rfl (fun K hK => ?_)
            go_wp2_with ((with_reducible refine at_append ?_); refine wpList_apG (z := .slice none 0 0) (size := 1) (bytes := 24) (n := B.length) (m := 1) (news := [.slice (some ⟨g, 0, none⟩) (n + n) (n + n)]) (xs := rowsV n gs B.length) (ad := ⟨b51, 0, none⟩) Tryd.underlying22 (by kernel_rfl) rfl (by decide) (by decide) rfl (.tmp 71) (.tmp 73) rfl rfl (HE.out.rn.own 1 (by decide)) rfl rfl ((HE.out.rn.own 4 (by decide)).cells (g := b51) rfl) (ones_one rfl) (by omega) HE.out.sz ?_; intro v9 w53 HO9 HG9 HA9 HB9)
            obtain ⟨A53, k53, e9, _, _⟩ := own_form HO9.out
            subst e9
            have HE2 := hideIt ((HE.out.step 1 (by decide) HG9.out HO9.out HA9.out).to (vs' := V6 (.slice A52 (B.length + 1) k52) (.slice A53 (B.length + 1) k53) (vP) (.slice (some ⟨b21, 0, none⟩) 1 1) (.slice (some ⟨b51, 0, none⟩) 1 1) (.slice (some ⟨b46, 0, none⟩) 1 1)) (ks' := V6 (B.length + 1) (B.length + 1) (B.length) (1) (1) (1)) (ls' := V6 (pvC B ++ [.int .i64 (u : Int)]) (rowsV n gs B.length ++ [.slice (some ⟨g, 0, none⟩) (n + n) (n + n)]) (pvC pv) ([.int .i64 (u : Int)]) ([.slice (some ⟨g, 0, none⟩) (n + n) (n + n)]) ([.int .i64 (c : Int)])) (six rfl rfl rfl rfl rfl rfl) (six rfl rfl rfl rfl rfl rfl) (six rfl rfl rfl rfl rfl rfl))
            clear HE HO9 HG9 HA9 HB9
            have HE := HE2
            clear HE2
            refine hK _ _ (HQ.out _ _ HE.out.box) ?_
            clear hK K
            refine wpAnyL_one (o := ⟨some 81, _, _, _, _, _⟩) 23 (by kernel_rfl) rfl (fun K hK => ?_)
            go_wp2_with ((with_reducible refine at_append ?_); refine wpList_apG (z := .int .i64 0) (size := 1) (bytes := 8) (n := B.length) (m := 1) (news := [.int .i64 (c : Int)]) (xs := pvC pv) (ad := ⟨b46, 0, none⟩) Tryd.underlying36 (by kernel_rfl) rfl (by decide) (by decide) rfl (.tmp 78) (.tmp 80) rfl rfl (HE.out.rn.own 2 (by decide)) rfl rfl ((HE.out.rn.own 5 (by decide)).cells (g := b46) rfl) (ones_one rfl) (by omega) HE.out.sz ?_; intro v9 w54 HO9 HG9 HA9 HB9)
            obtain ⟨A54, k54, e9, _, _⟩ := own_form HO9.out
            subst e9
            have HE2 := hideIt ((HE.out.step 2 (by decide) HG9.out HO9.out HA9.out).to (vs' := V6 (.slice A52 (B.length + 1) k52) (.slice A53 (B.length + 1) k53) (.slice A54 (B.length + 1) k54) (.slice (some ⟨b21, 0, none⟩) 1 1) (.slice (some ⟨b51, 0, none⟩) 1 1) (.slice (some ⟨b46, 0, none⟩) 1 1)) (ks' := V6 (B.length + 1) (B.length + 1) (B.length + 1) (1) (1) (1)) (ls' := V6 (pvC B ++ [.int .i64 (u : Int)]) (rowsV n gs B.length ++ [.slice (some ⟨g, 0, none⟩) (n + n) (n + n)]) (pvC pv ++ [.int .i64 (c : Int)]) ([.int .i64 (u : Int)]) ([.slice (some ⟨g, 0, none⟩) (n + n) (n + n)]) ([.int .i64 (c : Int)])) (six rfl rfl rfl rfl rfl rfl) (six rfl rfl rfl rfl rfl rfl) (six rfl rfl rfl rfl rfl rfl))
            clear HE HO9 HG9 HA9 HB9
            have HE := HE2
            clear HE2
            refine hK _ _ (HQ.out _ _ HE.out.box) ?_
            clear hK K
            refine loads_tail 24 (by kernel_rfl) (by kernel_rfl) (by kernel_rfl) (by kernel_rfl) ?_
            simp only [List.drop_succ_cons, List.drop_zero]
            obtain ⟨e4, e5, e6, f4, f5, f6⟩ := HC.out w54 HE.out.box
            go_wp2_with fail
            go_end0
            exact HF.out _ _ _ _ _ _ _ _ _ _ HE.out
      · go_wp2_with fail
        have HE2 := hideIt (show ES _ _ _ _ _ _ _ (w9.alloc (.cells #[.slice (some ⟨g, 0, none⟩) (n + n) (n + n)] 36)) _ _ _ from (HE.out.lit 4 (by decide) (.slice (some ⟨g, 0, none⟩) (n + n) (n + n))).to (vs' := V6 (vU) (vR) (vP) (.slice none 0 0) (.slice (some ⟨w9.heap.size, 0, none⟩) 1 1) (.slice none 0 0)) (ks' := V6 (B.length) (B.length) (B.length) (0) (1) (0)) (ls' := V6 (pvC B) (rowsV n gs B.length) (pvC pv) ([]) ([.slice (some ⟨g, 0, none⟩) (n + n) (n + n)]) ([])) (six rfl rfl rfl rfl rfl rfl) (six rfl rfl rfl rfl rfl rfl) (six rfl rfl rfl rfl rfl rfl))
        clear HE
        obtain ⟨w55, hw55⟩ : ∃ W, W = w9.alloc (.cells #[.slice (some ⟨g, 0, none⟩) (n + n) (n + n)] 36) := ⟨_, rfl⟩
        obtain ⟨b55, hb55⟩ : ∃ b, b = w9.heap.size := ⟨_, rfl⟩
        rw [← hw55, ← hb55] at HE2
        rw [← hw55, ← hb55]
        have HE := HE2
        clear HE2 hw55 hb55
        refine hK _ _ (HQ.out _ _ HE.out.box) ?_
        clear hK K
        refine wpAnyL_two (oi := ⟨some 66, _, _, _, _, _⟩) (oj := ⟨some 80, _, _, _, _, _⟩) 8 22 (by kernel_rfl) rfl rfl (fun K hK => ?_) (fun K hK => ?_)
        · go_wp2_with fail
          have HE2 := hideIt (show ES _ _ _ _ _ _ _ (w55.alloc (.cells #[.int .i64 (u : Int)] 3)) _ _ _ from (HE.out.lit 3 (by decide) (.int .i64 (u : Int))).to (vs' := V6 (vU) (vR) (vP) (.slice (some ⟨w55.heap.size, 0, none⟩) 1 1) (.slice (some ⟨b55, 0, none⟩) 1 1) (.slice none 0 0)) (ks' := V6 (B.length) (B.length) (B.length) (1) (1) (0)) (ls' := V6 (pvC B) (rowsV n gs B.length) (pvC pv) ([.int .i64 (u : Int)]) ([.slice (some ⟨g, 0, none⟩) (n + n) (n + n)]) ([])) (six rfl rfl rfl rfl rfl rfl) (six rfl rfl rfl rfl rfl rfl) (six rfl rfl rfl rfl rfl rfl))
          clear HE
          obtain ⟨w56, hw56⟩ : ∃ W, W = w55.alloc (.cells #[.int .i64 (u : Int)] 3) := ⟨_, rfl⟩
          obtain ⟨b56, hb56⟩ : ∃ b, b = w55.heap.size := ⟨_, rfl⟩
          rw [← hw56, ← hb56] at HE2
          rw [← hw56, ← hb56]
          have HE := HE2
          clear HE2 hw56 hb56
          refine hK _ _ (HQ.out _ _ HE.out.box) ?_
          clear hK K
          refine wpAnyL_two (oi := ⟨some 67, _, _, _, _, _⟩) (oj := ⟨some 80, _, _, _, _, _⟩) 9 22 (by kernel_rfl) rfl rfl (fun K hK => ?_) (fun K hK => ?_)
          · go_wp2_with ((with_reducible refine at_append ?_); refine wpList_apG (z := .int .i64 0) (size := 1) (bytes := 8) (n := B.length) (m := 1) (news := [.int .i64 (u : Int)]) (xs := pvC B) (ad := ⟨b56, 0, none⟩) Tryd.underlying36 (by kernel_rfl) rfl (by decide) (by decide) rfl (.tmp 64) (.tmp 66) rfl rfl (HE.out.rn.own 0 (by decide)) rfl rfl ((HE.out.rn.own 3 (by decide)).cells (g := b56) rfl) (ones_one rfl) (by omega) HE.out.sz ?_; intro v9 w57 HO9 HG9 HA9 HB9)
            obtain ⟨A57, k57, e9, _, _⟩ := own_form HO9.out
            subst e9
            have HE2 := hideIt ((HE.out.step 0 (by decide) HG9.out HO9.out HA9.out).to (vs' := V6 (.slice A57 (B.length + 1) k57) (vR) (vP) (.slice (some ⟨b56, 0, none⟩) 1 1) (.slice (some ⟨b55, 0, none⟩) 1 1) (.slice none 0 0)) (ks' := V6 (B.length + 1) (B.length) (B.length) (1) (1) (0)) (ls' := V6 (pvC B ++ [.int .i64 (u : Int)]) (rowsV n gs B.length) (pvC pv) ([.int .i64 (u : Int)]) ([.slice (some ⟨g, 0, none⟩) (n + n) (n + n)]) ([])) (six rfl rfl rfl rfl rfl rfl) (six rfl rfl rfl rfl rfl rfl) (six rfl rfl rfl rfl rfl rfl))
            clear HE HO9 HG9 HA9 HB9
            have HE := HE2
            clear HE2
            refine hK _ _ (HQ.out _ _ HE.out.box) ?_
            clear hK K
            refine wpAnyL_two (oi := ⟨some 74, _, _, _, _, _⟩) (oj := ⟨some 80, _, _, _, _, _⟩) 16 22 (by kernel_rfl) rfl rfl (fun K hK => ?_) (fun K hK => ?_)
            · go_wp2_with ((with_reducible refine at_append ?_); refine wpList_apG (z := .slice none 0 0) (size := 1) (bytes := 24) (n := B.length) (m := 1) (news := [.slice (some ⟨g, 0, none⟩) (n + n) (n + n)]) (xs := rowsV n gs B.length) (ad := ⟨b55, 0, none⟩) Tryd.underlying22 (by kernel_rfl) rfl (by decide) (by decide) rfl (.tmp 71) (.tmp 73) rfl rfl (HE.out.rn.own 1 (by decide)) rfl rfl ((HE.out.rn.own 4 (by decide)).cells (g := b55) rfl) (ones_one rfl) (by omega) HE.out.sz ?_; intro v9 w58 HO9 HG9 HA9 HB9)
              obtain ⟨A58, k58, e9, _, _⟩ := own_form HO9.out
              subst e9
              have HE2 := hideIt ((HE.out.step 1 (by decide) HG9.out HO9.out HA9.out).to (vs' := V6 (.slice A57 (B.length + 1) k57) (.slice A58 (B.length + 1) k58) (vP) (.slice (some ⟨b56, 0, none⟩) 1 1) (.slice (some ⟨b55, 0, none⟩) 1 1) (.slice none 0 0)) (ks' := V6 (B.length + 1) (B.length + 1) (B.length) (1) (1) (0)) (ls' := V6 (pvC B ++ [.int .i64 (u : Int)]) (rowsV n gs B.length ++ [.slice (some ⟨g, 0, none⟩) (n + n) (n + n)]) (pvC pv) ([.int .i64 (u : Int)]) ([.slice (some ⟨g, 0, none⟩) (n + n) (n + n)]) ([])) (six rfl rfl rfl rfl rfl rfl) (six rfl rfl rfl rfl rfl rfl) (six rfl rfl rfl rfl rfl rfl))
              clear HE HO9 HG9 HA9 HB9
              have HE := HE2
              clear HE2
              refine hK _ _ (HQ.out _ _ HE.out.box) ?_
              clear hK K
              refine wpAnyL_one (o := ⟨some 80, _, _, _, _, _⟩) 22 (by kernel_rfl) rfl (fun K hK => ?_)
              go_wp2_with fail
              have HE2 := hideIt (show ES _ _ _ _ _ _ _ (w58.alloc (.cells #[.int .i64 (c : Int)] 3)) _ _ _ from (HE.out.lit 5 (by decide) (.int .i64 (c : Int))).to (vs' := V6 (.slice A57 (B.length + 1) k57) (.slice A58 (B.length + 1) k58) (vP) (.slice (some ⟨b56, 0, none⟩) 1 1) (.slice (some ⟨b55, 0, none⟩) 1 1) (.slice (some ⟨w58.heap.size, 0, none⟩) 1 1)) (ks' := V6 (B.length + 1) (B.length + 1) (B.length) (1) (1) (1)) (ls' := V6 (pvC B ++ [.int .i64 (u : Int)]) (rowsV n gs B.length ++ [.slice (some ⟨g, 0, none⟩) (n + n) (n + n)]) (pvC pv) ([.int .i64 (u : Int)]) ([.slice (some ⟨g, 0, none⟩) (n + n) (n + n)]) ([.int .i64 (c : Int)])) (six rfl rfl rfl rfl rfl rfl) (six rfl rfl rfl rfl rfl rfl) (six rfl rfl rfl rfl rfl rfl))
              clear HE
              obtain ⟨w59, hw59⟩ : ∃ W, W = w58.alloc (.cells #[.int .i64 (c : Int)] 3) := ⟨_, rfl⟩
              obtain ⟨b59, hb59⟩ : ∃ b, b = w58.heap.size := ⟨_, rfl⟩
              rw [← hw59, ← hb59] at HE2
              rw [← hw59, ← hb59]
              have HE := HE2
              clear HE2 hw59 hb59
              refine hK _ _ (HQ.out _ _ HE.out.box) ?_
              clear hK K
              refine wpAnyL_one (o := ⟨some 81, _, _, _, _, _⟩) 23 (by kernel_rfl) rfl (fun K hK => ?_)
              go_wp2_with ((with_reducible refine at_append ?_); refine wpList_apG (z := .int .i64 0) (size := 1) (bytes := 8) (n := B.length) (m := 1) (news := [.int .i64 (c : Int)]) (xs := pvC pv) (ad := ⟨b59, 0, none⟩) Tryd.underlying36 (by kernel_rfl) rfl (by decide) (by decide) rfl (.tmp 78) (.tmp 80) rfl rfl (HE.out.rn.own 2 (by decide)) rfl rfl ((HE.out.rn.own 5 (by decide)).cells (g := b59) rfl) (ones_one rfl) (by omega) HE.out.sz ?_; intro v9 w60 HO9 HG9 HA9 HB9)
              obtain ⟨A60, k60, e9, _, _⟩ := own_form HO9.out
              subst e9
              have HE2 := hideIt ((HE.out.step 2 (by decide) HG9.out HO9.out HA9.out).to (vs' := V6 (.slice A57 (B.length + 1) k57) (.slice A58 (B.length + 1) k58) (.slice A60 (B.length + 1) k60) (.slice (some ⟨b56, 0, none⟩) 1 1) (.slice (some ⟨b55, 0, none⟩) 1 1) (.slice (some ⟨b59, 0, none⟩) 1 1)) (ks' := V6 (B.length + 1) (B.length + 1) (B.length + 1) (1) (1) (1)) (ls' := V6 (pvC B ++ [.int .i64 (u : Int)]) (rowsV n gs B.length ++ [.slice (some ⟨g, 0, none⟩) (n + n) (n + n)]) (pvC pv ++ [.int .i64 (c : Int)]) ([.int .i64 (u : Int)]) ([.slice (some ⟨g, 0, none⟩) (n + n) (n + n)]) ([.int .i64 (c : Int)])) (six rfl rfl rfl rfl rfl rfl) (six rfl rfl rfl rfl rfl rfl) (six rfl rfl rfl rfl rfl rfl))
              clear HE HO9 HG9 HA9 HB9
              have HE := HE2
              clear HE2
              refine hK _ _ (HQ.out _ _ HE.out.box) ?_
              clear hK K
              refine loads_tail 24 (by kernel_rfl) (by kernel_rfl) (by kernel_rfl) (by kernel_rfl) ?_
              simp only [List.drop_succ_cons, List.drop_zero]
              obtain ⟨e4, e5, e6, f4, f5, f6⟩ := HC.out w60 HE.out.box
              go_wp2_with fail
              go_end0
              exact HF.out _ _ _ _ _ _ _ _ _ _ HE.out
            · go_wp2_with fail
              have HE2 := hideIt (show ES _ _ _ _ _ _ _ (w57.alloc (.cells #[.int .i64 (c : Int)] 3)) _ _ _ from (HE.out.lit 5 (by decide) (.int .i64 (c : Int))).to (vs' := V6 (.slice A57 (B.length + 1) k57) (vR) (vP) (.slice (some ⟨b56, 0, none⟩) 1 1) (.slice (some ⟨b55, 0, none⟩) 1 1) (.slice (some ⟨w57.heap.size, 0, none⟩) 1 1)) (ks' := V6 (B.length + 1) (B.length) (B.length) (1) (1) (1)) (ls' := V6 (pvC B ++ [.int .i64 (u : Int)]) (rowsV n gs B.length) (pvC pv) ([.int .i64 (u : Int)]) ([.slice (some ⟨g, 0, none⟩) (n + n) (n + n)]) ([.int .i64 (c : Int)])) (six rfl rfl rfl rfl rfl rfl) (six rfl rfl rfl rfl rfl rfl) (six rfl rfl rfl rfl rfl rfl))
              clear HE
              obtain ⟨w61, hw61⟩ : ∃ W, W = w57.alloc (.cells #[.int .i64 (c : Int)] 3) := ⟨_, rfl⟩
              obtain ⟨b61, hb61⟩ : ∃ b, b = w57.heap.size := ⟨_, rfl⟩
              rw [← hw61, ← hb61] at HE2
              rw [← hw61, ← hb61]
              have HE := HE2
              clear HE2 hw61 hb61
              refine hK _ _ (HQ.out _ _ HE.out.box) ?_
              clear hK K
              refine wpAnyL_one (o := ⟨some 74, _, _, _, _, _⟩) 16 (by kernel_rfl) rfl (fun K hK => ?_)
              go_wp2_with ((with_reducible refine at_append ?_); refine wpList_apG (z := .slice none 0 0) (size := 1) (bytes := 24) (n := B.length) (m := 1) (news := [.slice (some ⟨g, 0, none⟩) (n + n) (n + n)]) (xs := rowsV n gs B.length) (ad := ⟨b55, 0, none⟩) Tryd.underlying22 (by kernel_rfl) rfl (by decide) (by decide) rfl (.tmp 71) (.tmp 73) rfl rfl (HE.out.rn.own 1 (by decide)) rfl rfl ((HE.out.rn.own 4 (by decide)).cells (g := b55) rfl) (ones_one rfl) (by omega) HE.out.sz ?_; intro v9 w62 HO9 HG9 HA9 HB9)
              obtain ⟨A62, k62, e9, _, _⟩ := own_form HO9.out
              subst e9
              have HE2 := hideIt ((HE.out.step 1 (by decide) HG9.out HO9.out HA9.out).to (vs' := V6 (.slice A57 (B.length + 1) k57) (.slice A62 (B.length + 1) k62) (vP) (.slice (some ⟨b56, 0, none⟩) 1 1) (.slice (some ⟨b55, 0, none⟩) 1 1) (.slice (some ⟨b61, 0, none⟩) 1 1)) (ks' := V6 (B.length + 1) (B.length + 1) (B.length) (1) (1) (1)) (ls' := V6 (pvC B ++ [.int .i64 (u : Int)]) (rowsV n gs B.length ++ [.slice (some ⟨g, 0, none⟩) (n + n) (n + n)]) (pvC pv) ([.int .i64 (u : Int)]) ([.slice (some ⟨g, 0, none⟩) (n + n) (n + n)]) ([.int .i64 (c : Int)])) (six rfl rfl rfl rfl rfl rfl) (six rfl rfl rfl rfl rfl rfl) (six rfl rfl rfl rfl rfl rfl))
              clear HE HO9 HG9 HA9 HB9
              have HE := HE2
              clear HE2
              refine hK _ _ (HQ.out _ _ HE.out.box) ?_
              clear hK K
              refine wpAnyL_one (o := ⟨some 81, _, _, _, _, _⟩) 23 (by kernel_rfl) rfl (fun K hK => ?_)
              go_wp2_with ((with_reducible refine at_append ?_); refine wpList_apG (z := .int .i64 0) (size := 1) (bytes := 8) (n := B.length) (m := 1) (news := [.int .i64 (c : Int)]) (xs := pvC pv) (ad := ⟨b61, 0, none⟩) Tryd.underlying36 (by kernel_rfl) rfl (by decide) (by decide) rfl (.tmp 78) (.tmp 80) rfl rfl (HE.out.rn.own 2 (by decide)) rfl rfl ((HE.out.rn.own 5 (by decide)).cells (g := b61) rfl) (ones_one rfl) (by omega) HE.out.sz ?_; intro v9 w63 HO9 HG9 HA9 HB9)
              obtain ⟨A63, k63, e9, _, _⟩ := own_form HO9.out
              subst e9
              have HE2 := hideIt ((HE.out.step 2 (by decide) HG9.out HO9.out HA9.out).to (vs' := V6 (.slice A57 (B.length + 1) k57) (.slice A62 (B.length + 1) k62) (.slice A63 (B.length + 1) k63) (.slice (some ⟨b56, 0, none⟩) 1 1) (.slice (some ⟨b55, 0, none⟩) 1 1) (.slice (some ⟨b61, 0, none⟩) 1 1)) (ks' := V6 (B.length + 1) (B.length + 1) (B.length + 1) (1) (1) (1)) (ls' := V6 (pvC B ++ [.int .i64 (u : Int)]) (rowsV n gs B.length ++ [.slice (some ⟨g, 0, none⟩) (n + n) (n + n)]) (pvC pv ++ [.int .i64 (c : Int)]) ([.int .i64 (u : Int)]) ([.slice (some ⟨g, 0, none⟩) (n + n) (n + n)]) ([.int .i64 (c : Int)])) (six rfl rfl rfl rfl rfl rfl) (six rfl rfl rfl rfl rfl rfl) (six rfl rfl rfl rfl rfl rfl))
              clear HE HO9 HG9 HA9 HB9
              have HE := HE2
              clear HE2
              refine hK _ _ (HQ.out _ _ HE.out.box) ?_
              clear hK K
              refine loads_tail 24 (by kernel_rfl) (by kernel_rfl) (by kernel_rfl) (by kernel_rfl) ?_
              simp only [List.drop_succ_cons, List.drop_zero]
              obtain ⟨e4, e5, e6, f4, f5, f6⟩ := HC.out w63 HE.out.box
              go_wp2_with fail
              go_end0
              exact HF.out _ _ _ _ _ _ _ _ _ _ HE.out
          · go_wp2_with fail
            have HE2 := hideIt (show ES _ _ _ _ _ _ _ (w56.alloc (.cells #[.int .i64 (c : Int)] 3)) _ _ _ from (HE.out.lit 5 (by decide) (.int .i64 (c : Int))).to (vs' := V6 (vU) (vR) (vP) (.slice (some ⟨b56, 0, none⟩) 1 1) (.slice (some ⟨b55, 0, none⟩) 1 1) (.slice (some ⟨w56.heap.size, 0, none⟩) 1 1)) (ks' := V6 (B.length) (B.length) (B.length) (1) (1) (1)) (ls' := V6 (pvC B) (rowsV n gs B.length) (pvC pv) ([.int .i64 (u : Int)]) ([.slice (some ⟨g, 0, none⟩) (n + n) (n + n)]) ([.int .i64 (c : Int)])) (six rfl rfl rfl rfl rfl rfl) (six rfl rfl rfl rfl rfl rfl) (six rfl rfl rfl rfl rfl rfl))
            clear HE
            obtain ⟨w64, hw64⟩ : ∃ W, W = w56.alloc (.cells #[.int .i64 (c : Int)] 3) := ⟨_, rfl⟩
            obtain ⟨b64, hb64⟩ : ∃ b, b = w56.heap.size := ⟨_, rfl⟩
            rw [← hw64, ← hb64] at HE2
            rw [← hw64, ← hb64]
            have HE := HE2
            clear HE2 hw64 hb64
            refine hK _ _ (HQ.out _ _ HE.out.box) ?_
            clear hK K
            refine wpAnyL_one (o := ⟨some 67, _, _, _, _, _⟩) 9 (by kernel_rfl) rfl (fun K hK => ?_)
            go_wp2_with ((with_reducible refine at_append ?_); refine wpList_apG (z := .int .i64 0) (size := 1) (bytes := 8) (n := B.length) (m := 1) (news := [.int .i64 (u : Int)]) (xs := pvC B) (ad := ⟨b56, 0, none⟩) Tryd.underlying36 (by kernel_rfl) rfl (by decide) (by decide) rfl (.tmp 64) (.tmp 66) rfl rfl (HE.out.rn.own 0 (by decide)) rfl rfl ((HE.out.rn.own 3 (by decide)).cells (g := b56) rfl) (ones_one rfl) (by omega) HE.out.sz ?_; intro v9 w65 HO9 HG9 HA9 HB9)
            obtain ⟨A65, k65, e9, _, _⟩ := own_form HO9.out
            subst e9
            have HE2 := hideIt ((HE.out.step 0 (by decide) HG9.out HO9.out HA9.out).to (vs' := V6 (.slice A65 (B.length + 1) k65) (vR) (vP) (.slice (some ⟨b56, 0, none⟩) 1 1) (.slice (some ⟨b55, 0, none⟩) 1 1) (.slice (some ⟨b64, 0, none⟩) 1 1)) (ks' := V6 (B.length + 1) (B.length) (B.length) (1) (1) (1)) (ls' := V6 (pvC B ++ [.int .i64 (u : Int)]) (rowsV n gs B.length) (pvC pv) ([.int .i64 (u : Int)]) ([.slice (some ⟨g, 0, none⟩) (n + n) (n + n)]) ([.int .i64 (c : Int)])) (six rfl rfl rfl rfl rfl rfl) (six rfl rfl rfl rfl rfl rfl) (six rfl rfl rfl rfl rfl rfl))
            clear HE HO9 HG9 HA9 HB9
            have HE := HE2
            clear HE2
            refine hK _ _ (HQ.out _ _ HE.out.box) ?_
            clear hK K
            refine wpAnyL_one (o := ⟨some 74, _, _, _, _, _⟩) 16 (by kernel_rfl) rfl (fun K hK => ?_)
            go_wp2_with ((with_reducible refine at_append ?_); refine wpList_apG (z := .slice none 0 0) (size := 1) (bytes := 24) (n := B.length) (m := 1) (news := [.slice (some ⟨g, 0, none⟩) (n + n) (n + n)]) (xs := rowsV n gs B.length) (ad := ⟨b55, 0, none⟩) Tryd.underlying22 (by kernel_rfl) rfl (by decide) (by decide) rfl (.tmp 71) (.tmp 73) rfl rfl (HE.out.rn.own 1 (by decide)) rfl rfl ((HE.out.rn.own 4 (by decide)).cells (g := b55) rfl) (ones_one rfl) (by omega) HE.out.sz ?_; intro v9 w66 HO9 HG9 HA9 HB9)
            obtain ⟨A66, k66, e9, _, _⟩ := own_form HO9.out
            subst e9
            have HE2 := hideIt ((HE.out.step 1 (by decide) HG9.out HO9.out HA9.out).to (vs' := V6 (.slice A65 (B.length + 1) k65) (.slice A66 (B.length + 1) k66) (vP) (.slice (some ⟨b56, 0, none⟩) 1 1) (.slice (some ⟨b55, 0, none⟩) 1 1) (.slice (some ⟨b64, 0, none⟩) 1 1)) (ks' := V6 (B.length + 1) (B.length + 1) (B.length) (1) (1) (1)) (ls' := V6 (pvC B ++ [.int .i64 (u : Int)]) (rowsV n gs B.length ++ [.slice (some ⟨g, 0, none⟩) (n + n) (n + n)]) (pvC pv) ([.int .i64 (u : Int)]) ([.slice (some ⟨g, 0, none⟩) (n + n) (n + n)]) ([.int .i64 (c : Int)])) (six rfl rfl rfl rfl rfl rfl) (six rfl rfl rfl rfl rfl rfl) (six rfl rfl rfl rfl rfl rfl))
            clear HE HO9 HG9 HA9 HB9
            have HE := HE2
            clear HE2
            refine hK _ _ (HQ.out _ _ HE.out.box) ?_
            clear hK K
            refine wpAnyL_one (o := ⟨some 81, _, _, _, _, _⟩) 23 (by kernel_rfl) rfl (fun K hK => ?_)
            go_wp2_with ((with_reducible refine at_append ?_); refine wpList_apG (z := .int .i64 0) (size := 1) (bytes := 8) (n := B.length) (m := 1) (news := [.int .i64 (c : Int)]) (xs := pvC pv) (ad := ⟨b64, 0, none⟩) Tryd.underlying36 (by kernel_rfl) rfl (by decide) (by decide) rfl (.tmp 78) (.tmp 80) rfl rfl (HE.out.rn.own 2 (by decide)) rfl rfl ((HE.out.rn.own 5 (by decide)).cells (g := b64) rfl) (ones_one rfl) (by omega) HE.out.sz ?_; intro v9 w67 HO9 HG9 HA9 HB9)
            obtain ⟨A67, k67, e9, _, _⟩ := own_form HO9.out
            subst e9
            have HE2 := hideIt ((HE.out.step 2 (by decide) HG9.out HO9.out HA9.out).to (vs' := V6 (.slice A65 (B.length + 1) k65) (.slice A66 (B.length + 1) k66) (.slice A67 (B.length + 1) k67) (.slice (some ⟨b56, 0, none⟩) 1 1) (.slice (some ⟨b55, 0, none⟩) 1 1) (.slice (some ⟨b64, 0, none⟩) 1 1)) (ks' := V6 (B.length + 1) (B.length + 1) (B.length + 1) (1) (1) (1)) (ls' := V6 (pvC B ++ [.int .i64 (u : Int)]) (rowsV n gs B.length ++ [.slice (some ⟨g, 0, none⟩) (n + n) (n + n)]) (pvC pv ++ [.int .i64 (c : Int)]) ([.int .i64 (u : Int)]) ([.slice (some ⟨g, 0, none⟩) (n + n) (n + n)]) ([.int .i64 (c : Int)])) (six rfl rfl rfl rfl rfl rfl) (six rfl rfl rfl rfl rfl rfl) (six rfl rfl rfl rfl rfl rfl))
            clear HE HO9 HG9 HA9 HB9
            have HE := HE2
            clear HE2
            refine hK _ _ (HQ.out _ _ HE.out.box) ?_
            clear hK K
            refine loads_tail 24 (by kernel_rfl) (by kernel_rfl) (by kernel_rfl) (by kernel_rfl) ?_
            simp only [List.drop_succ_cons, List.drop_zero]
            obtain ⟨e4, e5, e6, f4, f5, f6⟩ := HC.out w67 HE.out.box
            go_wp2_with fail
            go_end0
            exact HF.out _ _ _ _ _ _ _ _ _ _ HE.out
        · go_wp2_with fail
          have HE2 := hideIt (show ES _ _ _ _ _ _ _ (w55.alloc (.cells #[.int .i64 (c : Int)] 3)) _ _ _ from (HE.out.lit 5 (by decide) (.int .i64 (c : Int))).to (vs' := V6 (vU) (vR) (vP) (.slice none 0 0) (.slice (some ⟨b55, 0, none⟩) 1 1) (.slice (some ⟨w55.heap.size, 0, none⟩) 1 1)) (ks' := V6 (B.length) (B.length) (B.length) (0) (1) (1)) (ls' := V6 (pvC B) (rowsV n gs B.length) (pvC pv) ([]) ([.slice (some ⟨g, 0, none⟩) (n + n) (n + n)]) ([.int .i64 (c : Int)])) (six rfl rfl rfl rfl rfl rfl) (six rfl rfl rfl rfl rfl rfl) (six rfl rfl rfl rfl rfl rfl))
          clear HE
          obtain ⟨w68, hw68⟩ : ∃ W, W = w55.alloc (.cells #[.int .i64 (c : Int)] 3) := ⟨_, rfl⟩
          obtain ⟨b68, hb68⟩ : ∃ b, b = w55.heap.size := ⟨_, rfl⟩
          rw [← hw68, ← hb68] at HE2
          rw [← hw68, ← hb68]
          have HE := HE2
          clear HE2 hw68 hb68
          refine hK _ _ (HQ.out _ _ HE.out.box) ?_
          clear hK K
          refine wpAnyL_one (o := ⟨some 66, _, _, _, _, _⟩) 8 (by kernel_rfl) rfl (fun K hK => ?_)
          go_wp2_with fail
          have HE2 := hideIt (show ES _ _ _ _ _ _ _ (w68.alloc (.cells #[.int .i64 (u : Int)] 3)) _ _ _ from (HE.out.lit 3 (by decide) (.int .i64 (u : Int))).to (vs' := V6 (vU) (vR) (vP) (.slice (some ⟨w68.heap.size, 0, none⟩) 1 1) (.slice (some ⟨b55, 0, none⟩) 1 1) (.slice (some ⟨b68, 0, none⟩) 1 1)) (ks' := V6 (B.length) (B.length) (B.length) (1) (1) (1)) (ls' := V6 (pvC B) (rowsV n gs B.length) (pvC pv) ([.int .i64 (u : Int)]) ([.slice (some ⟨g, 0, none⟩) (n + n) (n + n)]) ([.int .i64 (c : Int)])) (six rfl rfl rfl rfl rfl rfl) (six rfl rfl rfl rfl rfl rfl) (six rfl rfl rfl rfl rfl rfl))
          clear HE
          obtain ⟨w69, hw69⟩ : ∃ W, W = w68.alloc (.cells #[.int .i64 (u : Int)] 3) := ⟨_, rfl⟩
          obtain ⟨b69, hb69⟩ : ∃ b, b = w68.heap.size := ⟨_, rfl⟩
          rw [← hw69, ← hb69] at HE2
          rw [← hw69, ← hb69]
          have HE := HE2
          clear HE2 hw69 hb69
          refine hK _ _ (HQ.out _ _ HE.out.box) ?_
          clear hK K
          refine wpAnyL_one (o := ⟨some 67, _, _, _, _, _⟩) 9 (by kernel_rfl) rfl (fun K hK => ?_)
          go_wp2_with ((with_reducible refine at_append ?_); refine wpList_apG (z := .int .i64 0) (size := 1) (bytes := 8) (n := B.length) (m := 1) (news := [.int .i64 (u : Int)]) (xs := pvC B) (ad := ⟨b69, 0, none⟩) Tryd.underlying36 (by kernel_rfl) rfl (by decide) (by decide) rfl (.tmp 64) (.tmp 66) rfl rfl (HE.out.rn.own 0 (by decide)) rfl rfl ((HE.out.rn.own 3 (by decide)).cells (g := b69) rfl) (ones_one rfl) (by omega) HE.out.sz ?_; intro v9 w70 HO9 HG9 HA9 HB9)
          obtain ⟨A70, k70, e9, _, _⟩ := own_form HO9.out
          subst e9
          have HE2 := hideIt ((HE.out.step 0 (by decide) HG9.out HO9.out HA9.out).to (vs' := V6 (.slice A70 (B.length + 1) k70) (vR) (vP) (.slice (some ⟨b69, 0, none⟩) 1 1) (.slice (some ⟨b55, 0, none⟩) 1 1) (.slice (some ⟨b68, 0, none⟩) 1 1)) (ks' := V6 (B.length + 1) (B.length) (B.length) (1) (1) (1)) (ls' := V6 (pvC B ++ [.int .i64 (u : Int)]) (rowsV n gs B.length) (pvC pv) ([.int .i64 (u : Int)]) ([.slice (some ⟨g, 0, none⟩) (n + n) (n + n)]) ([.int .i64 (c : Int)])) (six rfl rfl rfl rfl rfl rfl) (six rfl rfl rfl rfl rfl rfl) (six rfl rfl rfl rfl rfl rfl))
          clear HE HO9 HG9 HA9 HB9
          have HE := HE2
          clear HE2
          refine hK _ _ (HQ.out _ _ HE.out.box) ?_
          clear hK K
          refine wpAnyL_one (o := ⟨some 74, _, _, _, _, _⟩) 16 (by kernel_rfl) rfl (fun K hK => ?_)
          go_wp2_with ((with_reducible refine at_append ?_); refine wpList_apG (z := .slice none 0 0) (size := 1) (bytes := 24) (n := B.length) (m := 1) (news := [.slice (some ⟨g, 0, none⟩) (n + n) (n + n)]) (xs := rowsV n gs B.length) (ad := ⟨b55, 0, none⟩) Tryd.underlying22 (by kernel_rfl) rfl (by decide) (by decide) rfl (.tmp 71) (.tmp 73) rfl rfl (HE.out.rn.own 1 (by decide)) rfl rfl ((HE.out.rn.own 4 (by decide)).cells (g := b55) rfl) (ones_one rfl) (by omega) HE.out.sz ?_; intro v9 w71 HO9 HG9 HA9 HB9)
          obtain ⟨A71, k71, e9, _, _⟩ := own_form HO9.out
          subst e9
          have HE2 := hideIt ((HE.out.step 1 (by decide) HG9.out HO9.out HA9.out).to (vs' := V6 (.slice A70 (B.length + 1) k70) (.slice A71 (B.length + 1) k71) (vP) (.slice (some ⟨b69, 0, none⟩) 1 1) (.slice (some ⟨b55, 0, none⟩) 1 1) (.slice (some ⟨b68, 0, none⟩) 1 1)) (ks' := V6 (B.length + 1) (B.length + 1) (B.length) (1) (1) (1)) (ls' := V6 (pvC B ++ [.int .i64 (u : Int)]) (rowsV n gs B.length ++ [.slice (some ⟨g, 0, none⟩) (n + n) (n + n)]) (pvC pv) ([.int .i64 (u : Int)]) ([.slice (some ⟨g, 0, none⟩) (n + n) (n + n)]) ([.int .i64 (c : Int)])) (six rfl rfl rfl rfl rfl rfl) (six rfl rfl rfl rfl rfl rfl) (six rfl rfl rfl rfl rfl rfl))
          clear HE HO9 HG9 HA9 HB9
          have HE := HE2
          clear HE2
          refine hK _ _ (HQ.out _ _ HE.out.box) ?_
          clear hK K
          refine wpAnyL_one (o := ⟨some 81, _, _, _, _, _⟩) 23 (by kernel_rfl) rfl (fun K hK => ?_)
          go_wp2_with ((with_reducible refine at_append ?_); refine wpList_apG (z := .int .i64 0) (size := 1) (bytes := 8) (n := B.length) (m := 1) (news := [.int .i64 (c : Int)]) (xs := pvC pv) (ad := ⟨b68, 0, none⟩) Tryd.underlying36 (by kernel_rfl) rfl (by decide) (by decide) rfl (.tmp 78) (.tmp 80) rfl rfl (HE.out.rn.own 2 (by decide)) rfl rfl ((HE.out.rn.own 5 (by decide)).cells (g := b68) rfl) (ones_one rfl) (by omega) HE.out.sz ?_; intro v9 w72 HO9 HG9 HA9 HB9)
          obtain ⟨A72, k72, e9, _, _⟩ := own_form HO9.out
          subst e9
          have HE2 := hideIt ((HE.out.step 2 (by decide) HG9.out HO9.out HA9.out).to (vs' := V6 (.slice A70 (B.length + 1) k70) (.slice A71 (B.length + 1) k71) (.slice A72 (B.length + 1) k72) (.slice (some ⟨b69, 0, none⟩) 1 1) (.slice (some ⟨b55, 0, none⟩) 1 1) (.slice (some ⟨b68, 0, none⟩) 1 1)) (ks' := V6 (B.length + 1) (B.length + 1) (B.length + 1) (1) (1) (1)) (ls' := V6 (pvC B ++ [.int .i64 (u : Int)]) (rowsV n gs B.length ++ [.slice (some ⟨g, 0, none⟩) (n + n) (n + n)]) (pvC pv ++ [.int .i64 (c : Int)]) ([.int .i64 (u : Int)]) ([.slice (some ⟨g, 0, none⟩) (n + n) (n + n)]) ([.int .i64 (c : Int)])) (six rfl rfl rfl rfl rfl rfl) (six rfl rfl rfl rfl rfl rfl) (six rfl rfl rfl rfl rfl rfl))
          clear HE HO9 HG9 HA9 HB9
          have HE := HE2
          clear HE2
          refine hK _ _ (HQ.out _ _ HE.out.box) ?_
          clear hK K
          refine loads_tail 24 (by kernel_rfl) (by kernel_rfl) (by kernel_rfl) (by kernel_rfl) ?_
          simp only [List.drop_succ_cons, List.drop_zero]
          obtain ⟨e4, e5, e6, f4, f5, f6⟩ := HC.out w72 HE.out.box
          go_wp2_with fail
          go_end0
          exact HF.out _ _ _ _ _ _ _ _ _ _ HE.out
      · go_wp2_with fail
        have HE2 := hideIt (show ES _ _ _ _ _ _ _ (w9.alloc (.cells #[.int .i64 (c : Int)] 3)) _ _ _ from (HE.out.lit 5 (by decide) (.int .i64 (c : Int))).to (vs' := V6 (vU) (vR) (vP) (.slice none 0 0) (.slice none 0 0) (.slice (some ⟨w9.heap.size, 0, none⟩) 1 1)) (ks' := V6 (B.length) (B.length) (B.length) (0) (0) (1)) (ls' := V6 (pvC B) (rowsV n gs B.length) (pvC pv) ([]) ([]) ([.int .i64 (c : Int)])) (six rfl rfl rfl rfl rfl rfl) (six rfl rfl rfl rfl rfl rfl) (six rfl rfl rfl rfl rfl rfl))
        clear HE
        obtain ⟨w73, hw73⟩ : ∃ W, W = w9.alloc (.cells #[.int .i64 (c : Int)] 3) := ⟨_, rfl⟩
        obtain ⟨b73, hb73⟩ : ∃ b, b = w9.heap.size := ⟨_, rfl⟩
        rw [← hw73, ← hb73] at HE2
        rw [← hw73, ← hb73]
        have HE := HE2
        clear HE2 hw73 hb73
        refine hK _ _ (HQ.out _ _ HE.out.box) ?_
        clear hK K
        refine wpAnyL_two (oi := ⟨some 66, _, _, _, _, _⟩) (oj := ⟨some 73, _, _, _, _, _⟩) 8 15 (by kernel_rfl) rfl rfl (fun K hK => ?_) (fun K hK => ?_)
        · go_wp2_with fail
          have HE2 := hideIt (show ES _ _ _ _ _ _ _ (w73.alloc (.cells #[.int .i64 (u : Int)] 3)) _ _ _ from (HE.out.lit 3 (by decide) (.int .i64 (u : Int))).to (vs' := V6 (vU) (vR) (vP) (.slice (some ⟨w73.heap.size, 0, none⟩) 1 1) (.slice none 0 0) (.slice (some ⟨b73, 0, none⟩) 1 1)) (ks' := V6 (B.length) (B.length) (B.length) (1) (0) (1)) (ls' := V6 (pvC B) (rowsV n gs B.length) (pvC pv) ([.int .i64 (u : Int)]) ([]) ([.int .i64 (c : Int)])) (six rfl rfl rfl rfl rfl rfl) (six rfl rfl rfl rfl rfl rfl) (six rfl rfl rfl rfl rfl rfl))
          clear HE
          obtain ⟨w74, hw74⟩ : ∃ W, W = w73.alloc (.cells #[.int .i64 (u : Int)] 3) := ⟨_, rfl⟩
          obtain ⟨b74, hb74⟩ : ∃ b, b = w73.heap.size := ⟨_, rfl⟩
          rw [← hw74, ← hb74] at HE2
          rw [← hw74, ← hb74]
          have HE := HE2
          clear HE2 hw74 hb74
          refine hK _ _ (HQ.out _ _ HE.out.box) ?_
          clear hK K
          refine wpAnyL_two (oi := ⟨some 67, _, _, _, _, _⟩) (oj := ⟨some 73, _, _, _, _, _⟩) 9 15 (by kernel_rfl) rfl rfl (fun K hK => ?_) (fun K hK => ?_)
          · go_wp2_with ((with_reducible refine at_append ?_); refine wpList_apG (z := .int .i64 0) (size := 1) (bytes := 8) (n := B.length) (m := 1) (news := [.int .i64 (u : Int)]) (xs := pvC B) (ad := ⟨b74, 0, none⟩) Tryd.underlying36 (by kernel_rfl) rfl (by decide) (by decide) rfl (.tmp 64) (.tmp 66) rfl rfl (HE.out.rn.own 0 (by decide)) rfl rfl ((HE.out.rn.own 3 (by decide)).cells (g := b74) rfl) (ones_one rfl) (by omega) HE.out.sz ?_; intro v9 w75 HO9 HG9 HA9 HB9)
            obtain ⟨A75, k75, e9, _, _⟩ := own_form HO9.out
            subst e9
            have HE2 := hideIt ((HE.out.step 0 (by decide) HG9.out HO9.out HA9.out).to (vs' := V6 (.slice A75 (B.length + 1) k75) (vR) (vP) (.slice (some ⟨b74, 0, none⟩) 1 1) (.slice none 0 0) (.slice (some ⟨b73, 0, none⟩) 1 1)) (ks' := V6 (B.length + 1) (B.length) (B.length) (1) (0) (1)) (ls' := V6 (pvC B ++ [.int .i64 (u : Int)]) (rowsV n gs B.length) (pvC pv) ([.int .i64 (u : Int)]) ([]) ([.int .i64 (c : Int)])) (six rfl rfl rfl rfl rfl rfl) (six rfl rfl rfl rfl rfl rfl) (six rfl rfl rfl rfl rfl rfl))
            clear HE HO9 HG9 HA9 HB9
            have HE := HE2
            clear HE2
            refine hK _ _ (HQ.out _ _ HE.out.box) ?_
            clear hK K
            refine wpAnyL_one (o := ⟨some 73, _, _, _, _, _⟩) 15 (by kernel_rfl) rfl (fun K hK => ?_)
            go_wp2_with fail
            have HE2 := hideIt (show ES _ _ _ _ _ _ _ (w75.alloc (.cells #[.slice (some ⟨g, 0, none⟩) (n + n) (n + n)] 36)) _ _ _ from (HE.out.lit 4 (by decide) (.slice (some ⟨g, 0, none⟩) (n + n) (n + n))).to (vs' := V6 (.slice A75 (B.length + 1) k75) (vR) (vP) (.slice (some ⟨b74, 0, none⟩) 1 1) (.slice (some ⟨w75.heap.size, 0, none⟩) 1 1) (.slice (some ⟨b73, 0, none⟩) 1 1)) (ks' := V6 (B.length + 1) (B.length) (B.length) (1) (1) (1)) (ls' := V6 (pvC B ++ [.int .i64 (u : Int)]) (rowsV n gs B.length) (pvC pv) ([.int .i64 (u : Int)]) ([.slice (some ⟨g, 0, none⟩) (n + n) (n + n)]) ([.int .i64 (c : Int)])) (six rfl rfl rfl rfl rfl rfl) (six rfl rfl rfl rfl rfl rfl) (six rfl rfl rfl rfl rfl rfl))
            clear HE
            obtain ⟨w76, hw76⟩ : ∃ W, W = w75.alloc (.cells #[.slice (some ⟨g, 0, none⟩) (n + n) (n + n)] 36) := ⟨_, rfl⟩
            obtain ⟨b76, hb76⟩ : ∃ b, b = w75.heap.size := ⟨_, rfl⟩
            rw [← hw76, ← hb76] at HE2
            rw [← hw76, ← hb76]
            have HE := HE2
            clear HE2 hw76 hb76
            refine hK _ _ (HQ.out _ _ HE.out.box) ?_
            clear hK K
            refine wpAnyL_one (o := ⟨some 74, _, _, _, _, _⟩) 16 (by kernel_rfl) rfl (fun K hK => ?_)
            go_wp2_with ((with_reducible refine at_append ?_); refine wpList_apG (z := .slice none 0 0) (size := 1) (bytes := 24) (n := B.length) (m := 1) (news := [.slice (some ⟨g, 0, none⟩) (n + n) (n + n)]) (xs := rowsV n gs B.length) (ad := ⟨b76, 0, none⟩) Tryd.underlying22 (by kernel_rfl) rfl (by decide) (by decide) rfl (.tmp 71) (.tmp 73) rfl rfl (HE.out.rn.own 1 (by decide)) rfl rfl ((HE.out.rn.own 4 (by decide)).cells (g := b76) rfl) (ones_one rfl) (by omega) HE.out.sz ?_; intro v9 w77 HO9 HG9 HA9 HB9)
            obtain ⟨A77, k77, e9, _, _⟩ := own_form HO9.out
            subst e9
            have HE2 := hideIt ((HE.out.step 1 (by decide) HG9.out HO9.out HA9.out).to (vs' := V6 (.slice A75 (B.length + 1) k75) (.slice A77 (B.length + 1) k77) (vP) (.slice (some ⟨b74, 0, none⟩) 1 1) (.slice (some ⟨b76, 0, none⟩) 1 1) (.slice (some ⟨b73, 0, none⟩) 1 1)) (ks' := V6 (B.length + 1) (B.length + 1) (B.length) (1) (1) (1)) (ls' := V6 (pvC B ++ [.int .i64 (u : Int)]) (rowsV n gs B.length ++ [.slice (some ⟨g, 0, none⟩) (n + n) (n + n)]) (pvC pv) ([.int .i64 (u : Int)]) ([.slice (some ⟨g, 0, none⟩) (n + n) (n + n)]) ([.int .i64 (c : Int)])) (six rfl rfl rfl rfl rfl rfl) (six rfl rfl rfl rfl rfl rfl) (six rfl rfl rfl rfl rfl rfl))
            clear HE HO9 HG9 HA9 HB9
            have HE := HE2
            clear HE2
            refine hK _ _ (HQ.out _ _ HE.out.box) ?_
            clear hK K
            refine wpAnyL_one (o := ⟨some 81, _, _, _, _, _⟩) 23 (by kernel_rfl) rfl (fun K hK => ?_)
            go_wp2_with ((with_reducible refine at_append ?_); refine wpList_apG (z := .int .i64 0) (size := 1) (bytes := 8) (n := B.length) (m := 1) (news := [.int .i64 (c : Int)]) (xs := pvC pv) (ad := ⟨b73, 0, none⟩) Tryd.underlying36 (by kernel_rfl) rfl (by decide) (by decide) rfl (.tmp 78) (.tmp 80) rfl rfl (HE.out.rn.own 2 (by decide)) rfl rfl ((HE.out.rn.own 5 (by decide)).cells (g := b73) rfl) (ones_one rfl) (by omega) HE.out.sz ?_; intro v9 w78 HO9 HG9 HA9 HB9)
            obtain ⟨A78, k78, e9, _, _⟩ := own_form HO9.out
            subst e9
            have HE2 := hideIt ((HE.out.step 2 (by decide) HG9.out HO9.out HA9.out).to (vs' := V6 (.slice A75 (B.length + 1) k75) (.slice A77 (B.length + 1) k77) (.slice A78 (B.length + 1) k78) (.slice (some ⟨b74, 0, none⟩) 1 1) (.slice (some ⟨b76, 0, none⟩) 1 1) (.slice (some ⟨b73, 0, none⟩) 1 1)) (ks' := V6 (B.length + 1) (B.length + 1) (B.length + 1) (1) (1) (1)) (ls' := V6 (pvC B ++ [.int .i64 (u : Int)]) (rowsV n gs B.length ++ [.slice (some ⟨g, 0, none⟩) (n + n) (n + n)]) (pvC pv ++ [.int .i64 (c : Int)]) ([.int .i64 (u : Int)]) ([.slice (some ⟨g, 0, none⟩) (n + n) (n + n)]) ([.int .i64 (c : Int)])) (six rfl rfl rfl rfl rfl rfl) (six rfl rfl rfl rfl rfl rfl) (six rfl rfl rfl rfl rfl rfl))
            clear HE HO9 HG9 HA9 HB9
            have HE := HE2
            clear HE2
            refine hK _ _ (HQ.out _ _ HE.out.box) ?_
            clear hK K
            refine loads_tail 24 (by kernel_rfl) (by kernel_rfl) (by kernel_rfl) (by kernel_rfl) ?_
            simp only [List.drop_succ_cons, List.drop_zero]
            obtain ⟨e4, e5, e6, f4, f5, f6⟩ := HC.out w78 HE.out.box
            go_wp2_with fail
            go_end0
            exact HF.out _ _ _ _ _ _ _ _ _ _ HE.out
          · go_wp2_with fail
            have HE2 := hideIt (show ES _ _ _ _ _ _ _ (w74.alloc (.cells #[.slice (some ⟨g, 0, none⟩) (n + n) (n + n)] 36)) _ _ _ from (HE.out.lit 4 (by decide) (.slice (some ⟨g, 0, none⟩) (n + n) (n + n))).to (vs' := V6 (vU) (vR) (vP) (.slice (some ⟨b74, 0, none⟩) 1 1) (.slice (some ⟨w74.heap.size, 0, none⟩) 1 1) (.slice (some ⟨b73, 0, none⟩) 1 1)) (ks' := V6 (B.length) (B.length) (B.length) (1) (1) (1)) (ls' := V6 (pvC B) (rowsV n gs B.length) (pvC pv) ([.int .i64 (u : Int)]) ([.slice (some ⟨g, 0, none⟩) (n + n) (n + n)]) ([.int .i64 (c : Int)])) (six rfl rfl rfl rfl rfl rfl) (six rfl rfl rfl rfl rfl rfl) (six rfl rfl rfl rfl rfl rfl))
            clear HE
            obtain ⟨w79, hw79⟩ : ∃ W, W = w74.alloc (.cells #[.slice (some ⟨g, 0, none⟩) (n + n) (n + n)] 36) := ⟨_, rfl⟩
            obtain ⟨b79, hb79⟩ : ∃ b, b = w74.heap.size := ⟨_, rfl⟩
            rw [← hw79, ← hb79] at HE2
            rw [← hw79, ← hb79]
            have HE := HE2
            clear HE2 hw79 hb79
            refine hK _ _ (HQ.out _ _ HE.out.box) ?_
            clear hK K
            refine wpAnyL_one (o := ⟨some 67, _, _, _, _, _⟩) 9 (by kernel_rfl) rfl (fun K hK => ?_)
            go_wp2_with ((with_reducible refine at_append ?_); refine wpList_apG (z := .int .i64 0) (size := 1) (bytes := 8) (n := B.length) (m := 1) (news := [.int .i64 (u : Int)]) (xs := pvC B) (ad := ⟨b74, 0, none⟩) Tryd.underlying36 (by kernel_rfl) rfl (by decide) (by decide) rfl (.tmp 64) (.tmp 66) rfl rfl (HE.out.rn.own 0 (by decide)) rfl rfl ((HE.out.rn.own 3 (by decide)).cells (g := b74) rfl) (ones_one rfl) (by omega) HE.out.sz ?_; intro v9 w80 HO9 HG9 HA9 HB9)
            obtain ⟨A80, k80, e9, _, _⟩ := own_form HO9.out
            subst e9
            have HE2 := hideIt ((HE.out.step 0 (by decide) HG9.out HO9.out HA9.out).to (vs' := V6 (.slice A80 (B.length + 1) k80) (vR) (vP) (.slice (some ⟨b74, 0, none⟩) 1 1) (.slice (some ⟨b79, 0, none⟩) 1 1) (.slice (some ⟨b73, 0, none⟩) 1 1)) (ks' := V6 (B.length + 1) (B.length) (B.length) (1) (1) (1)) (ls' := V6 (pvC B ++ [.int .i64 (u : Int)]) (rowsV n gs B.length) (pvC pv) ([.int .i64 (u : Int)]) ([.slice (some ⟨g, 0, none⟩) (n + n) (n + n)]) ([.int .i64 (c : Int)])) (six rfl rfl rfl rfl rfl rfl) (six rfl rfl rfl rfl rfl rfl) (six rfl rfl rfl rfl rfl rfl))
            clear HE HO9 HG9 HA9 HB9
            have HE := HE2
            clear HE2
            refine hK _ _ (HQ.out _ _ HE.out.box) ?_
            clear hK K
            refine wpAnyL_one (o := ⟨some 74, _, _, _, _, _⟩) 16 (by kernel_rfl) rfl (fun K hK => ?_)
            go_wp2_with ((with_reducible refine at_append ?_); refine wpList_apG (z := .slice none 0 0) (size := 1) (bytes := 24) (n := B.length) (m := 1) (news := [.slice (some ⟨g, 0, none⟩) (n + n) (n + n)]) (xs := rowsV n gs B.length) (ad := ⟨b79, 0, none⟩) Tryd.underlying22 (by kernel_rfl) rfl (by decide) (by decide) rfl (.tmp 71) (.tmp 73) rfl rfl (HE.out.rn.own 1 (by decide)) rfl rfl ((HE.out.rn.own 4 (by decide)).cells (g := b79) rfl) (ones_one rfl) (by omega) HE.out.sz ?_; intro v9 w81 HO9 HG9 HA9 HB9)
            obtain ⟨A81, k81, e9, _, _⟩ := own_form HO9.out
            subst e9
            have HE2 := hideIt ((HE.out.step 1 (by decide) HG9.out HO9.out HA9.out).to (vs' := V6 (.slice A80 (B.length + 1) k80) (.slice A81 (B.length + 1) k81) (vP) (.slice (some ⟨b74, 0, none⟩) 1 1) (.slice (some ⟨b79, 0, none⟩) 1 1) (.slice (some ⟨b73, 0, none⟩) 1 1)) (ks' := V6 (B.length + 1) (B.length + 1) (B.length) (1) (1) (1)) (ls' := V6 (pvC B ++ [.int .i64 (u : Int)]) (rowsV n gs B.length ++ [.slice (some ⟨g, 0, none⟩) (n + n) (n + n)]) (pvC pv) ([.int .i64 (u : Int)]) ([.slice (some ⟨g, 0, none⟩) (n + n) (n + n)]) ([.int .i64 (c : Int)])) (six rfl rfl rfl rfl rfl rfl) (six rfl rfl rfl rfl rfl rfl) (six rfl rfl rfl rfl rfl rfl))
            clear HE HO9 HG9 HA9 HB9
            have HE := HE2
            clear HE2
            refine hK _ _ (HQ.out _ _ HE.out.box) ?_
            clear hK K
            refine wpAnyL_one (o := ⟨some 81, _, _, _, _, _⟩) 23 (by kernel_rfl) rfl (fun K hK => ?_)
            go_wp2_with ((with_reducible refine at_append ?_); refine wpList_apG (z := .int .i64 0) (size := 1) (bytes := 8) (n := B.length) (m := 1) (news := [.int .i64 (c : Int)]) (xs := pvC pv) (ad := ⟨b73, 0, none⟩) Tryd.underlying36 (by kernel_rfl) rfl (by decide) (by decide) rfl (.tmp 78) (.tmp 80) rfl rfl (HE.out.rn.own 2 (by decide)) rfl rfl ((HE.out.rn.own 5 (by decide)).cells (g := b73) rfl) (ones_one rfl) (by omega) HE.out.sz ?_; intro v9 w82 HO9 HG9 HA9 HB9)
            obtain ⟨A82, k82, e9, _, _⟩ := own_form HO9.out
            subst e9
            have HE2 := hideIt ((HE.out.step 2 (by decide) HG9.out HO9.out HA9.out).to (vs' := V6 (.slice A80 (B.length + 1) k80) (.slice A81 (B.length + 1) k81) (.slice A82 (B.length + 1) k82) (.slice (some ⟨b74, 0, none⟩) 1 1) (.slice (some ⟨b79, 0, none⟩) 1 1) (.slice (some ⟨b73, 0, none⟩) 1 1)) (ks' := V6 (B.length + 1) (B.length + 1) (B.length + 1) (1) (1) (1)) (ls' := V6 (pvC B ++ [.int .i64 (u : Int)]) (rowsV n gs B.length ++ [.slice (some ⟨g, 0, none⟩) (n + n) (n + n)]) (pvC pv ++ [.int .i64 (c : Int)]) ([.int .i64 (u : Int)]) ([.slice (some ⟨g, 0, none⟩) (n + n) (n + n)]) ([.int .i64 (c : Int)])) (six rfl rfl rfl rfl rfl rfl) (six rfl rfl rfl rfl rfl rfl) (six rfl rfl rfl rfl rfl rfl))
            clear HE HO9 HG9 HA9 HB9
            have HE := HE2
            clear HE2
            refine hK _ _ (HQ.out _ _ HE.out.box) ?_
            clear hK K
            refine loads_tail 24 (by kernel_rfl) (by kernel_rfl) (by kernel_rfl) (by kernel_rfl) ?_
            simp only [List.drop_succ_cons, List.drop_zero]
            obtain ⟨e4, e5, e6, f4, f5, f6⟩ := HC.out w82 HE.out.box
            go_wp2_with fail
            go_end0
            exact HF.out _ _ _ _ _ _ _ _ _ _ HE.out
        · go_wp2_with fail
          have HE2 := hideIt (show ES _ _ _ _ _ _ _ (w73.alloc (.cells #[.slice (some ⟨g, 0, none⟩) (n + n) (n + n)] 36)) _ _ _ from (HE.out.lit 4 (by decide) (.slice (some ⟨g, 0, none⟩) (n + n) (n + n))).to (vs' := V6 (vU) (vR) (vP) (.slice none 0 0) (.slice (some ⟨w73.heap.size, 0, none⟩) 1 1) (.slice (some ⟨b73, 0, none⟩) 1 1)) (ks' := V6 (B.length) (B.length) (B.length) (0) (1) (1)) (ls' := V6 (pvC B) (rowsV n gs B.length) (pvC pv) ([]) ([.slice (some ⟨g, 0, none⟩) (n + n) (n + n)]) ([.int .i64 (c : Int)])) (six rfl rfl rfl rfl rfl rfl) (six rfl rfl rfl rfl rfl rfl) (six rfl rfl rfl rfl rfl rfl))
          clear HE
          obtain ⟨w83, hw83⟩ : ∃ W, W = w73.alloc (.cells #[.slice (some ⟨g, 0, none⟩) (n + n) (n + n)] 36) := ⟨_, rfl⟩
          obtain ⟨b83, hb83⟩ : ∃ b, b = w73.heap.size := ⟨_, rfl⟩
          rw [← hw83, ← hb83] at HE2
          rw [← hw83, ← hb83]
          have HE := HE2
          clear HE2 hw83 hb83
          refine hK _ _ (HQ.out _ _ HE.out.box) ?_
          clear hK K
          refine wpAnyL_one (o := ⟨some 66, _, _, _, _, _⟩) 8 (by kernel_rfl) rfl (fun K hK => ?_)
          go_wp2_with fail
          have HE2 := hideIt (show ES _ _ _ _ _ _ _ (w83.alloc (.cells #[.int .i64 (u : Int)] 3)) _ _ _ from (HE.out.lit 3 (by decide) (.int .i64 (u : Int))).to (vs' := V6 (vU) (vR) (vP) (.slice (some ⟨w83.heap.size, 0, none⟩) 1 1) (.slice (some ⟨b83, 0, none⟩) 1 1) (.slice (some ⟨b73, 0, none⟩) 1 1)) (ks' := V6 (B.length) (B.length) (B.length) (1) (1) (1)) (ls' := V6 (pvC B) (rowsV n gs B.length) (pvC pv) ([.int .i64 (u : Int)]) ([.slice (some ⟨g, 0, none⟩) (n + n) (n + n)]) ([.int .i64 (c : Int)])) (six rfl rfl rfl rfl rfl rfl) (six rfl rfl rfl rfl rfl rfl) (six rfl rfl rfl rfl rfl rfl))
          clear HE
          obtain ⟨w84, hw84⟩ : ∃ W, W = w83.alloc (.cells #[.int .i64 (u : Int)] 3) := ⟨_, rfl⟩
          obtain ⟨b84, hb84⟩ : ∃ b, b = w83.heap.size := ⟨_, rfl⟩
          rw [← hw84, ← hb84] at HE2
          rw [← hw84, ← hb84]
          have HE := HE2
          clear HE2 hw84 hb84
          refine hK _ _ (HQ.out _ _ HE.out.box) ?_
          clear hK K
          refine wpAnyL_one (o := ⟨some 67, _, _, _, _, _⟩) 9 (by kernel_rfl) rfl (fun K hK => ?_)
          go_wp2_with ((with_reducible refine at_append ?_); refine wpList_apG (z := .int .i64 0) (size := 1) (bytes := 8) (n := B.length) (m := 1) (news := [.int .i64 (u : Int)]) (xs := pvC B) (ad := ⟨b84, 0, none⟩) Tryd.underlying36 (by kernel_rfl) rfl (by decide) (by decide) rfl (.tmp 64) (.tmp 66) rfl rfl (HE.out.rn.own 0 (by decide)) rfl rfl ((HE.out.rn.own 3 (by decide)).cells (g := b84) rfl) (ones_one rfl) (by omega) HE.out.sz ?_; intro v9 w85 HO9 HG9 HA9 HB9)
          obtain ⟨A85, k85, e9, _, _⟩ := own_form HO9.out
          subst e9
          have HE2 := hideIt ((HE.out.step 0 (by decide) HG9.out HO9.out HA9.out).to (vs' := V6 (.slice A85 (B.length + 1) k85) (vR) (vP) (.slice (some ⟨b84, 0, none⟩) 1 1) (.slice (some ⟨b83, 0, none⟩) 1 1) (.slice (some ⟨b73, 0, none⟩) 1 1)) (ks' := V6 (B.length + 1) (B.length) (B.length) (1) (1) (1)) (ls' := V6 (pvC B ++ [.int .i64 (u : Int)]) (rowsV n gs B.length) (pvC pv) ([.int .i64 (u : Int)]) ([.slice (some ⟨g, 0, none⟩) (n + n) (n + n)]) ([.int .i64 (c : Int)])) (six rfl rfl rfl rfl rfl rfl) (six rfl rfl rfl rfl rfl rfl) (six rfl rfl rfl rfl rfl rfl))
          clear HE HO9 HG9 HA9 HB9
          have HE := HE2
          clear HE2
          refine hK _ _ (HQ.out _ _ HE.out.box) ?_
          clear hK K
          refine wpAnyL_one (o := ⟨some 74, _, _, _, _, _⟩) 16 (by kernel_rfl) rfl (fun K hK => ?_)
          go_wp2_with ((with_reducible refine at_append ?_); refine wpList_apG (z := .slice none 0 0) (size := 1) (bytes := 24) (n := B.length) (m := 1) (news := [.slice (some ⟨g, 0, none⟩) (n + n) (n + n)]) (xs := rowsV n gs B.length) (ad := ⟨b83, 0, none⟩) Tryd.underlying22 (by kernel_rfl) rfl (by decide) (by decide) rfl (.tmp 71) (.tmp 73) rfl rfl (HE.out.rn.own 1 (by decide)) rfl rfl ((HE.out.rn.own 4 (by decide)).cells (g := b83) rfl) (ones_one rfl) (by omega) HE.out.sz ?_; intro v9 w86 HO9 HG9 HA9 HB9)
          obtain ⟨A86, k86, e9, _, _⟩ := own_form HO9.out
          subst e9
          have HE2 := hideIt ((HE.out.step 1 (by decide) HG9.out HO9.out HA9.out).to (vs' := V6 (.slice A85 (B.length + 1) k85) (.slice A86 (B.length + 1) k86) (vP) (.slice (some ⟨b84, 0, none⟩) 1 1) (.slice (some ⟨b83, 0, none⟩) 1 1) (.slice (some ⟨b73, 0, none⟩) 1 1)) (ks' := V6 (B.length + 1) (B.length + 1) (B.length) (1) (1) (1)) (ls' := V6 (pvC B ++ [.int .i64 (u : Int)]) (rowsV n gs B.length ++ [.slice (some ⟨g, 0, none⟩) (n + n) (n + n)]) (pvC pv) ([.int .i64 (u : Int)]) ([.slice (some ⟨g, 0, none⟩) (n + n) (n + n)]) ([.int .i64 (c : Int)])) (six rfl rfl rfl rfl rfl rfl) (six rfl rfl rfl rfl rfl rfl) (six rfl rfl rfl rfl rfl rfl))
          clear HE HO9 HG9 HA9 HB9
          have HE := HE2
          clear HE2
          refine hK _ _ (HQ.out _ _ HE.out.box) ?_
          clear hK K
          refine wpAnyL_one (o := ⟨some 81, _, _, _, _, _⟩) 23 (by kernel_rfl) rfl (fun K hK => ?_)
          go_wp2_with ((with_reducible refine at_append ?_); refine wpList_apG (z := .int .i64 0) (size := 1) (bytes := 8) (n := B.length) (m := 1) (news := [.int .i64 (c : Int)]) (xs := pvC pv) (ad := ⟨b73, 0, none⟩) Tryd.underlying36 (by kernel_rfl) rfl (by decide) (by decide) rfl (.tmp 78) (.tmp 80) rfl rfl (HE.out.rn.own 2 (by decide)) rfl rfl ((HE.out.rn.own 5 (by decide)).cells (g := b73) rfl) (ones_one rfl) (by omega) HE.out.sz ?_; intro v9 w87 HO9 HG9 HA9 HB9)
          obtain ⟨A87, k87, e9, _, _⟩ := own_form HO9.out
          subst e9
          have HE2 := hideIt ((HE.out.step 2 (by decide) HG9.out HO9.out HA9.out).to (vs' := V6 (.slice A85 (B.length + 1) k85) (.slice A86 (B.length + 1) k86) (.slice A87 (B.length + 1) k87) (.slice (some ⟨b84, 0, none⟩) 1 1) (.slice (some ⟨b83, 0, none⟩) 1 1) (.slice (some ⟨b73, 0, none⟩) 1 1)) (ks' := V6 (B.length + 1) (B.length + 1) (B.length + 1) (1) (1) (1)) (ls' := V6 (pvC B ++ [.int .i64 (u : Int)]) (rowsV n gs B.length ++ [.slice (some ⟨g, 0, none⟩) (n + n) (n + n)]) (pvC pv ++ [.int .i64 (c : Int)]) ([.int .i64 (u : Int)]) ([.slice (some ⟨g, 0, none⟩) (n + n) (n + n)]) ([.int .i64 (c : Int)])) (six rfl rfl rfl rfl rfl rfl) (six rfl rfl rfl rfl rfl rfl) (six rfl rfl rfl rfl rfl rfl))
          clear HE HO9 HG9 HA9 HB9
          have HE := HE2
          clear HE2
          refine hK _ _ (HQ.out _ _ HE.out.box) ?_
          clear hK K
          refine loads_tail 24 (by kernel_rfl) (by kernel_rfl) (by kernel_rfl) (by kernel_rfl) ?_
          simp only [List.drop_succ_cons, List.drop_zero]
          obtain ⟨e4, e5, e6, f4, f5, f6⟩ := HC.out w87 HE.out.box
          go_wp2_with fail
          go_end0
          exact HF.out _ _ _ _ _ _ _ _ _ _ HE.out
end

end Go.Proofs.YtklngodlijiccaaDoor
