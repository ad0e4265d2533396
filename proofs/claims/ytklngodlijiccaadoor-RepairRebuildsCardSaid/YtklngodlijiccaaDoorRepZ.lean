/-
  A range over a function, by one rule, for iterators that make memory between their yields and rounds whose variables lie in memory. Regions within such a round.
-/
import Derived.RangeFuncNested
import Derived.RangeFuncBound
import Derived.RangeFuncCalls
import Derived.RangeFuncLeaves
import Derived.Shelf.Abstract
import Derived.OrdersIn
import Derived.TacticsIn
import Derived.Test.YtklngodlijiccaaDoorE10a
namespace Go.Proofs.YtklngodlijiccaaDoor
open Go.RowKit Go.Shelf
set_option linter.unusedVariables false

/-- What hangs on all that lies in memory, where a loop's record (block l) may turn. -/
structure Stays (l : Nat) (W W' : World) : Prop where
  os : W'.os = W.os
  tape : W'.tape = W.tape
  output : W'.output = W.output
  size : W.heap.size ≤ W'.heap.size
  block : ∀ k, k < W.heap.size → k ≠ l → W'.heap[k]? = W.heap[k]?
theorem Stays.of_below {l : Nat} {a b : World} (h : Below a.heap.size a b) : Stays l a b := ⟨h.os, h.tape, h.output, h.size, fun k hk _ => h.block k hk⟩
theorem Stays.putObj (W : World) (l : Nat) (o : Obj) : Stays l W (W.putObj l o) := ⟨rfl, rfl, rfl, by rw [putObj_size]; exact Nat.le_refl _, fun k _ hn => World.putObj_heap_other hn⟩

theorem Stays.trans {l : Nat} {a b c : World} (h : Stays l a b) (k : Stays l b c) : Stays l a c := ⟨k.os.trans h.os, k.tape.trans h.tape, k.output.trans h.output, Nat.le_trans h.size k.size, fun i hi hn => (k.block i (Nat.lt_of_lt_of_le hi h.size) hn).trans (h.block i hi hn)⟩
/-- An iterator that may make memory between its yields (R: how an element is handed over): whatever its caller's invariants J, Jx are (what is laid later does not touch them), it yields the elements of xs in their order until a round says 'no more'. C: the blocks that it reads. -/
def IterM {α : Type} (P : Program) (gf : Nat) (lb : Array Value) (R : α → Array Value → World → World → Prop) (xs : List α) (C : Nat → Prop) (w0 : World) : Prop :=
  ∀ (l : Nat) (T : Nat → Prop) (J Jx : List α → World → Prop) (W : World), (∀ k, C k → k < w0.heap.size ∧ W.heap[k]? = w0.heap[k]?) → (∀ k, T k → ¬ C k) →
    (∀ s W1 W2, J s W1 → Below W1.heap.size W1 W2 → J s W2) →
    (∀ pre x args V W1, pre ++ [x] <+: xs → Keeps T W V → J pre V → Below V.heap.size V W1 → R x args V W1 → YieldAt Fence.wide 0 P l args W1 fun e W' =>
      (e = .returned (.bool true) ∧ Keeps T W1 W' ∧ J (pre ++ [x]) W') ∨ (e = .returned (.bool false) ∧ Keeps T W1 W' ∧ Jx (pre ++ [x]) W')) →
    J [] W →
    CallsIn Fence.wide 0 P gf (#[.func (.yield l) #[] #[]] ++ lb) W fun e W' => (∃ v, e = .returned v) ∧ Keeps T W W' ∧ (J xs W' ∨ ∃ pre, pre <+: xs ∧ Jx pre W')

variable {P : Program}
theorem range_mk {α : Type} {g : Operand} {ps : Array Tmp} {assign body : Code} {Q : Exit → Act → World → Prop} {a : Act} {w : World}
    {gf : Nat} {lb : Array Value} (hg : a.eval g = .func (.func gf) #[] lb) (eg : Enters P gf)
    {R : α → Array Value → World → World → Prop} {xs : List α} {C : Nat → Prop} {w0 : World} (hseq : IterM P gf lb R xs C w0) (hC : ∀ k, C k → k < w0.heap.size ∧ w.heap[k]? = w0.heap[k]?)
    (hps : ∀ x args V W, R x args V W → args.size = ps.size) (Bd : α → Act → World → World → Prop) (hBd : ∀ x a' V W l r o, Bd x a' V W → W.heap[l]? = some (.loop r) → Bd x a' V (W.putObj l o)) (T : Nat → Prop) (hT : ∀ k, T k → k ≠ w.heap.size ∧ k ≠ w.heap.size + 1 ∧ ¬ C k)
    (I : List α → World → Prop) (Ix : Code → List α → World → Prop) (hI : ∀ s W W' r, I s W → W.heap[w.heap.size + 1]? = some (.loop r) → Stays (w.heap.size + 1) W W' → I s W') (hIx : ∀ c s W W' r, Ix c s W → W.heap[w.heap.size + 1]? = some (.loop r) → Stays (w.heap.size + 1) W W' → Ix c s W') (h0 : ∀ W, Below w.heap.size w W → w.heap.size + 2 ≤ W.heap.size → I [] W)
    (hassign : ∀ (l : Nat) (x : α) (args : Array Value) (V W : World) (K : Act → World → Prop), R x args V W → (∀ a' W', Below W.heap.size W W' → Bd x a' V W' → K a' W') →
      assign.wpIn (Fence.wide.inRound l) 0 P (Exit.then K (fun _ _ _ => False)) { tmps := (ps.zip args).foldl (fun t (p, v) => t.setIfInBounds p v) a.tmps, defers := [] } W)
    (hbody : ∀ (l : Nat) (pre : List α) (x : α) (a' : Act) (V W : World) (r : Loop), pre ++ [x] <+: xs → Keeps T w W → I pre V → V.heap[w.heap.size + 1]? = some (.loop r) → Stays (w.heap.size + 1) V W → Bd x a' V W → body.wpIn (Fence.wide.inRound l) 0 P (roundEnd T I Ix (pre ++ [x]) W) a' W)
    (hdone : ∀ (D : Nat) (W : World), w.heap.size ≤ D → Keeps T w W → I xs W → W.heap[D]? = some (.deferred (some [])) → Q .normal { a with defers := { target := .collected D, args := #[] } :: a.defers } W)
    (hstop : ∀ (D : Nat) (c : Code) (pre : List α) (W : World), w.heap.size ≤ D → Keeps T w W → pre <+: xs → Ix c pre W → W.heap[D]? = some (.deferred (some [])) → c.wp P Q { a with defers := { target := .collected D, args := #[] } :: a.defers } W) :
    (Code.rangeFunc g ps assign body).wp P Q a w := by
  refine (wpIn_wide (n := 0)).1 (wpIn_rangeFunc fun fn hfn => ?_)
  obtain ⟨rec, hrec⟩ : ∃ rec : LoopState → Option Code → Loop, rec = fun st pe => { state := st, pending := pe, fn, tmps := a.tmps, params := ps, assign, body, defers := w.heap.size } := ⟨_, rfl⟩
  have hrp : ∀ st pe, (rec st pe).params = ps := fun st pe => by rw [hrec]
  have hrs : ∀ st pe, (rec st pe).state = st := fun st pe => by rw [hrec]
  obtain ⟨W1, hW1⟩ : ∃ W1, (w.alloc (.deferred (some []))).alloc (.loop (rec .ready none)) = W1 := ⟨_, rfl⟩
  have hsz : W1.heap.size = w.heap.size + 2 := by rw [← hW1]; simp
  have hb1 : Below w.heap.size w W1 := by rw [← hW1]; exact ((Below.refl _ w).alloc (Nat.le_refl _) _).alloc (by simp) _
  have hl1 : W1.heap[w.heap.size + 1]? = some (.loop (rec .ready none)) := by
    rw [← hW1]; have := World.alloc_heap_new (w.alloc (.deferred (some []))) (.loop (rec .ready none)); rwa [World.size_alloc] at this
  have hd1 : W1.heap[w.heap.size]? = some (.deferred (some [])) := by
    rw [← hW1]; exact (Below.heap_alloc _ _ _ (by simp)).trans (World.alloc_heap_new w _)
  have hClt : ∀ k, C k → k < w.heap.size := fun k hk => by
    obtain ⟨h1, h2⟩ := hC k hk
    rcases Nat.lt_or_ge k w.heap.size with h | h
    · exact h
    · rw [Array.getElem?_eq_none h, Array.getElem?_eq_getElem h1] at h2; cases h2
  refine ⟨w.heap.size + 1, [{ target := .collected w.heap.size, args := #[] }], W1, { target := .fn (.func gf) lb, args := #[.func (.yield (w.heap.size + 1)) #[] #[]] }, W1, gf,
    #[.func (.yield (w.heap.size + 1)) #[] #[]] ++ lb, W1, ?_, ?_, fun f' _ => trivial, ?_, fun h => (by simp [Fence.wide] at h), ?_⟩
  · rw [← hW1, hrec]; exact run_enterLoop_outer _ _ _ _ _
  · simp only [resolve, hg]; simp [go_sem]
  · simp [invoke, go_sem, eg _ _]
  · refine (hseq (w.heap.size + 1) (fun k => T k ∨ k = w.heap.size + 1)
      (fun pre W => I pre W ∧ Keeps T w W ∧ W.heap[w.heap.size + 1]? = some (.loop (rec .ready none)) ∧ W.heap[w.heap.size]? = some (.deferred (some [])))
      (fun pre W => ∃ c, Ix c pre W ∧ Keeps T w W ∧ W.heap[w.heap.size + 1]? = some (.loop (rec .done (some c))) ∧ W.heap[w.heap.size]? = some (.deferred (some [])))
      W1 (fun k hk => ⟨(hC k hk).1, (hb1.block k (hClt k hk)).trans (hC k hk).2⟩)
      (fun k hk => by
        rcases hk with hk | rfl
        · exact (hT k hk).2.2
        · exact fun hk => by have := hClt _ hk; omega)
      (fun s A B hs hb => by
        have h1 := (Array.getElem?_eq_some_iff.1 hs.2.2.1).1
        have h2 := (Array.getElem?_eq_some_iff.1 hs.2.2.2).1
        exact ⟨hI s A B _ hs.1 hs.2.2.1 (Stays.of_below hb), hs.2.1.later (hb.mono (by omega)), (hb.block _ h1).trans hs.2.2.1, (hb.block _ h2).trans hs.2.2.2⟩)
      ?_ ⟨h0 _ hb1 (by omega), (Keeps.refl T w).later hb1, hl1, hd1⟩).mono ?_
    · rintro pre x args U V hpre hKU ⟨hiU, hkU, hlU, hdU⟩ hUV hra
      have hlV := (hUV.block _ (Array.getElem?_eq_some_iff.1 hlU).1).trans hlU
      have hdV := (hUV.block _ (Array.getElem?_eq_some_iff.1 hdU).1).trans hdU
      have hy := run_yield (P := P) (args := args) hlV (by rw [hrp]; exact hps x args U V hra)
      refine ⟨fn, _, assign, body, (by rw [hrec] at hy; exact hy), roundIn_of_wpIn trivial (hassign _ x args U V _ hra fun a' W hVW hbd => ?_)⟩
      have hl := (hVW.block _ (Array.getElem?_eq_some_iff.1 hlV).1).trans hlV
      have hd := (hVW.block _ (Array.getElem?_eq_some_iff.1 hdV).1).trans hdV
      have hUW := hUV.trans (hVW.mono hUV.size)
      have hkw : Keeps T w W := hkU.later (hUW.mono (by have := (Array.getElem?_eq_some_iff.1 hdU).1; omega))
      refine ⟨_, run_beginRound hl (hrs _ _), ?_⟩
      have hlt : w.heap.size + 1 < W.heap.size := (Array.getElem?_eq_some_iff.1 hl).1
      have hre : ({ rec .ready none with state := .busy } : Loop) = rec .busy none := by rw [hrec]
      rw [hre]
      have hl2 : (W.putObj (w.heap.size + 1) (.loop (rec .busy none))).heap[w.heap.size + 1]? = some (.loop (rec .busy none)) := World.putObj_heap_same hlt
      have hd2 : (W.putObj (w.heap.size + 1) (.loop (rec .busy none))).heap[w.heap.size]? = some (.deferred (some [])) := (World.putObj_heap_other (by omega)).trans hd
      have hk2 : Keeps (fun k => T k ∨ k = w.heap.size + 1) V (W.putObj (w.heap.size + 1) (.loop (rec .busy none))) := (Keeps.of_below hVW).putObj (Or.inr rfl) _
      have hbl : ∀ (V : World) (o : Obj), Below w.heap.size V (V.putObj (w.heap.size + 1) o) := fun V o => below_putObj V (by omega) o
      have hnT : ¬ T (w.heap.size + 1) := fun h => (hT _ h).2.1 rfl
      have hnT0 : ¬ T (w.heap.size) := fun h => (hT _ h).1 rfl
      refine wpIn_mono (hbody _ pre x a' U _ _ hpre (hkw.later (hbl _ _)) hiU hlU ((Stays.of_below hUW).trans (Stays.putObj _ _ _)) (hBd _ _ _ _ _ _ _ hbd hl)) ?_
      have hsz2 : (W.putObj (w.heap.size + 1) (.loop (rec .busy none))).heap.size = W.heap.size := putObj_size _ _ _
      have hkw2 : Keeps T w (W.putObj (w.heap.size + 1) (.loop (rec .busy none))) := hkw.later (hbl _ _)
      generalize W.putObj (w.heap.size + 1) (.loop (rec .busy none)) = W2 at *
      have fin : ∀ (jump : Option Code) (W3 : World), Keeps T W2 W3 →
          ∃ v W4, (Instr.endRound (w.heap.size + 1) jump).run P W3 = .ok v W4 ∧ v = .bool jump.isNone ∧ Keeps (fun k => T k ∨ k = w.heap.size + 1) V W4 ∧ Keeps T w W4 ∧ Below w.heap.size W3 W4 ∧ (Stays (w.heap.size + 1) W3 W4 ∧ W3.heap[w.heap.size + 1]? = some (.loop (rec .busy none))) ∧
            W4.heap[w.heap.size + 1]? = some (.loop (rec (if jump.isNone then .ready else .done) jump)) ∧ W4.heap[w.heap.size]? = some (.deferred (some [])) := fun jump W3 hk3 => by
        have hl3 := (hk3.block _ (by omega) hnT).trans hl2
        have hd3 := (hk3.block _ (by omega) hnT0).trans hd2
        have hlt3 := (Array.getElem?_eq_some_iff.1 hl3).1
        have hr := run_endRound (P := P) jump hl3
        have hre3 : ({ rec .busy none with state := if jump.isNone then .ready else .done, pending := jump } : Loop) = rec (if jump.isNone then .ready else .done) jump := by rw [hrec]
        refine ⟨_, _, hr, rfl, ?_, ?_, hbl _ _, ⟨Stays.putObj _ _ _, hl3⟩, ?_, ?_⟩
        · exact (hk2.trans (hk3.wide fun k hk => Or.inl hk)).putObj (Or.inr rfl) _
        · exact (hkw2.trans hk3).later (hbl _ _)
        · rw [World.putObj_heap_same hlt3, hre3]
        · exact (World.putObj_heap_other (by omega)).trans hd3
      rintro e a3 W3 hp
      cases e with
      | normal =>
        obtain ⟨hk3, hi3⟩ := hp
        obtain ⟨v, W4, hr, rfl, h1, h2, h3, ⟨h6, h7⟩, h4, h5⟩ := fin none W3 hk3
        exact ⟨_, _, hr, .inl ⟨rfl, h1, hI _ _ _ _ hi3 h7 h6, h2, h4, h5⟩⟩
      | ret =>
        obtain ⟨hk3, hi3⟩ := hp
        obtain ⟨v, W4, hr, rfl, h1, h2, h3, ⟨h6, h7⟩, h4, h5⟩ := fin (some .ret) W3 hk3
        exact ⟨_, _, hr, .inr ⟨rfl, h1, .ret, hIx _ _ _ _ _ hi3 h7 h6, h2, h4, h5⟩⟩
      | exit id =>
        obtain ⟨hk3, hi3⟩ := hp
        obtain ⟨v, W4, hr, rfl, h1, h2, h3, ⟨h6, h7⟩, h4, h5⟩ := fin (some (.exit id)) W3 hk3
        exact ⟨_, _, hr, .inr ⟨rfl, h1, .exit id, hIx _ _ _ _ _ hi3 h7 h6, h2, h4, h5⟩⟩
      | goto t =>
        obtain ⟨hk3, hi3⟩ := hp
        obtain ⟨v, W4, hr, rfl, h1, h2, h3, ⟨h6, h7⟩, h4, h5⟩ := fin (some (.goto t)) W3 hk3
        exact ⟨_, _, hr, .inr ⟨rfl, h1, .goto t, hIx _ _ _ _ _ hi3 h7 h6, h2, h4, h5⟩⟩
      | panic ch => exact hp.elim
      | outgrown => exact hp.elim
    · have hbl : ∀ (V : World) (o : Obj), Below w.heap.size V (V.putObj (w.heap.size + 1) o) := fun V o => below_putObj V (by omega) o
      rintro e W2 ⟨⟨v, rfl⟩, _, (⟨hi, hkw, hl, hd⟩ | ⟨pre, hpre, c, hi, hkw, hl, hd⟩)⟩
      · exact ⟨none, _, by have := run_endLoop (P := P) hl (by rw [hrs]; simp); rw [hrec] at this; exact this, hdone _ _ (Nat.le_refl _) (hkw.later (hbl _ _)) (hI _ _ _ _ hi hl (Stays.putObj _ _ _)) ((World.putObj_heap_other (by omega)).trans hd)⟩
      · exact ⟨some c, _, by have := run_endLoop (P := P) hl (by rw [hrs]; simp); rw [hrec] at this; exact this, (wpIn_wide (n := 0)).2 (hstop _ c pre _ (Nat.le_refl _) (hkw.later (hbl _ _)) hpre (hIx _ _ _ _ _ hi hl (Stays.putObj _ _ _)) ((World.putObj_heap_other (by omega)).trans hd))⟩


end Go.Proofs.YtklngodlijiccaaDoor
