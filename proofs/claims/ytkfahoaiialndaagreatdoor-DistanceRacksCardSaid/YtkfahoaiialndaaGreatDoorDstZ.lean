/-
  A range over a function, by one rule, for iterators that yield what lies in memory (slices): the loop's rounds turn a set T of blocks that lay before the loop began, and nothing else that lay; the iterator turns nothing that lay. What a round that ends the loop leaves is kept as it is.
-/
import Derived.RangeFuncNested
import Derived.RangeFuncBound
import Derived.RangeFuncCalls
import Derived.RangeFuncLeaves
import Derived.Shelf.Abstract
import Derived.Test.YtkfahoaiialndaaGreatDoorD9a
import Derived.Test.YtkfahoaiialndaaGreatDoorDstN
namespace Go.Proofs.YtkfahoaiialndaaGreatDoor
open Go.RowKit Go.Shelf
set_option linter.unusedVariables false

/-- Of what lay, at most the blocks of T are turned. -/
structure Keeps (T : Nat → Prop) (W W' : World) : Prop where
  os : W'.os = W.os
  tape : W'.tape = W.tape
  output : W'.output = W.output
  size : W.heap.size ≤ W'.heap.size
  block : ∀ k, k < W.heap.size → ¬ T k → W'.heap[k]? = W.heap[k]?
theorem Keeps.refl (T : Nat → Prop) (W : World) : Keeps T W W := ⟨rfl, rfl, rfl, Nat.le_refl _, fun _ _ _ => rfl⟩
theorem Keeps.trans {T : Nat → Prop} {a b c : World} (h : Keeps T a b) (k : Keeps T b c) : Keeps T a c :=
  ⟨k.os.trans h.os, k.tape.trans h.tape, k.output.trans h.output, Nat.le_trans h.size k.size, fun i hi ht => (k.block i (Nat.lt_of_lt_of_le hi h.size) ht).trans (h.block i hi ht)⟩
theorem Keeps.wide {T T' : Nat → Prop} {a b : World} (h : Keeps T a b) (ht : ∀ k, T k → T' k) : Keeps T' a b := ⟨h.os, h.tape, h.output, h.size, fun k hk hn => h.block k hk (fun hh => hn (ht k hh))⟩
theorem Keeps.of_below {T : Nat → Prop} {a b : World} (h : Below a.heap.size a b) : Keeps T a b := ⟨h.os, h.tape, h.output, h.size, fun k hk _ => h.block k hk⟩
theorem Keeps.later {T : Nat → Prop} {a b c : World} (h : Keeps T a b) (k : Below a.heap.size b c) : Keeps T a c :=
  ⟨k.os.trans h.os, k.tape.trans h.tape, k.output.trans h.output, Nat.le_trans h.size k.size, fun i hi ht => (k.block i hi).trans (h.block i hi ht)⟩
theorem Keeps.below {T : Nat → Prop} {B : Nat} {a b : World} (h : Keeps T a b) (hB : B ≤ a.heap.size) (ht : ∀ k, k < B → ¬ T k) : Below B a b := ⟨h.os, h.tape, h.output, h.size, fun k hk => h.block k (Nat.lt_of_lt_of_le hk hB) (ht k hk)⟩
theorem Keeps.setCell {T : Nat → Prop} {a b : World} (h : Keeps T a b) {p : Addr} (hp : T p.block) (u : Value) : Keeps T a (b.setCell p u) :=
  h.trans ⟨rfl, rfl, rfl, by simp [World.setCell], fun k hk hn => Below.heap_setCell _ _ _ _ (fun e => hn (e ▸ hp))⟩
theorem Keeps.drew {T : Nat → Prop} {a b : World} (h : Keeps T a b) : Keeps T a b.drew := ⟨h.os, h.tape, h.output, h.size, h.block⟩
theorem Keeps.alloc {T : Nat → Prop} {a b : World} (h : Keeps T a b) (o : Obj) : Keeps T a (b.alloc o) :=
  h.trans ⟨rfl, rfl, rfl, by simp, fun k hk _ => Below.heap_alloc _ _ _ hk⟩
theorem putObj_size (W : World) (l : Nat) (o : Obj) : (W.putObj l o).heap.size = W.heap.size := by simp [World.putObj]
theorem Keeps.putObj {T : Nat → Prop} {a b : World} (h : Keeps T a b) {l : Nat} (hl : T l) (o : Obj) : Keeps T a (b.putObj l o) :=
  h.trans ⟨rfl, rfl, rfl, by rw [putObj_size]; exact Nat.le_refl _, fun k hk hn => World.putObj_heap_other (fun e => hn (e ▸ hl))⟩
theorem below_putObj {B : Nat} (W : World) {l : Nat} (hl : B ≤ l) (o : Obj) : Below B W (W.putObj l o) :=
  ⟨rfl, rfl, rfl, by rw [putObj_size]; exact Nat.le_refl _, fun k hk => World.putObj_heap_other (by omega)⟩
theorem Keeps.cell {T : Nat → Prop} {a b : World} (h : Keeps T a b) {p : Addr} (hp : p.block < a.heap.size) (hn : ¬ T p.block) : b.cell? p = a.cell? p := World.cell?_of_block (w := a) (h.block p.block hp hn)

/-- What hangs on the blocks below B alone. -/
def Low {β : Type} (B : Nat) (J : β → World → Prop) : Prop := ∀ s W W', J s W → Below B W W' → J s W'
theorem Low.more {β : Type} {B B' : Nat} {J : β → World → Prop} (h : Low B J) (hB : B ≤ B') : Low B' J := fun s W W' hs hb => h s W W' hs (hb.mono hB)

/-- What hangs on all that lies in memory, where a loop's record (block l) may turn. -/
structure Stays (l : Nat) (W W' : World) : Prop where
  os : W'.os = W.os
  tape : W'.tape = W.tape
  output : W'.output = W.output
  size : W.heap.size ≤ W'.heap.size
  block : ∀ k, k < W.heap.size → k ≠ l → W'.heap[k]? = W.heap[k]?
theorem Stays.of_below {l : Nat} {a b : World} (h : Below a.heap.size a b) : Stays l a b := ⟨h.os, h.tape, h.output, h.size, fun k hk _ => h.block k hk⟩
theorem Stays.putObj (W : World) (l : Nat) (o : Obj) : Stays l W (W.putObj l o) := ⟨rfl, rfl, rfl, by rw [putObj_size]; exact Nat.le_refl _, fun k _ hn => World.putObj_heap_other hn⟩

/-- An iterator of what lies in memory (R: how it is handed over): whatever its caller's invariants J, Jx are (J hangs on what lay when it was called), it yields the elements of xs in their order until a round says 'no more'. C: the blocks that it reads. -/
def IterR {α : Type} (P : Program) (gf : Nat) (lb : Array Value) (R : α → Array Value → World → Prop) (xs : List α) (C : Nat → Prop) (w0 : World) : Prop :=
  ∀ (l : Nat) (T : Nat → Prop) (J Jx : List α → World → Prop) (W : World), (∀ k, C k → k < w0.heap.size ∧ W.heap[k]? = w0.heap[k]?) → (∀ k, T k → k < W.heap.size ∧ ¬ C k) →
    Low W.heap.size J → (∀ s W1 W2, Jx s W1 → Below W1.heap.size W1 W2 → Jx s W2) →
    (∀ pre x args W1, pre ++ [x] <+: xs → Keeps T W W1 → J pre W1 → R x args W1 → YieldAt Fence.wide 0 P l args W1 fun e W' =>
      (e = .returned (.bool true) ∧ Keeps T W1 W' ∧ J (pre ++ [x]) W') ∨ (e = .returned (.bool false) ∧ Keeps T W1 W' ∧ Jx (pre ++ [x]) W')) →
    J [] W →
    CallsIn Fence.wide 0 P gf (#[.func (.yield l) #[] #[]] ++ lb) W fun e W' => (∃ v, e = .returned v) ∧ Keeps T W W' ∧ (J xs W' ∨ ∃ pre, pre <+: xs ∧ Jx pre W')

/-- How a round's body may be left. -/
def roundEnd {α : Type} (T : Nat → Prop) (I : List α → World → Prop) (Ix : Code → List α → World → Prop) (xs : List α) (W : World) : Exit → Act → World → Prop
  | .normal, _, W' => Keeps T W W' ∧ I xs W'
  | .ret, _, W' => Keeps T W W' ∧ Ix .ret xs W'
  | .exit id, _, W' => Keeps T W W' ∧ Ix (.exit id) xs W'
  | .goto t, _, W' => Keeps T W W' ∧ Ix (.goto t) xs W'
  | .panic _, _, _ => False
  | .outgrown, _, _ => False

variable {P : Program}
theorem YieldAt.inside {l l' : Nat} {args : Array Value} {W : World} {R : Ending → World → Prop} (m : Nat) (h : YieldAt Fence.wide 0 P l args W R) :
    ∃ fn tmps assign body, (Instr.yield l args).run P W = .ok (.round l fn tmps assign body) W ∧ RoundIn (Fence.wide.inRound l') m P l fn tmps assign body W R := by
  obtain ⟨fn, tmps, assign, body, hy, hR⟩ := h
  exact ⟨fn, tmps, assign, body, hy, trivial, fun c cs _ => hR.2 c cs (room_wide _)⟩
theorem YieldAt.plain {l : Nat} {args : Array Value} {W : World} {R : Ending → World → Prop} (m : Nat) (h : YieldAt Fence.wide 0 P l args W R) :
    ∃ fn tmps assign body, (Instr.yield l args).run P W = .ok (.round l fn tmps assign body) W ∧ RoundIn Fence.wide m P l fn tmps assign body W R := by
  obtain ⟨fn, tmps, assign, body, hy, hR⟩ := h
  exact ⟨fn, tmps, assign, body, hy, trivial, fun c cs _ => hR.2 c cs (room_wide _)⟩

theorem range_sl {α : Type} {g : Operand} {ps : Array Tmp} {assign body : Code} {Q : Exit → Act → World → Prop} {a : Act} {w : World}
    {gf : Nat} {lb : Array Value} (hg : a.eval g = .func (.func gf) #[] lb) (eg : Enters P gf)
    {R : α → Array Value → World → Prop} {xs : List α} {C : Nat → Prop} {w0 : World} (hseq : IterR P gf lb R xs C w0) (hC : ∀ k, C k → k < w0.heap.size ∧ w.heap[k]? = w0.heap[k]?)
    (hps : ∀ x args W, R x args W → args.size = ps.size) (hR : ∀ x args W l r o, R x args W → W.heap[l]? = some (.loop r) → R x args (W.putObj l o)) (T : Nat → Prop) (hT : ∀ k, T k → k < w.heap.size ∧ ¬ C k)
    (I : List α → World → Prop) (Ix : Code → List α → World → Prop) (hI : Low w.heap.size I) (hIx : ∀ c s W W' r, Ix c s W → W.heap[w.heap.size + 1]? = some (.loop r) → Stays (w.heap.size + 1) W W' → Ix c s W') (h0 : I [] w) (a₁ : Array Value → Act)
    (hassign : ∀ (l : Nat) (x : α) (args : Array Value) (W : World) (K : Act → World → Prop), R x args W → K (a₁ args) W →
      assign.wpIn (Fence.wide.inRound l) 0 P (Exit.then K (fun _ _ _ => False)) { tmps := (ps.zip args).foldl (fun t (p, v) => t.setIfInBounds p v) a.tmps, defers := [] } W)
    (hbody : ∀ (l : Nat) (pre : List α) (x : α) (args : Array Value) (W : World), pre ++ [x] <+: xs → Keeps T w W → I pre W → R x args W → body.wpIn (Fence.wide.inRound l) 0 P (roundEnd T I Ix (pre ++ [x]) W) (a₁ args) W)
    (hdone : ∀ (D : Nat) (W : World), w.heap.size ≤ D → Keeps T w W → I xs W → W.heap[D]? = some (.deferred (some [])) → Q .normal { a with defers := { target := .collected D, args := #[] } :: a.defers } W)
    (hstop : ∀ (D : Nat) (c : Code) (pre : List α) (W : World), w.heap.size ≤ D → Keeps T w W → pre <+: xs → Ix c pre W → W.heap[D]? = some (.deferred (some [])) → c.wp P Q { a with defers := { target := .collected D, args := #[] } :: a.defers } W) :
    (Code.rangeFunc g ps assign body).wp P Q a w := by
  refine (wpIn_wide (n := 0)).1 (wpIn_rangeFunc fun fn hfn => ?_)
  obtain ⟨rec, hrec⟩ : ∃ rec : LoopState → Option Code → Loop, rec = fun st pe => { state := st, pending := pe, fn, tmps := a.tmps, params := ps, assign, body, defers := w.heap.size } := ⟨_, rfl⟩
  have hrp : ∀ st pe, (rec st pe).params = ps := fun st pe => by rw [hrec]
  have hrs : ∀ st pe, (rec st pe).state = st := fun st pe => by rw [hrec]
  obtain ⟨W1, hW1⟩ : ∃ W1, (w.alloc (.deferred (some []))).alloc (.loop (rec .ready none)) = W1 := ⟨_, rfl⟩
  have hsz : W1.heap.size = w.heap.size + 2 := by rw [← hW1]; simp
  have hb1 : Below w.heap.size w W1 := by rw [← hW1]; exact ((Below.refl _ w).alloc (Nat.le_refl _) _).alloc (by simp) _
  have hl1 : W1.heap[w.heap.size + 1]? = some (.loop (rec .ready none)) := by
    rw [← hW1]; have := World.alloc_heap_new (w.alloc (.deferred (some []))) (.loop (rec .ready none)); rwa [World.size_alloc] at this
  have hd1 : W1.heap[w.heap.size]? = some (.deferred (some [])) := by
    rw [← hW1]; exact (Below.heap_alloc _ _ _ (by simp)).trans (World.alloc_heap_new w _)
  have hClt : ∀ k, C k → k < w.heap.size := fun k hk => by
    obtain ⟨h1, h2⟩ := hC k hk
    rcases Nat.lt_or_ge k w.heap.size with h | h
    · exact h
    · rw [Array.getElem?_eq_none h, Array.getElem?_eq_getElem h1] at h2; cases h2
  refine ⟨w.heap.size + 1, [{ target := .collected w.heap.size, args := #[] }], W1, { target := .fn (.func gf) lb, args := #[.func (.yield (w.heap.size + 1)) #[] #[]] }, W1, gf,
    #[.func (.yield (w.heap.size + 1)) #[] #[]] ++ lb, W1, ?_, ?_, fun f' _ => trivial, ?_, fun h => (by simp [Fence.wide] at h), ?_⟩
  · rw [← hW1, hrec]; exact run_enterLoop_outer _ _ _ _ _
  · simp only [resolve, hg]; simp [go_sem]
  · simp [invoke, go_sem, eg _ _]
  · have hT' : ∀ k, T k → k < W1.heap.size := fun k hk => by have := (hT k hk).1; omega
    refine (hseq (w.heap.size + 1) (fun k => T k ∨ k = w.heap.size + 1)
      (fun pre W => I pre W ∧ Keeps T w W ∧ W.heap[w.heap.size + 1]? = some (.loop (rec .ready none)) ∧ W.heap[w.heap.size]? = some (.deferred (some [])))
      (fun pre W => ∃ c, Ix c pre W ∧ Keeps T w W ∧ W.heap[w.heap.size + 1]? = some (.loop (rec .done (some c))) ∧ W.heap[w.heap.size]? = some (.deferred (some [])))
      W1 (fun k hk => ⟨(hC k hk).1, (hb1.block k (hClt k hk)).trans (hC k hk).2⟩)
      (fun k hk => by
        rcases hk with hk | rfl
        · exact ⟨hT' k hk, (hT k hk).2⟩
        · exact ⟨by omega, fun hk => by have := hClt _ hk; omega⟩)
      (fun s A B hs hb => ⟨hI s A B hs.1 (hb.mono (by omega)), hs.2.1.later (hb.mono (by omega)), (hb.block _ (by omega)).trans hs.2.2.1, (hb.block _ (by omega)).trans hs.2.2.2⟩)
      (fun s A B hs hb => by
        obtain ⟨c, h1, h2, h3, h4⟩ := hs
        have ha3 := (Array.getElem?_eq_some_iff.1 h3).1
        exact ⟨c, hIx c s A B _ h1 h3 (Stays.of_below hb), h2.later (hb.mono (by omega)), (hb.block _ (by omega)).trans h3, (hb.block _ (by omega)).trans h4⟩)
      ?_ ⟨hI _ _ _ h0 hb1, (Keeps.refl T w).later hb1, hl1, hd1⟩).mono ?_
    · rintro pre x args W hpre hKW ⟨hi, hkw, hl, hd⟩ hra
      have hlt : w.heap.size + 1 < W.heap.size := (Array.getElem?_eq_some_iff.1 hl).1
      have hy := run_yield (P := P) (args := args) hl (by rw [hrp]; exact hps x args W hra)
      refine ⟨fn, _, assign, body, (by rw [hrec] at hy; exact hy), roundIn_of_wpIn trivial (hassign _ x args W _ hra ⟨_, run_beginRound hl (hrs _ _), ?_⟩)⟩
      have hre : ({ rec .ready none with state := .busy } : Loop) = rec .busy none := by rw [hrec]
      rw [hre]
      have hl2 : (W.putObj (w.heap.size + 1) (.loop (rec .busy none))).heap[w.heap.size + 1]? = some (.loop (rec .busy none)) := World.putObj_heap_same hlt
      have hd2 : (W.putObj (w.heap.size + 1) (.loop (rec .busy none))).heap[w.heap.size]? = some (.deferred (some [])) := (World.putObj_heap_other (by omega)).trans hd
      have hk2 : Keeps (fun k => T k ∨ k = w.heap.size + 1) W (W.putObj (w.heap.size + 1) (.loop (rec .busy none))) := (Keeps.refl _ W).putObj (Or.inr rfl) _
      have hbl : ∀ (V : World) (o : Obj), Below w.heap.size V (V.putObj (w.heap.size + 1) o) := fun V o => below_putObj V (by omega) o
      have hnT : ¬ T (w.heap.size + 1) := fun h => by have := (hT _ h).1; omega
      have hnT0 : ¬ T (w.heap.size) := fun h => by have := (hT _ h).1; omega
      refine wpIn_mono (hbody _ pre x args _ hpre (hkw.later (hbl _ _)) (hI _ _ _ hi (hbl _ _)) (hR _ _ _ _ _ _ hra hl)) ?_
      have hsz2 : (W.putObj (w.heap.size + 1) (.loop (rec .busy none))).heap.size = W.heap.size := putObj_size _ _ _
      have hkw2 : Keeps T w (W.putObj (w.heap.size + 1) (.loop (rec .busy none))) := hkw.later (hbl _ _)
      generalize W.putObj (w.heap.size + 1) (.loop (rec .busy none)) = W2 at *
      have fin : ∀ (jump : Option Code) (W3 : World), Keeps T W2 W3 →
          ∃ v W4, (Instr.endRound (w.heap.size + 1) jump).run P W3 = .ok v W4 ∧ v = .bool jump.isNone ∧ Keeps (fun k => T k ∨ k = w.heap.size + 1) W W4 ∧ Keeps T w W4 ∧ Below w.heap.size W3 W4 ∧ (Stays (w.heap.size + 1) W3 W4 ∧ W3.heap[w.heap.size + 1]? = some (.loop (rec .busy none))) ∧
            W4.heap[w.heap.size + 1]? = some (.loop (rec (if jump.isNone then .ready else .done) jump)) ∧ W4.heap[w.heap.size]? = some (.deferred (some [])) := fun jump W3 hk3 => by
        have hl3 := (hk3.block _ (by omega) hnT).trans hl2
        have hd3 := (hk3.block _ (by omega) hnT0).trans hd2
        have hlt3 := (Array.getElem?_eq_some_iff.1 hl3).1
        have hr := run_endRound (P := P) jump hl3
        have hre3 : ({ rec .busy none with state := if jump.isNone then .ready else .done, pending := jump } : Loop) = rec (if jump.isNone then .ready else .done) jump := by rw [hrec]
        refine ⟨_, _, hr, rfl, ?_, ?_, hbl _ _, ⟨Stays.putObj _ _ _, hl3⟩, ?_, ?_⟩
        · exact (hk2.trans (hk3.wide fun k hk => Or.inl hk)).putObj (Or.inr rfl) _
        · exact (hkw2.trans hk3).later (hbl _ _)
        · rw [World.putObj_heap_same hlt3, hre3]
        · exact (World.putObj_heap_other (by omega)).trans hd3
      rintro e a3 W3 hp
      cases e with
      | normal =>
        obtain ⟨hk3, hi3⟩ := hp
        obtain ⟨v, W4, hr, rfl, h1, h2, h3, _, h4, h5⟩ := fin none W3 hk3
        exact ⟨_, _, hr, .inl ⟨rfl, h1, hI _ _ _ hi3 h3, h2, h4, h5⟩⟩
      | ret =>
        obtain ⟨hk3, hi3⟩ := hp
        obtain ⟨v, W4, hr, rfl, h1, h2, h3, ⟨h6, h7⟩, h4, h5⟩ := fin (some .ret) W3 hk3
        exact ⟨_, _, hr, .inr ⟨rfl, h1, .ret, hIx _ _ _ _ _ hi3 h7 h6, h2, h4, h5⟩⟩
      | exit id =>
        obtain ⟨hk3, hi3⟩ := hp
        obtain ⟨v, W4, hr, rfl, h1, h2, h3, ⟨h6, h7⟩, h4, h5⟩ := fin (some (.exit id)) W3 hk3
        exact ⟨_, _, hr, .inr ⟨rfl, h1, .exit id, hIx _ _ _ _ _ hi3 h7 h6, h2, h4, h5⟩⟩
      | goto t =>
        obtain ⟨hk3, hi3⟩ := hp
        obtain ⟨v, W4, hr, rfl, h1, h2, h3, ⟨h6, h7⟩, h4, h5⟩ := fin (some (.goto t)) W3 hk3
        exact ⟨_, _, hr, .inr ⟨rfl, h1, .goto t, hIx _ _ _ _ _ hi3 h7 h6, h2, h4, h5⟩⟩
      | panic ch => exact hp.elim
      | outgrown => exact hp.elim
    · have hbl : ∀ (V : World) (o : Obj), Below w.heap.size V (V.putObj (w.heap.size + 1) o) := fun V o => below_putObj V (by omega) o
      rintro e W2 ⟨⟨v, rfl⟩, _, (⟨hi, hkw, hl, hd⟩ | ⟨pre, hpre, c, hi, hkw, hl, hd⟩)⟩
      · exact ⟨none, _, by have := run_endLoop (P := P) hl (by rw [hrs]; simp); rw [hrec] at this; exact this, hdone _ _ (Nat.le_refl _) (hkw.later (hbl _ _)) (hI _ _ _ hi (hbl _ _)) ((World.putObj_heap_other (by omega)).trans hd)⟩
      · exact ⟨some c, _, by have := run_endLoop (P := P) hl (by rw [hrs]; simp); rw [hrec] at this; exact this, (wpIn_wide (n := 0)).2 (hstop _ c pre _ (Nat.le_refl _) (hkw.later (hbl _ _)) hpre (hIx _ _ _ _ _ hi hl (Stays.putObj _ _ _)) ((World.putObj_heap_other (by omega)).trans hd))⟩


/-- An iterator that only reads: whatever the rounds do with other blocks than those that it reads (C), it yields the elements of xs in their order until a round says 'no more'. -/
def IterV {α : Type} (P : Program) (gf : Nat) (lb : Array Value) (encs : α → Array Value) (xs : List α) (C : Nat → Prop) (w0 : World) : Prop :=
  ∀ (l : Nat) (T : Nat → Prop) (J Jx : List α → World → Prop) (W : World), (∀ k, C k → k < w0.heap.size ∧ W.heap[k]? = w0.heap[k]?) → (∀ k, T k → ¬ C k) →
    (∀ pre x W1, pre ++ [x] <+: xs → Keeps T W W1 → J pre W1 → YieldAt Fence.wide 0 P l (encs x) W1 fun e W' =>
      (e = .returned (.bool true) ∧ Keeps T W1 W' ∧ J (pre ++ [x]) W') ∨ (e = .returned (.bool false) ∧ Keeps T W1 W' ∧ Jx (pre ++ [x]) W')) →
    J [] W →
    CallsIn Fence.wide 0 P gf (#[.func (.yield l) #[] #[]] ++ lb) W fun e W' => (∃ v, e = .returned v) ∧ Keeps T W W' ∧ (J xs W' ∨ ∃ pre, pre <+: xs ∧ Jx pre W')

theorem range_rd {α : Type} {g : Operand} {ps : Array Tmp} {assign body : Code} {Q : Exit → Act → World → Prop} {a : Act} {w : World}
    {gf : Nat} {lb : Array Value} (hg : a.eval g = .func (.func gf) #[] lb) (eg : Enters P gf)
    {encs : α → Array Value} {xs : List α} {C : Nat → Prop} {w0 : World} (hseq : IterV P gf lb encs xs C w0) (hC : ∀ k, C k → k < w0.heap.size ∧ w.heap[k]? = w0.heap[k]?)
    (hps : ∀ x, (encs x).size = ps.size) (T : Nat → Prop) (hT : ∀ k, T k → k ≠ w.heap.size ∧ k ≠ w.heap.size + 1 ∧ ¬ C k)
    (I : List α → World → Prop) (Ix : Code → List α → World → Prop) (hI : ∀ s W W' r, I s W → W.heap[w.heap.size + 1]? = some (.loop r) → Stays (w.heap.size + 1) W W' → I s W') (hIx : ∀ c s W W' r, Ix c s W → W.heap[w.heap.size + 1]? = some (.loop r) → Stays (w.heap.size + 1) W W' → Ix c s W') (h0 : ∀ W, Below w.heap.size w W → w.heap.size + 2 ≤ W.heap.size → I [] W) (a₁ : α → Act)
    (hassign : ∀ (l : Nat) (x : α) (W : World) (K : Act → World → Prop), K (a₁ x) W →
      assign.wpIn (Fence.wide.inRound l) 0 P (Exit.then K (fun _ _ _ => False)) { tmps := (ps.zip (encs x)).foldl (fun t (p, v) => t.setIfInBounds p v) a.tmps, defers := [] } W)
    (hbody : ∀ (l : Nat) (pre : List α) (x : α) (W : World), pre ++ [x] <+: xs → Keeps T w W → I pre W → body.wpIn (Fence.wide.inRound l) 0 P (roundEnd T I Ix (pre ++ [x]) W) (a₁ x) W)
    (hdone : ∀ (D : Nat) (W : World), w.heap.size ≤ D → Keeps T w W → I xs W → W.heap[D]? = some (.deferred (some [])) → Q .normal { a with defers := { target := .collected D, args := #[] } :: a.defers } W)
    (hstop : ∀ (D : Nat) (c : Code) (pre : List α) (W : World), w.heap.size ≤ D → Keeps T w W → pre <+: xs → Ix c pre W → W.heap[D]? = some (.deferred (some [])) → c.wp P Q { a with defers := { target := .collected D, args := #[] } :: a.defers } W) :
    (Code.rangeFunc g ps assign body).wp P Q a w := by
  refine (wpIn_wide (n := 0)).1 (wpIn_rangeFunc fun fn hfn => ?_)
  obtain ⟨rec, hrec⟩ : ∃ rec : LoopState → Option Code → Loop, rec = fun st pe => { state := st, pending := pe, fn, tmps := a.tmps, params := ps, assign, body, defers := w.heap.size } := ⟨_, rfl⟩
  have hrp : ∀ st pe, (rec st pe).params = ps := fun st pe => by rw [hrec]
  have hrs : ∀ st pe, (rec st pe).state = st := fun st pe => by rw [hrec]
  obtain ⟨W1, hW1⟩ : ∃ W1, (w.alloc (.deferred (some []))).alloc (.loop (rec .ready none)) = W1 := ⟨_, rfl⟩
  have hsz : W1.heap.size = w.heap.size + 2 := by rw [← hW1]; simp
  have hb1 : Below w.heap.size w W1 := by rw [← hW1]; exact ((Below.refl _ w).alloc (Nat.le_refl _) _).alloc (by simp) _
  have hl1 : W1.heap[w.heap.size + 1]? = some (.loop (rec .ready none)) := by
    rw [← hW1]; have := World.alloc_heap_new (w.alloc (.deferred (some []))) (.loop (rec .ready none)); rwa [World.size_alloc] at this
  have hd1 : W1.heap[w.heap.size]? = some (.deferred (some [])) := by
    rw [← hW1]; exact (Below.heap_alloc _ _ _ (by simp)).trans (World.alloc_heap_new w _)
  have hClt : ∀ k, C k → k < w.heap.size := fun k hk => by
    obtain ⟨h1, h2⟩ := hC k hk
    rcases Nat.lt_or_ge k w.heap.size with h | h
    · exact h
    · rw [Array.getElem?_eq_none h, Array.getElem?_eq_getElem h1] at h2; cases h2
  refine ⟨w.heap.size + 1, [{ target := .collected w.heap.size, args := #[] }], W1, { target := .fn (.func gf) lb, args := #[.func (.yield (w.heap.size + 1)) #[] #[]] }, W1, gf,
    #[.func (.yield (w.heap.size + 1)) #[] #[]] ++ lb, W1, ?_, ?_, fun f' _ => trivial, ?_, fun h => (by simp [Fence.wide] at h), ?_⟩
  · rw [← hW1, hrec]; exact run_enterLoop_outer _ _ _ _ _
  · simp only [resolve, hg]; simp [go_sem]
  · simp [invoke, go_sem, eg _ _]
  · refine (hseq (w.heap.size + 1) (fun k => T k ∨ k = w.heap.size + 1)
      (fun pre W => I pre W ∧ Keeps T w W ∧ W.heap[w.heap.size + 1]? = some (.loop (rec .ready none)) ∧ W.heap[w.heap.size]? = some (.deferred (some [])))
      (fun pre W => ∃ c, Ix c pre W ∧ Keeps T w W ∧ W.heap[w.heap.size + 1]? = some (.loop (rec .done (some c))) ∧ W.heap[w.heap.size]? = some (.deferred (some [])))
      W1 (fun k hk => ⟨(hC k hk).1, (hb1.block k (hClt k hk)).trans (hC k hk).2⟩)
      (fun k hk => by
        rcases hk with hk | rfl
        · exact (hT k hk).2.2
        · exact fun hk => by have := hClt _ hk; omega)
      ?_ ⟨h0 _ hb1 (by omega), (Keeps.refl T w).later hb1, hl1, hd1⟩).mono ?_
    · rintro pre x W hpre hKW ⟨hi, hkw, hl, hd⟩
      have hlt : w.heap.size + 1 < W.heap.size := (Array.getElem?_eq_some_iff.1 hl).1
      have hy := run_yield (P := P) (args := encs x) hl (by rw [hrp]; exact hps x)
      refine ⟨fn, _, assign, body, (by rw [hrec] at hy; exact hy), roundIn_of_wpIn trivial (hassign _ x W _ ⟨_, run_beginRound hl (hrs _ _), ?_⟩)⟩
      have hre : ({ rec .ready none with state := .busy } : Loop) = rec .busy none := by rw [hrec]
      rw [hre]
      have hl2 : (W.putObj (w.heap.size + 1) (.loop (rec .busy none))).heap[w.heap.size + 1]? = some (.loop (rec .busy none)) := World.putObj_heap_same hlt
      have hd2 : (W.putObj (w.heap.size + 1) (.loop (rec .busy none))).heap[w.heap.size]? = some (.deferred (some [])) := (World.putObj_heap_other (by omega)).trans hd
      have hk2 : Keeps (fun k => T k ∨ k = w.heap.size + 1) W (W.putObj (w.heap.size + 1) (.loop (rec .busy none))) := (Keeps.refl _ W).putObj (Or.inr rfl) _
      have hbl : ∀ (V : World) (o : Obj), Below w.heap.size V (V.putObj (w.heap.size + 1) o) := fun V o => below_putObj V (by omega) o
      have hnT : ¬ T (w.heap.size + 1) := fun h => (hT _ h).2.1 rfl
      have hnT0 : ¬ T (w.heap.size) := fun h => (hT _ h).1 rfl
      refine wpIn_mono (hbody _ pre x _ hpre (hkw.later (hbl _ _)) (hI _ _ _ _ hi hl (Stays.putObj _ _ _))) ?_
      have hsz2 : (W.putObj (w.heap.size + 1) (.loop (rec .busy none))).heap.size = W.heap.size := putObj_size _ _ _
      have hkw2 : Keeps T w (W.putObj (w.heap.size + 1) (.loop (rec .busy none))) := hkw.later (hbl _ _)
      generalize W.putObj (w.heap.size + 1) (.loop (rec .busy none)) = W2 at *
      have fin : ∀ (jump : Option Code) (W3 : World), Keeps T W2 W3 →
          ∃ v W4, (Instr.endRound (w.heap.size + 1) jump).run P W3 = .ok v W4 ∧ v = .bool jump.isNone ∧ Keeps (fun k => T k ∨ k = w.heap.size + 1) W W4 ∧ Keeps T w W4 ∧ Below w.heap.size W3 W4 ∧ (Stays (w.heap.size + 1) W3 W4 ∧ W3.heap[w.heap.size + 1]? = some (.loop (rec .busy none))) ∧
            W4.heap[w.heap.size + 1]? = some (.loop (rec (if jump.isNone then .ready else .done) jump)) ∧ W4.heap[w.heap.size]? = some (.deferred (some [])) := fun jump W3 hk3 => by
        have hl3 := (hk3.block _ (by omega) hnT).trans hl2
        have hd3 := (hk3.block _ (by omega) hnT0).trans hd2
        have hlt3 := (Array.getElem?_eq_some_iff.1 hl3).1
        have hr := run_endRound (P := P) jump hl3
        have hre3 : ({ rec .busy none with state := if jump.isNone then .ready else .done, pending := jump } : Loop) = rec (if jump.isNone then .ready else .done) jump := by rw [hrec]
        refine ⟨_, _, hr, rfl, ?_, ?_, hbl _ _, ⟨Stays.putObj _ _ _, hl3⟩, ?_, ?_⟩
        · exact (hk2.trans (hk3.wide fun k hk => Or.inl hk)).putObj (Or.inr rfl) _
        · exact (hkw2.trans hk3).later (hbl _ _)
        · rw [World.putObj_heap_same hlt3, hre3]
        · exact (World.putObj_heap_other (by omega)).trans hd3
      rintro e a3 W3 hp
      cases e with
      | normal =>
        obtain ⟨hk3, hi3⟩ := hp
        obtain ⟨v, W4, hr, rfl, h1, h2, h3, ⟨h6, h7⟩, h4, h5⟩ := fin none W3 hk3
        exact ⟨_, _, hr, .inl ⟨rfl, h1, hI _ _ _ _ hi3 h7 h6, h2, h4, h5⟩⟩
      | ret =>
        obtain ⟨hk3, hi3⟩ := hp
        obtain ⟨v, W4, hr, rfl, h1, h2, h3, ⟨h6, h7⟩, h4, h5⟩ := fin (some .ret) W3 hk3
        exact ⟨_, _, hr, .inr ⟨rfl, h1, .ret, hIx _ _ _ _ _ hi3 h7 h6, h2, h4, h5⟩⟩
      | exit id =>
        obtain ⟨hk3, hi3⟩ := hp
        obtain ⟨v, W4, hr, rfl, h1, h2, h3, ⟨h6, h7⟩, h4, h5⟩ := fin (some (.exit id)) W3 hk3
        exact ⟨_, _, hr, .inr ⟨rfl, h1, .exit id, hIx _ _ _ _ _ hi3 h7 h6, h2, h4, h5⟩⟩
      | goto t =>
        obtain ⟨hk3, hi3⟩ := hp
        obtain ⟨v, W4, hr, rfl, h1, h2, h3, ⟨h6, h7⟩, h4, h5⟩ := fin (some (.goto t)) W3 hk3
        exact ⟨_, _, hr, .inr ⟨rfl, h1, .goto t, hIx _ _ _ _ _ hi3 h7 h6, h2, h4, h5⟩⟩
      | panic ch => exact hp.elim
      | outgrown => exact hp.elim
    · have hbl : ∀ (V : World) (o : Obj), Below w.heap.size V (V.putObj (w.heap.size + 1) o) := fun V o => below_putObj V (by omega) o
      rintro e W2 ⟨⟨v, rfl⟩, _, (⟨hi, hkw, hl, hd⟩ | ⟨pre, hpre, c, hi, hkw, hl, hd⟩)⟩
      · exact ⟨none, _, by have := run_endLoop (P := P) hl (by rw [hrs]; simp); rw [hrec] at this; exact this, hdone _ _ (Nat.le_refl _) (hkw.later (hbl _ _)) (hI _ _ _ _ hi hl (Stays.putObj _ _ _)) ((World.putObj_heap_other (by omega)).trans hd)⟩
      · exact ⟨some c, _, by have := run_endLoop (P := P) hl (by rw [hrs]; simp); rw [hrec] at this; exact this, (wpIn_wide (n := 0)).2 (hstop _ c pre _ (Nat.le_refl _) (hkw.later (hbl _ _)) hpre (hIx _ _ _ _ _ hi hl (Stays.putObj _ _ _)) ((World.putObj_heap_other (by omega)).trans hd))⟩


end Go.Proofs.YtkfahoaiialndaaGreatDoor
