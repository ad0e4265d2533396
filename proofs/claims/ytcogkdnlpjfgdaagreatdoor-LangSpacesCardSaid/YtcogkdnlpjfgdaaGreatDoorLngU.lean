/-
  A definition as the parser reads it, as a plain function and in memory; rows of rows. No program stands behind this text.
-/
import Derived.Test.YtcogkdnlpjfgdaaGreatDoorLngS
namespace Go.Proofs.YtcogkdnlpjfgdaaGreatDoor
open Go.RowKit
set_option linter.unusedVariables false
set_option linter.unusedSimpArgs false

theorem rowsG_pre (l : List Tk) (pre : List Ln) : ∀ (f : Nat) (b : Bool) (s : PS) (out : List Ln), rowsG l f b s (pre ++ out) = (pre ++ (rowsG l f b s out).1, (rowsG l f b s out).2)
  | 0, b, s, out => rfl
  | f + 1, b, s, out => by
    rw [rowsG, rowsG]
    split
    · rw [List.append_assoc, rowsG_pre l pre f]
    · rfl
/-- What a text says of a code. -/
structure Df where
  nm : Tk
  f : Tk
  d : Tk
  rows : List Ln
  dm : Option Tk
/-- The places of the parser within a code. -/
def dS1 (l : List Tk) (S : PS) : PS := mustP l kCode S
def dS2 (l : List Tk) (S : PS) : PS := mustP l [123] (kindP l 1 (dS1 l S))
def dS3 (l : List Tk) (S : PS) : PS := (oneP l kField (dS2 l S)).2
def dS4 (l : List Tk) (S : PS) : PS := (oneP l kData (dS3 l S)).2
def dR (l : List Tk) (S : PS) : List Ln × PS := rowsG l (l.length + 1) true (dS4 l S) []
def dE (l : List Tk) (R : PS) : Option Tk × PS := if isP l kDomain R then (some (cur l (mustP l kDomain R)), (oneP l kDomain R).2) else (none, R)
def defP (l : List Tk) (S : PS) : Df × PS :=
  (⟨cur l (dS1 l S), cur l (mustP l kField (dS2 l S)), cur l (mustP l kData (dS3 l S)), (dR l S).1, (dE l (dR l S).2).1⟩, mustP l [125] (dE l (dR l S).2).2)
/-- The lines of a code. -/
def dLines (kf kd km : Tk) (x : Df) : List Ln := ⟨kf, [x.f], []⟩ :: ⟨kd, [x.d], []⟩ :: (x.rows ++ match x.dm with | some m => [⟨km, [m], []⟩] | none => [])
theorem codeP_def (l : List Tk) (S : PS) : codeP l S = (⟨(defP l S).1.nm, dLines (cur l (dS2 l S)) (cur l (dS3 l S)) (cur l (dR l S).2) (defP l S).1⟩, (defP l S).2) := by
  have hb : bodyP l (headP l S) = ([(oneP l kField (dS2 l S)).1, (oneP l kData (dS3 l S)).1] ++ (dR l S).1, (dR l S).2) := by
    show rowsG l (l.length + 1) true (dS4 l S) [(oneP l kField (dS2 l S)).1, (oneP l kData (dS3 l S)).1] = _
    have := rowsG_pre l [(oneP l kField (dS2 l S)).1, (oneP l kData (dS3 l S)).1] (l.length + 1) true (dS4 l S) []
    rw [List.append_nil] at this
    exact this
  unfold codeP
  rw [hb]
  unfold endP defP dE
  by_cases h : isP l kDomain (dR l S).2 = true
  · simp only [h, if_true, dLines]
    rfl
  · have h := Bool.eq_false_iff.2 h
    simp only [h, Bool.false_eq_true, if_false, dLines, List.append_nil]
    rfl
theorem dead_dS2 {l : List Tk} {S : PS} {A : Nat} (h : Dead l (dS1 l S) A) : Dead l (dS2 l S) A := dead_must (dead_kind h (by decide)) _
theorem dead_dE {l : List Tk} {R : PS} {A : Nat} (h : Dead l R A) : Dead l (dE l R).2 A := by
  unfold dE
  rw [dead_is h, if_neg (by simp)]
  exact h

theorem All2.imp {α β : Type} {P Q : α → β → Prop} (h : ∀ a b, P a b → Q a b) : ∀ {us : List α} {bs : List β}, All2 P us bs → All2 Q us bs
  | [], [], _ => trivial
  | [], b :: bs, hh => hh.elim
  | a :: us, [], hh => hh.elim
  | a :: us, b :: bs, hh => ⟨h a b hh.1, All2.imp h hh.2⟩
theorem All2.snoc {α β : Type} {P : α → β → Prop} {a : α} {b : β} (h : P a b) : ∀ {us : List α} {bs : List β}, All2 P us bs → All2 P (us ++ [a]) (bs ++ [b])
  | [], [], _ => ⟨h, trivial⟩
  | [], c :: bs, hh => hh.elim
  | c :: us, [], hh => hh.elim
  | c :: us, d :: bs, hh => ⟨hh.1, All2.snoc h hh.2⟩
theorem All2.len {α β : Type} {P : α → β → Prop} : ∀ {us : List α} {bs : List β}, All2 P us bs → us.length = bs.length
  | [], [], _ => rfl
  | [], c :: bs, hh => hh.elim
  | c :: us, [], hh => hh.elim
  | c :: us, d :: bs, hh => by simp [All2.len hh.2]
theorem All2.at_ {α β : Type} {P : α → β → Prop} : ∀ {us : List α} {bs : List β}, All2 P us bs → ∀ {i : Nat} {a : α}, us[i]? = some a → ∃ b, bs[i]? = some b ∧ P a b
  | [], [], _, i, a, h => by simp at h
  | [], c :: bs, hh, _, _, _ => hh.elim
  | c :: us, [], hh, _, _, _ => hh.elim
  | c :: us, d :: bs, hh, 0, a, h => by
    injection h with h
    exact ⟨d, rfl, h ▸ hh.1⟩
  | c :: us, d :: bs, hh, i + 1, a, h => by
    have h' : us[i]? = some a := h
    obtain ⟨b, h1, h2⟩ := All2.at_ hh.2 h'
    exact ⟨b, h1, h2⟩

/-- Rows as they are written, in memory. -/
def RowsR (w : World) (C B : Nat) (v : Value) (xs : List Ln) : Prop :=
  ∃ css : List (List Value), w.ownsRow C 107 4 v xs.length css.flatten ∧ All2 (RowR w B) xs css
theorem own_apart {w : World} {B B' n n' k k' : Nat} {e e' : TypeId} {v v' : Value} {xs xs' : List Value} (h : w.ownsRow B e k v n xs) (h' : w.ownsRow B' e' k' v' n' xs') (he : e ≠ e') : v.ownBlock = none ∨ v.ownBlock ≠ v'.ownBlock := by
  rcases h.2 with ⟨rfl, _⟩ | ⟨g, cap, cur, rfl, _, hg, _⟩
  · exact .inl rfl
  · rcases h'.2 with ⟨rfl, _⟩ | ⟨g', cap', cur', rfl, _, hg', _⟩
    · exact .inr (by simp [Value.ownBlock])
    · refine .inr fun hh => ?_
      simp only [Value.ownBlock, Option.some.injEq] at hh
      subst hh
      rw [hg] at hg'
      injection hg' with hg'
      injection hg' with _ hg' _
      exact he hg'
theorem RowR.imp {w w' : World} {B : Nat} (h : ∀ v l, TkS w B v l → TkS w' B v l) (x : Ln) (cs : List Value) (hr : RowR w B x cs) : RowR w' B x cs := by
  obtain ⟨va, vb, h1, h2⟩ := hr
  refine ⟨va, vb, h1, ?_⟩
  rcases h2 with ⟨h3, h4, h5⟩ | ⟨h3, h0, h4, h5⟩
  · exact .inl ⟨h3, h _ _ h4, h _ _ h5⟩
  · exact .inr ⟨h3, h0, h _ _ h4, h5⟩
theorem RowsR.imp {w w' : World} {C B : Nat} {v : Value} {xs : List Ln} (h : ∀ v l, TkS w B v l → TkS w' B v l) (ho : ∀ ys n, w.ownsRow C 107 4 v n ys → w'.ownsRow C 107 4 v n ys) (hr : RowsR w C B v xs) : RowsR w' C B v xs := by
  obtain ⟨css, h1, h2⟩ := hr
  exact ⟨css, ho _ _ h1, All2.imp (RowR.imp h) h2⟩
theorem RowsR.keepT {w w' : World} {C B B' : Nat} {v : Value} {xs : List Ln} (hr : RowsR w C B v xs) (hk : KeepT B' [102] w w') : RowsR w' C B v xs :=
  hr.imp (fun v l h => h.keepT hk) (fun ys n h => own_keepT h hk (by decide))
theorem RowR.keepT {w w' : World} {B B' : Nat} {x : Ln} {cs : List Value} (hr : RowR w B x cs) (hk : KeepT B' [102] w w') : RowR w' B x cs := RowR.imp (fun v l h => h.keepT hk) x cs hr
theorem own_set {w : World} {B g n k : Nat} {e t : TypeId} {v : Value} {xs cs : List Value} (h : w.ownsRow B e k v n xs) (hb : Blk w g t cs) (ht : t ≠ e) (i : Nat) (u : Value) : (w.setCell ⟨g, i, none⟩ u).ownsRow B e k v n xs := by
  refine h.kept (row := some g) ⟨rfl, rfl, rfl, by simp [World.setCell], fun k hk hne => heap_setCell_other _ _ _ _ (fun e => hne (by rw [e]))⟩ (.inr fun e => ?_)
  exact own_ne h hb ht e.symm
theorem RowsR.set {w : World} {C B g : Nat} {v : Value} {xs : List Ln} {t : TypeId} {cs : List Value} (hr : RowsR w C B v xs) (hb : Blk w g t cs) (h1 : t ≠ 77) (h2 : t ≠ 107) (i : Nat) (u : Value) : RowsR (w.setCell ⟨g, i, none⟩ u) C B v xs :=
  hr.imp (fun v l h => own_set h hb h1 i u) (fun ys n h => own_set h hb h2 i u)
theorem RowsR.alloc {w : World} {C B : Nat} {v : Value} {xs : List Ln} (hr : RowsR w C B v xs) (o : Obj) : RowsR (w.alloc o) C B v xs := hr.imp (fun v l h => World.ownsRow.alloc h o) (fun ys n h => h.alloc o)
theorem RowR.alloc {w : World} {B : Nat} {x : Ln} {cs : List Value} (hr : RowR w B x cs) (o : Obj) : RowR (w.alloc o) B x cs := RowR.imp (fun v l h => World.ownsRow.alloc h o) x cs hr
theorem RowR.len {w : World} {B : Nat} {x : Ln} {cs : List Value} (hr : RowR w B x cs) : cs.length = 4 := by
  obtain ⟨va, vb, h1, _⟩ := hr
  rw [h1]; rfl
theorem RowR.ones {w : World} {B : Nat} {x : Ln} {cs : List Value} (hr : RowR w B x cs) : ∀ u ∈ cs, u.oneCell' = true := by
  obtain ⟨va, vb, h1, h2⟩ := hr
  intro u hu
  rw [h1] at hu
  simp only [List.mem_cons, List.not_mem_nil, or_false] at hu
  rcases hu with rfl | rfl | rfl | rfl
  · rfl
  · rfl
  · rcases h2 with ⟨_, h3, _⟩ | ⟨_, rfl, _, _⟩
    · obtain ⟨A, c, rfl, _⟩ := own_form h3; rfl
    · rfl
  · rcases h2 with ⟨_, _, h3⟩ | ⟨_, _, h3, _⟩ <;> (obtain ⟨A, c, rfl, _⟩ := own_form h3; rfl)

theorem RowsR.one {w : World} {C B : Nat} {x : Ln} {cs : List Value} (hr : RowR w B x cs) (hB : C ≤ w.heap.size) : RowsR (w.alloc (.cells cs.toArray 107)) C B (.slice (some ⟨w.heap.size, 0, none⟩) 1 1) [x] :=
  ⟨[cs], by
    have := own_new w C hB 107 cs 4 hr.len
    simpa using this, hr.alloc _, trivial⟩
/-- One row more. -/
theorem RowsR.snoc {w w' : World} {C B : Nat} {v v' : Value} {xs : List Ln} {x : Ln} {css : List (List Value)} {cs : List Value} (h1 : w.ownsRow C 107 4 v xs.length css.flatten) (h2 : All2 (RowR w B) xs css) (hr : RowR w B x cs)
    (hg : w.grownBy w' v.ownBlock) (ho : w'.ownsRow C 107 4 v' (xs.length + 1) (css.flatten ++ cs)) : RowsR w' C B v' (xs ++ [x]) := by
  have hT : ∀ u l, TkS w B u l → TkS w' B u l := fun u l h => World.ownsRow.kept h hg (own_apart h h1 (by decide))
  exact ⟨css ++ [cs], by rw [List.length_append, List.flatten_append]; simpa using ho, All2.snoc (RowR.imp hT _ _ hr) (All2.imp (RowR.imp hT) h2)⟩
theorem RowsR.low {w : World} {C C' B : Nat} {v : Value} {xs : List Ln} (hr : RowsR w C B v xs) (h : C' ≤ C) : RowsR w C' B v xs := by
  obtain ⟨css, h1, h2⟩ := hr
  exact ⟨css, own_low h1 h, h2⟩

/-- A definition's cells. -/
def dmC : Option Tk → List Value
  | some m => tkC m
  | none => [.int .i64 0, .string ⟨#[]⟩]
def dfC (x : Df) (v : Value) : List Value := tkC x.nm ++ tkC x.f ++ tkC x.d ++ dmC x.dm ++ [v]
def DefR (w : World) (B : Nat) (x : Df) (cs : List Value) : Prop := ∃ v, cs = dfC x v ∧ RowsR w B B v x.rows

end Go.Proofs.YtcogkdnlpjfgdaaGreatDoor
