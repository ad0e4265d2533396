/-
  Codes in memory, to read and to hand back; a search among codes; the plain bridge from definitions to the reference's list.
-/
import Derived.Test.YtcogkdnlpjfgdaaGreatDoorCodG
namespace Go.Proofs.YtcogkdnlpjfgdaaGreatDoor
open Go.RowKit
set_option linter.unusedVariables false
set_option linter.unusedSimpArgs false

/-- Rows in memory, to read. -/
def PM (w : World) (B : Nat) (A : Option Addr) (par : List (List Int)) : Prop :=
  ∃ vs : List Value, Sl w B A 1 par.length vs ∧ All2 (fun (l : List Int) u => ∃ A c, u = .slice A l.length c ∧ Sl w B A 1 l.length (l.map iv)) par vs
theorem PM.imp {w w' : World} {B B' : Nat} {A : Option Addr} {par : List (List Int)} (hT : ∀ A n xs, Sl w B A 1 n xs → Sl w' B' A 1 n xs) (h : PM w B A par) : PM w' B' A par := by
  obtain ⟨vs, h1, h2⟩ := h
  exact ⟨vs, hT _ _ _ h1, All2.imp (fun l u ⟨A, c, h3, h4⟩ => ⟨A, c, h3, hT _ _ _ h4⟩) h2⟩
theorem PM.below {w w' : World} {B : Nat} {A : Option Addr} {par : List (List Int)} (h : PM w B A par) (hb : Below B w w') : PM w' B A par := h.imp (fun _ _ _ h => h.below hb)
theorem PM.wide {w : World} {B B' : Nat} {A : Option Addr} {par : List (List Int)} (h : PM w B A par) (hB : B ≤ B') : PM w B' A par := h.imp (fun _ _ _ h => h.wide hB)
theorem PR.pm {w : World} {C : Nat} {A : Option Addr} {n c : Nat} {par : List (List Int)} (h : PR w C (.slice A n c) par) : PM w w.heap.size A par := by
  obtain ⟨vs, h1, h2⟩ := h
  obtain ⟨A', c', hv, _⟩ := own_form h1
  injection hv with e1 e2 e3
  subst e2
  exact ⟨vs, Sl.of_own h1, All2.imp (fun l u ⟨A, c, h3, h4⟩ => ⟨A, c, h3, by
    subst h3
    exact Sl.of_own h4⟩) h2⟩
theorem PM.row {w : World} {B : Nat} {A : Option Addr} {par : List (List Int)} (h : PM w B A par) {j : Nat} (hj : j < par.length) :
    ∃ b o A' c', A = some ⟨b, o, none⟩ ∧ b < B ∧ w.cell? ⟨b, o + j, none⟩ = some (.slice A' (par[j]).length c') ∧ Sl w B A' 1 (par[j]).length ((par[j]).map iv) := by
  obtain ⟨vs, h1, h2⟩ := h
  obtain ⟨b, o, u, hA, hb, hu, hc⟩ := h1.at_ hj
  obtain ⟨u', hu', A', c', rfl, hs⟩ := All2.at_ h2 (List.getElem?_eq_getElem hj)
  rw [hu] at hu'
  injection hu' with hu'
  subst hu'
  exact ⟨b, o, A', c', hA, hb, hc, hs⟩
theorem PM.nil (w : World) (B : Nat) (A : Option Addr) : PM w B A [] := ⟨[], Sl.nil _ _ _ _, trivial⟩
/-- A code's cells. -/
def CdM (w : World) (B : Nat) (x : Cd) (cs : List Value) : Prop := ∃ A c, cs = cdC x.name x.field x.data (.slice A x.par.length c) x.dom ∧ PM w B A x.par
def CdsM (w : World) (B : Nat) (A : Option Addr) (xs : List Cd) : Prop := ∃ css, Sl w B A 5 xs.length css.flatten ∧ All2 (CdM w B) xs css
theorem CdsM.imp {w w' : World} {B B' : Nat} {A : Option Addr} {xs : List Cd} (hT : ∀ A s n xs, Sl w B A s n xs → Sl w' B' A s n xs) (h : CdsM w B A xs) : CdsM w' B' A xs := by
  obtain ⟨css, h1, h2⟩ := h
  exact ⟨css, hT _ _ _ _ h1, All2.imp (fun l u ⟨A, c, h3, h4⟩ => ⟨A, c, h3, h4.imp (fun A n xs h => hT A 1 n xs h)⟩) h2⟩
theorem CdsM.below {w w' : World} {B : Nat} {A : Option Addr} {xs : List Cd} (h : CdsM w B A xs) (hb : Below B w w') : CdsM w' B A xs := h.imp (fun _ _ _ _ h => h.below hb)
theorem CdsM.wide {w : World} {B B' : Nat} {A : Option Addr} {xs : List Cd} (h : CdsM w B A xs) (hB : B ≤ B') : CdsM w B' A xs := h.imp (fun _ _ _ _ h => h.wide hB)
theorem flat_at {α β : Type} {P : α → List β → Prop} {k : Nat} (hk : ∀ x cs, P x cs → cs.length = k) : ∀ (xs : List α) (css : List (List β)), All2 P xs css → ∀ (j : Nat) (cs : List β), css[j]? = some cs → ∀ i u, cs[i]? = some u → css.flatten[j * k + i]? = some u
  | [], [], _, j, cs, hj, i, u, hi => by simp at hj
  | [], _ :: _, h, _, _, _, _, _, _ => h.elim
  | _ :: _, [], h, _, _, _, _, _, _ => h.elim
  | x :: xs, c :: css, h, 0, cs, hj, i, u, hi => by
    injection hj with hj
    subst hj
    rw [List.flatten_cons, Nat.zero_mul, Nat.zero_add, List.getElem?_append_left (List.getElem?_eq_some_iff.1 hi).1]
    exact hi
  | x :: xs, c :: css, h, j + 1, cs, hj, i, u, hi => by
    have hj' : css[j]? = some cs := hj
    have hc := hk _ _ h.1
    have he : (j + 1) * k + i = c.length + (j * k + i) := by rw [hc, Nat.add_mul]; omega
    rw [List.flatten_cons, he, List.getElem?_append_right (by omega), Nat.add_sub_cancel_left]
    exact flat_at hk xs css h.2 j cs hj' i u hi
theorem CdsM.code {w : World} {B : Nat} {A : Option Addr} {xs : List Cd} (h : CdsM w B A xs) {j : Nat} (hj : j < xs.length) :
    ∃ b o A' c', A = some ⟨b, o, none⟩ ∧ b < B ∧ (∀ k u, (cdC (xs[j]).name (xs[j]).field (xs[j]).data (.slice A' (xs[j]).par.length c') (xs[j]).dom)[k]? = some u → w.cell? ⟨b, o + (j * 5 + k), none⟩ = some u) ∧ PM w B A' (xs[j]).par := by
  obtain ⟨css, h1, h2⟩ := h
  obtain ⟨cs, hc, A', c', rfl, hp⟩ := All2.at_ h2 (List.getElem?_eq_getElem hj)
  have hf := flat_at (P := CdM w B) (k := 5) (fun x cs ⟨_, _, h, _⟩ => by rw [h]; rfl) xs css h2 j _ hc
  have h0 := (List.getElem?_eq_some_iff.1 (hf 0 _ rfl)).1
  obtain ⟨b, o, hA, hb, hcell⟩ := h1.2 (by omega)
  exact ⟨b, o, A', c', hA, hb, fun k u hu => hcell _ _ (hf k u hu), hp⟩
/-- Codes that a call hands back. -/
def CdR (w : World) (C : Nat) (x : Cd) (cs : List Value) : Prop := ∃ A c, cs = cdC x.name x.field x.data (.slice A x.par.length c) x.dom ∧ PR w C (.slice A x.par.length c) x.par
def CdsR (w : World) (C : Nat) (v : Value) (xs : List Cd) : Prop := ∃ css, w.ownsRow C 24 5 v xs.length css.flatten ∧ All2 (CdR w C) xs css
theorem CdsR.cm {w : World} {C : Nat} {A : Option Addr} {n c : Nat} {xs : List Cd} (h : CdsR w C (.slice A n c) xs) : CdsM w w.heap.size A xs := by
  obtain ⟨css, h1, h2⟩ := h
  obtain ⟨A', c', hv, _⟩ := own_form h1
  injection hv with e1 e2 e3
  subst e2
  exact ⟨css, Sl.of_own h1, All2.imp (fun l u ⟨A, c, h3, h4⟩ => ⟨A, c, h3, h4.pm⟩) h2⟩
theorem CdR.imp {w w' : World} {C : Nat} (hT : ∀ v par, PR w C v par → PR w' C v par) (x : Cd) (cs : List Value) (h : CdR w C x cs) : CdR w' C x cs := by
  obtain ⟨A, c, h3, h4⟩ := h
  exact ⟨A, c, h3, hT _ _ h4⟩
theorem CdsR.kept {w w' : World} {C : Nat} {v : Value} {xs : List Cd} (h : CdsR w C v xs) (hb : Below w.heap.size w w') : CdsR w' C v xs := by
  obtain ⟨css, h1, h2⟩ := h
  exact ⟨css, own_kept h1 hb, All2.imp (CdR.imp (fun v p h => h.kept hb)) h2⟩
theorem CdsR.alloc {w : World} {C : Nat} {v : Value} {xs : List Cd} (h : CdsR w C v xs) (o : Obj) : CdsR (w.alloc o) C v xs := by
  obtain ⟨css, h1, h2⟩ := h
  exact ⟨css, h1.alloc o, All2.imp (CdR.imp (fun v p h => h.alloc o)) h2⟩
theorem CdsR.nil (w : World) (C : Nat) : CdsR w C (.slice none 0 0) [] := ⟨[], World.ownsRow_nil _ _ _ _, trivial⟩
theorem CdsR.low {w : World} {C C' : Nat} {v : Value} {xs : List Cd} (h : CdsR w C v xs) (hC : C' ≤ C) : CdsR w C' v xs := by
  obtain ⟨css, h1, h2⟩ := h
  exact ⟨css, own_low h1 hC, All2.imp (fun x cs ⟨A, c, h3, h4⟩ => ⟨A, c, h3, h4.low hC⟩) h2⟩
theorem PR.grown {w w' : World} {C n : Nat} {v u : Value} {par : List (List Int)} {ys : List Value} (h : PR w C u par) (h1 : w.ownsRow C 24 5 v n ys) (hg : w.grownBy w' v.ownBlock) : PR w' C u par :=
  h.imp (fun v l h => World.ownsRow.kept h hg (own_apart h h1 (by decide))) (fun n ys h => World.ownsRow.kept h hg (own_apart h h1 (by decide)))
theorem CdsR.snoc {w w' : World} {C : Nat} {v v' : Value} {xs : List Cd} {x : Cd} {css : List (List Value)} {A : Option Addr} {c : Nat} (h1 : w.ownsRow C 24 5 v xs.length css.flatten) (h2 : All2 (CdR w C) xs css) (hr : PR w C (.slice A x.par.length c) x.par)
    (hg : w.grownBy w' v.ownBlock) (ho : w'.ownsRow C 24 5 v' (xs.length + 1) (css.flatten ++ cdC x.name x.field x.data (.slice A x.par.length c) x.dom)) : CdsR w' C v' (xs ++ [x]) :=
  ⟨css ++ [cdC x.name x.field x.data (.slice A x.par.length c) x.dom], by rw [List.length_append, List.flatten_append]; simpa using ho,
    All2.snoc ⟨A, c, rfl, hr.grown h1 hg⟩ (All2.imp (CdR.imp (fun v p h => h.grown h1 hg)) h2)⟩

/-- A function value that asks K of a code. -/
def AsksC (B : Nat) (w0 : World) (v : Value) (K : Cd → Bool) : Prop :=
  ∃ f caps, v = .func (.func f) #[] caps ∧ Enters Tryz.prog f ∧ ∀ (x : Cd) (A : Option Addr) (c : Nat) (w : World), Below B w0 w → Calls Tryz.prog f (#[cdV x.name x.field x.data (.slice A x.par.length c) x.dom] ++ caps) w fun e w' => e = .returned (.bool (K x)) ∧ Below w.heap.size w w'
set_option maxHeartbeats 1000000 in
theorem indexC_any (l : List Cd) (hl : l.length ≤ 9223372036854775807) (A : Option Addr) (c B : Nat) (kv : Value) (K : Cd → Bool) (w : World) (hs : CdsM w B A l) (hB : B ≤ w.heap.size) (hK : AsksC w.heap.size w kv K) :
    Calls Tryz.prog 78 #[.slice A l.length c, kv] w fun e w' => ∃ z : Int, e = .returned (.int .i64 z) ∧ decide (z ≥ 0) = l.any K ∧ Below w.heap.size w w' := by
  obtain ⟨f, caps, rfl, hen, hdo⟩ := hK
  unfold Enters at hen
  have HD := hideIt hdo
  have HS := hideIt hs
  have HBB := hideIt hB
  obtain ⟨n, hn⟩ : ∃ n, n = l.length := ⟨_, rfl⟩
  rw [← hn] at hl ⊢
  have HN := hideIt hn
  clear hdo hs hn hB
  go_enter Tryz.func78, Tryz.ntmps78
  go_wp2_with fail
  go_loopg [8] n (fun g s8 wr => ∃ j : Nat, j + g = n ∧ s8 = .int .i64 (j : Int) ∧ Aside ((l.take j).any K = false ∧ Below w.heap.size w wr))
  case atStart => exact ⟨0, by omega, rfl, rfl, Below.refl _ _⟩
  case round =>
    obtain ⟨j, hj, rfl, HI⟩ := hrel
    by_cases hlt : j < n
    · have hjl : j < l.length := by rw [← HN.out]; exact hlt
      obtain ⟨b, o, A', c', hA, hb, hcell, hpm⟩ := HS.out.code hjl
      subst hA
      have hkeep : ∀ k, wr.cell? ⟨b, o + (j * 5 + k), none⟩ = w.cell? ⟨b, o + (j * 5 + k), none⟩ := fun k => HI.out.2.cell (p := ⟨b, _, none⟩) (Nat.lt_of_lt_of_le hb HBB.out)
      have q0 : wr.cell? ⟨b, o + j * 5, none⟩ = some (.string (ss (l[j]).name)) := (hkeep 0).trans (hcell 0 _ rfl)
      have q1 : wr.cell? ⟨b, o + j * 5 + 1, none⟩ = some (.int .i64 (l[j]).field) := (hkeep 1).trans (hcell 1 _ rfl)
      have q2 : wr.cell? ⟨b, o + j * 5 + 2, none⟩ = some (.int .i64 (l[j]).data) := (hkeep 2).trans (hcell 2 _ rfl)
      have q3 : wr.cell? ⟨b, o + j * 5 + 3, none⟩ = some (.slice A' (l[j]).par.length c') := (hkeep 3).trans (hcell 3 _ rfl)
      have q4 : wr.cell? ⟨b, o + j * 5 + 4, none⟩ = some (.int .i64 (l[j]).dom) := (hkeep 4).trans (hcell 4 _ rfl)
      have HT := hideIt (take_snoc l j hjl)
      have HM := hideIt (List.getElem_mem hjl)
      have hinc : binOp .add 3 (.int .i64 (j : Int)) (.int .i64 1) = pure (.int .i64 ((j + 1 : Nat) : Int)) := by
        rw [binOp_add]
        simp only [Op.intArith]
        rw [IntWalk.i64_in _ (by omega)]
        rfl
      have hji : (j : Int) < (n : Int) := by omega
      have HX := hideIt (HD.out l[j] A' c' wr HI.out.2)
      generalize l[j] = x at *
      clear hjl hb hcell hpm hkeep
      cases hk : K x with
      | true =>
        rw [hk] at HX
        have HK := hideIt hk
        clear hk
        go_wp2_with (go_at_fn f; refine HX.out.mono ?_; rintro e w1 ⟨rfl, hb⟩; have HB1 := hideIt hb; clear hb)
        go_ret
        exact ⟨_, rfl, by rw [List.any_eq_true.2 ⟨x, HM.out, HK.out⟩]; simp, HI.out.2.trans (HB1.out.mono HI.out.2.size)⟩
      | false =>
        rw [hk] at HX
        have HK := hideIt hk
        clear hk
        go_wp2_with (go_at_fn f; refine HX.out.mono ?_; rintro e w1 ⟨rfl, hb⟩; have HB1 := hideIt hb; clear hb)
        go_roundg (gk - 1)
        case measure => omega
        case rel =>
          refine ⟨j + 1, by omega, by go_num, ?_, HI.out.2.trans (HB1.out.mono HI.out.2.size)⟩
          show (l.take (j + 1)).any K = false
          rw [HT.out, List.any_append, HI.out.1]
          simp [HK.out]
    · have hji : ¬ (j : Int) < (n : Int) := by omega
      have HE : Hid (l.any K = false) := by
        have := HI.out.1
        rw [List.take_of_length_le (by rw [← HN.out]; omega)] at this
        exact this
      go_wp2_with fail
      go_ret
      exact ⟨_, rfl, by rw [HE.out]; decide, HI.out.2⟩
set_option maxHeartbeats 400000 in
theorem containsC_any (l : List Cd) (hl : l.length ≤ 9223372036854775807) (A : Option Addr) (c B : Nat) (kv : Value) (K : Cd → Bool) (w : World) (hs : CdsM w B A l) (hB : B ≤ w.heap.size) (hK : AsksC w.heap.size w kv K) :
    Calls Tryz.prog 50 #[.slice A l.length c, kv] w fun e w' => e = .returned (.bool (l.any K)) ∧ Below w.heap.size w w' := by
  have HX := hideIt (indexC_any l hl A c B kv K w hs hB hK)
  obtain ⟨f, caps, rfl, _, _⟩ := hK
  clear hs hB
  cases hk : l.any K with
  | true =>
    rw [hk] at HX
    go_enter Tryz.func50, Tryz.ntmps50
    go_wp2_with (go_at_call 78; refine HX.out.mono ?_; rintro e w' ⟨z, rfl, hz, hb⟩; have HB1 := hideIt hb; clear hb; have hz := of_decide_eq_true hz)
    go_ret
    exact ⟨rfl, HB1.out⟩
  | false =>
    rw [hk] at HX
    go_enter Tryz.func50, Tryz.ntmps50
    go_wp2_with (go_at_call 78; refine HX.out.mono ?_; rintro e w' ⟨z, rfl, hz, hb⟩; have HB1 := hideIt hb; clear hb; have hz := of_decide_eq_false hz)
    go_ret
    exact ⟨rfl, HB1.out⟩

/-- The codes of definitions, as a plain function. -/
def allD : List Df → List Cd → List Cd × Nat × Int
  | [], out => (out, 0, 0)
  | x :: r, out =>
    if out.length = 8 then ([], x.nm.ps, 2)
    else if out.any (fun c => decide (c.name = x.nm.tx)) then ([], x.nm.ps, 4)
    else if (codeD x).2.2 ≠ 0 then ([], (codeD x).2.1, (codeD x).2.2)
    else allD r (out ++ [(codeD x).1])
theorem codeD_name {x : Df} (h : (codeD x).2.2 = 0) : (codeD x).1.name = x.nm.tx := by
  have one : ¬ (1 : Int) = 0 := by decide
  have two : ¬ (2 : Int) = 0 := by decide
  unfold codeD at h ⊢
  split
  · rename_i q; rw [if_pos q] at h; exact absurd h two
  · rename_i q; rw [if_neg q] at h
    split
    · rename_i q; rw [if_pos q] at h; exact absurd h one
    · rename_i q; rw [if_neg q] at h
      split
      · rename_i q; rw [if_pos q] at h; exact absurd h one
      · rename_i q; rw [if_neg q] at h
        split
        · rename_i q; rw [if_pos q] at h; exact absurd h q
        · rename_i q; rw [if_neg q] at h
          unfold domD at h ⊢
          split
          · rfl
          · rename_i m hm
            rw [hm] at h
            dsimp only at h
            split
            · rename_i q; rw [if_pos q] at h; exact absurd h one
            · rfl
/-- A source and its definition. -/
def ScD (l : List Tk) (s : Sc) (x : Df) : Prop := buildS s = codeD x ∧ s.name = x.nm ∧ ∃ S, x = (defP l S).1 ∧ (defP l S).2.bad < 0
theorem defsG_bad (l : List Tk) : ∀ (f : Nat) (s : PS) (out : List Df), (defsG l f s out).2.bad < 0 → s.bad < 0
  | 0, s, out, h => h
  | f + 1, s, out, h => by
    rw [defsG] at h
    split at h
    · rename_i q; exact q.1
    · exact h
theorem allG_defs (l : List Tk) : ∀ (f : Nat) (s : PS) (os : List Sc) (od : List Df), (allG l f s os).2 = (defsG l f s od).2 ∧ ((defsG l f s od).2.bad < 0 → All2 (ScD l) os od → All2 (ScD l) (allG l f s os).1 (defsG l f s od).1)
  | 0, s, os, od => ⟨rfl, fun _ h => h⟩
  | f + 1, s, os, od => by
    rw [allG, defsG]
    by_cases q : s.bad < 0 ∧ (cur l s).kd ≠ 4
    · rw [if_pos q, if_pos q]
      have h2 : (codeP l s).2 = (defP l s).2 := by rw [codeP_def]
      rw [h2]
      have ih := allG_defs l f (defP l s).2 (os ++ [(codeP l s).1]) (od ++ [(defP l s).1])
      refine ⟨ih.1, fun hb ha => ih.2 hb ?_⟩
      have hb1 := defsG_bad l f _ _ hb
      exact All2.snoc ⟨code_is hb1, by rw [codeP_def], s, rfl, hb1⟩ ha
    · rw [if_neg q, if_neg q]
      exact ⟨rfl, fun _ h => h⟩
theorem allB_allD (l : List Tk) : ∀ (ss : List Sc) (xs : List Df) (out : List Cd), All2 (ScD l) ss xs → allB (out.map Cd.name) ss out = allD xs out
  | [], [], out, _ => rfl
  | [], _ :: _, _, h => h.elim
  | _ :: _, [], _, h => h.elim
  | s :: ss, x :: xs, out, h => by
    rw [allB, allD, List.length_map]
    obtain ⟨⟨h1, h2, _⟩, h3⟩ := h
    rw [h1, h2, List.any_map]
    have e : (fun n => decide (n = x.nm.tx)) ∘ Cd.name = fun c => decide (c.name = x.nm.tx) := rfl
    rw [e]
    by_cases q1 : out.length = 8
    · rw [if_pos q1, if_pos q1]
    · rw [if_neg q1, if_neg q1]
      by_cases q2 : (out.any fun c => decide (c.name = x.nm.tx)) = true
      · rw [if_pos q2, if_pos q2]
      · rw [if_neg q2, if_neg q2]
        by_cases q3 : (codeD x).2.2 ≠ 0
        · rw [if_pos q3, if_pos q3]
        · rw [if_neg q3, if_neg q3]
          have hn := codeD_name (x := x) (by omega)
          have := allB_allD l ss xs (out ++ [(codeD x).1]) h3
          rw [List.map_append, List.map_singleton, hn] at this
          exact this
theorem def_in {t : Bs} {S : PS} (h : (defP (toks t) S).2.bad < 0) : (defP (toks t) S).2.i < (toks t).length := by
  have h1 := mustP_ok (show (mustP (toks t) [125] (dE (toks t) (dR (toks t) S).2).2).bad < 0 from h)
  have h2 : (defP (toks t) S).2.i = (dE (toks t) (dR (toks t) S).2).2.i + 1 := by
    show (mustP (toks t) [125] (dE (toks t) (dR (toks t) S).2).2).i = _
    rw [h1.2.2]
  have h3 := (isP_is h1.2.1).2.1
  obtain ⟨⟨a, z, e1, e2, e3⟩, _, _⟩ := toks_of t
  rw [h2]
  generalize (dE (toks t) (dR (toks t) S).2).2 = s at h3
  refine Nat.lt_of_not_le fun hle => ?_
  rw [e1, List.length_append, List.length_singleton] at hle
  unfold cur at h3
  rw [e1] at h3
  by_cases q : s.i = a.length
  · rw [q, List.getD_eq_getElem?_getD, List.getElem?_append_right (Nat.le_refl _), Nat.sub_self] at h3
    have h3' : z.kd = 1 ∨ z.kd = 3 := h3
    omega
  · rw [List.getD_eq_getElem?_getD, List.getElem?_eq_none (by rw [List.length_append, List.length_singleton]; omega)] at h3
    rcases h3 with h3 | h3 <;> exact absurd h3 (by decide)
theorem def_lt {l : List Tk} {S : PS} (h : (defP l S).2.bad < 0) : S.i < (defP l S).2.i := by
  have h1 := mustP_ok (show (mustP l [125] (dE l (dR l S).2).2).bad < 0 from h)
  have h2 : (defP l S).2.i = (dE l (dR l S).2).2.i + 1 := by
    show (mustP l [125] (dE l (dR l S).2).2).i = _
    rw [h1.2.2]
  have h3 : (dR l S).2.i ≤ (dE l (dR l S).2).2.i := by
    unfold dE
    split
    · exact mono_one l _ _
    · exact Nat.le_refl _
  have h4 : S.i ≤ (dR l S).2.i :=
    Nat.le_trans (mono_must l kCode S) (Nat.le_trans (mono_kind l 1 _) (Nat.le_trans (mono_must l _ _) (Nat.le_trans (mono_one l _ _) (Nat.le_trans (mono_one l _ _) (mono_rows l _ _ _ _)))))
  omega
theorem defsG_stop (l : List Tk) (f : Nat) (s : PS) (out : List Df) (h : ¬ s.bad < 0) : (defsG l f s out).2 = s := by
  cases f with
  | zero => rfl
  | succ f => rw [defsG, if_neg (fun q => h q.1)]
theorem defsG_end (t : Bs) : ∀ (f : Nat) (s : PS) (out : List Df), s.i < (toks t).length → (toks t).length ≤ f + s.i → 0 ≤ (defsG (toks t) f s out).2.bad ∨ (cur (toks t) (defsG (toks t) f s out).2).kd = 4
  | 0, s, out, h1, h2 => by omega
  | f + 1, s, out, h1, h2 => by
    rw [defsG]
    by_cases q : s.bad < 0 ∧ (cur (toks t) s).kd ≠ 4
    · rw [if_pos q]
      by_cases hb : (defP (toks t) s).2.bad < 0
      · have := def_lt hb
        exact defsG_end t f _ _ (def_in hb) (by omega)
      · rw [defsG_stop _ _ _ _ hb]
        exact .inl (by omega)
    · rw [if_neg q]
      by_cases hb : s.bad < 0
      · exact .inr (Decidable.byContradiction fun hk => q ⟨hb, hk⟩)
      · exact .inl (by show 0 ≤ s.bad; omega)
theorem parseAll_is (t : Bs) : parseAllC t = if 2000 < t.length then ([], 0, 2) else if 0 ≤ (kindP (toks t) 4 (defsG (toks t) ((toks t).length + 1) ⟨0, -1⟩ []).2).bad then ([], (kindP (toks t) 4 (defsG (toks t) ((toks t).length + 1) ⟨0, -1⟩ []).2).bad, 3)
    else ((allD (defsG (toks t) ((toks t).length + 1) ⟨0, -1⟩ []).1 []).1, ((allD (defsG (toks t) ((toks t).length + 1) ⟨0, -1⟩ []).1 []).2.1 : Int), (allD (defsG (toks t) ((toks t).length + 1) ⟨0, -1⟩ []).1 []).2.2) := by
  have ha := allG_defs (toks t) ((toks t).length + 1) ⟨0, -1⟩ [] []
  have hne : 0 < (toks t).length := by
    obtain ⟨⟨a, z, e1, _⟩, _⟩ := toks_of t
    rw [e1]; simp
  have he := defsG_end t ((toks t).length + 1) ⟨0, -1⟩ [] hne (by show _ ≤ _ + 0; omega)
  unfold parseAllC
  rw [ha.1]
  have hk : (kindP (toks t) 4 (defsG (toks t) ((toks t).length + 1) ⟨0, -1⟩ []).2).bad = (defsG (toks t) ((toks t).length + 1) ⟨0, -1⟩ []).2.bad := by
    unfold kindP
    rcases he with h | h
    · rw [if_neg (fun q => by omega)]
      unfold failP
      rw [if_neg (by omega)]
    · by_cases hb : (defsG (toks t) ((toks t).length + 1) ⟨0, -1⟩ []).2.bad < 0
      · rw [if_pos ⟨hb, h⟩]
      · rw [if_neg (fun q => hb q.1)]
        unfold failP
        rw [if_neg hb]
  rw [hk]
  by_cases q1 : 2000 < t.length
  · rw [if_pos q1, if_pos q1]
  · rw [if_neg q1, if_neg q1]
    by_cases q2 : 0 ≤ (defsG (toks t) ((toks t).length + 1) ⟨0, -1⟩ []).2.bad
    · rw [if_pos q2, if_pos q2]
    · rw [if_neg q2, if_neg q2]
      have := allB_allD (toks t) _ _ [] (ha.2 (by omega) trivial)
      rw [List.map_nil] at this
      rw [this]
/-- The definitions of a text are such as the grammar lets through. -/
theorem defs_ok (t : Bs) : ∀ (f : Nat) (s : PS) (out : List Df), (∀ x ∈ out, ∃ S, x = (defP (toks t) S).1 ∧ (defP (toks t) S).2.bad < 0) → (defsG (toks t) f s out).2.bad < 0 → ∀ x ∈ (defsG (toks t) f s out).1, ∃ S, x = (defP (toks t) S).1 ∧ (defP (toks t) S).2.bad < 0
  | 0, s, out, h, _ => h
  | f + 1, s, out, h, hb => by
    rw [defsG] at hb ⊢
    split
    · rename_i q
      rw [if_pos q] at hb
      refine defs_ok t f _ _ (fun x hx => ?_) hb
      rcases List.mem_append.1 hx with hx | hx
      · exact h x hx
      · rw [List.mem_singleton] at hx
        exact ⟨s, hx, defsG_bad _ _ _ _ hb⟩
    · exact h
theorem defsG_len (l : List Tk) : ∀ (f : Nat) (s : PS) (out : List Df), (defsG l f s out).1.length ≤ out.length + f
  | 0, s, out => Nat.le_refl _
  | f + 1, s, out => by
    rw [defsG]
    split
    · have := defsG_len l f (defP l s).2 (out ++ [(defP l s).1])
      simp at this
      omega
    · show out.length ≤ _; omega

end Go.Proofs.YtcogkdnlpjfgdaaGreatDoor
