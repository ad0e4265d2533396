/-
  Rows of numbers in memory, to read (cut out of the texts of codelang).
-/
import Derived.Test.YtpjgmekpnlpjaaaDoorOnceU
import Derived.Deep.LoopGhost
import Derived.Shelf.Abstract
namespace Go.Proofs.YtpjgmekpnlpjaaaDoor
section
set_option linter.unusedVariables false
set_option linter.unusedSimpArgs false


def All2 {α β : Type} (P : α → β → Prop) : List α → List β → Prop
  | [], [] => True
  | a :: r, b :: s => P a b ∧ All2 P r s
  | _, _ => False
end

section
open Go.RowKit
set_option linter.unusedVariables false
set_option linter.unusedSimpArgs false

theorem All2.imp {α β : Type} {P Q : α → β → Prop} (h : ∀ a b, P a b → Q a b) : ∀ {us : List α} {bs : List β}, All2 P us bs → All2 Q us bs
  | [], [], _ => trivial
  | [], b :: bs, hh => hh.elim
  | a :: us, [], hh => hh.elim
  | a :: us, b :: bs, hh => ⟨h a b hh.1, All2.imp h hh.2⟩
theorem All2.snoc {α β : Type} {P : α → β → Prop} {a : α} {b : β} (h : P a b) : ∀ {us : List α} {bs : List β}, All2 P us bs → All2 P (us ++ [a]) (bs ++ [b])
  | [], [], _ => ⟨h, trivial⟩
  | [], c :: bs, hh => hh.elim
  | c :: us, [], hh => hh.elim
  | c :: us, d :: bs, hh => ⟨hh.1, All2.snoc h hh.2⟩
theorem All2.at_ {α β : Type} {P : α → β → Prop} : ∀ {us : List α} {bs : List β}, All2 P us bs → ∀ {i : Nat} {a : α}, us[i]? = some a → ∃ b, bs[i]? = some b ∧ P a b
  | [], [], _, i, a, h => by simp at h
  | [], c :: bs, hh, _, _, _ => hh.elim
  | c :: us, [], hh, _, _, _ => hh.elim
  | c :: us, d :: bs, hh, 0, a, h => by
    injection h with h
    exact ⟨d, rfl, h ▸ hh.1⟩
  | c :: us, d :: bs, hh, i + 1, a, h => by
    have h' : us[i]? = some a := h
    obtain ⟨b, h1, h2⟩ := All2.at_ hh.2 h'
    exact ⟨b, h1, h2⟩

theorem own_set {w : World} {B g n k : Nat} {e t : TypeId} {v : Value} {xs cs : List Value} (h : w.ownsRow B e k v n xs) (hb : Blk w g t cs) (ht : t ≠ e) (i : Nat) (u : Value) : (w.setCell ⟨g, i, none⟩ u).ownsRow B e k v n xs := by
  refine h.kept (row := some g) ⟨rfl, rfl, rfl, by simp [World.setCell], fun k hk hne => heap_setCell_other _ _ _ _ (fun e => hne (by rw [e]))⟩ (.inr fun e => ?_)
  exact own_ne h hb ht e.symm
end

section
open Go.RowKit
set_option linter.unusedVariables false

theorem i_eql (T : TypeId) (k : IntKind) (a b : Int) : binOp .eql T (.int k a) (.int k b) = pure (.bool (decide (a = b))) := by
  have h : decide (a = b) = (a == b) := by rw [Bool.eq_iff_iff, decide_eq_true_iff, beq_iff_eq]
  rw [h, binOp_eql]
theorem i_neq (T : TypeId) (k : IntKind) (a b : Int) : binOp .neq T (.int k a) (.int k b) = pure (.bool (decide (a ≠ b))) := by
  have h : decide (a ≠ b) = (a != b) := by rw [Bool.eq_iff_iff, decide_eq_true_iff, bne_iff_ne]
  rw [h, binOp_neq]
end

section
open Go.RowKit
set_option linter.unusedVariables false
set_option linter.unusedSimpArgs false

/-- Rows in memory, to read. -/
def PM (w : World) (B : Nat) (A : Option Addr) (par : List (List Int)) : Prop :=
  ∃ vs : List Value, Sl w B A 1 par.length vs ∧ All2 (fun (l : List Int) u => ∃ A c, u = .slice A l.length c ∧ Sl w B A 1 l.length (l.map iv)) par vs
theorem PM.imp {w w' : World} {B B' : Nat} {A : Option Addr} {par : List (List Int)} (hT : ∀ A n xs, Sl w B A 1 n xs → Sl w' B' A 1 n xs) (h : PM w B A par) : PM w' B' A par := by
  obtain ⟨vs, h1, h2⟩ := h
  exact ⟨vs, hT _ _ _ h1, All2.imp (fun l u ⟨A, c, h3, h4⟩ => ⟨A, c, h3, hT _ _ _ h4⟩) h2⟩
theorem PM.below {w w' : World} {B : Nat} {A : Option Addr} {par : List (List Int)} (h : PM w B A par) (hb : Below B w w') : PM w' B A par := h.imp (fun _ _ _ h => h.below hb)
theorem PM.wide {w : World} {B B' : Nat} {A : Option Addr} {par : List (List Int)} (h : PM w B A par) (hB : B ≤ B') : PM w B' A par := h.imp (fun _ _ _ h => h.wide hB)
theorem PM.row {w : World} {B : Nat} {A : Option Addr} {par : List (List Int)} (h : PM w B A par) {j : Nat} (hj : j < par.length) :
    ∃ b o A' c', A = some ⟨b, o, none⟩ ∧ b < B ∧ w.cell? ⟨b, o + j, none⟩ = some (.slice A' (par[j]).length c') ∧ Sl w B A' 1 (par[j]).length ((par[j]).map iv) := by
  obtain ⟨vs, h1, h2⟩ := h
  obtain ⟨b, o, u, hA, hb, hu, hc⟩ := h1.at_ hj
  obtain ⟨u', hu', A', c', rfl, hs⟩ := All2.at_ h2 (List.getElem?_eq_getElem hj)
  rw [hu] at hu'
  injection hu' with hu'
  subst hu'
  exact ⟨b, o, A', c', hA, hb, hc, hs⟩
theorem PM.nil (w : World) (B : Nat) (A : Option Addr) : PM w B A [] := ⟨[], Sl.nil _ _ _ _, trivial⟩
end

section
open Go.RowKit
set_option linter.unusedVariables false
set_option linter.unusedSimpArgs false

/-- A function value that asks K of a number. -/
def AsksI (w : World) (v : Value) (K : Int → Bool) : Prop :=
  ∃ f caps, v = .func (.func f) #[] caps ∧ Enters Tryd.prog f ∧ ∀ x : Int, Calls Tryd.prog f (#[.int .i64 x] ++ caps) w fun e w' => e = .returned (.bool (K x)) ∧ w = w'
set_option maxHeartbeats 1000000 in
theorem indexI_any (l : List Int) (hl : l.length ≤ 9223372036854775807) (A : Option Addr) (c B : Nat) (kv : Value) (K : Int → Bool) (w : World) (hs : Sl w B A 1 l.length (l.map iv)) (hK : AsksI w kv K) :
    Calls Tryd.prog 77 #[.slice A l.length c, kv] w fun e w' => ∃ z : Int, e = .returned (.int .i64 z) ∧ decide (z ≥ 0) = l.any K ∧ w = w' := by
  obtain ⟨f, caps, rfl, hen, hdo⟩ := hK
  unfold Enters at hen
  have HD := hideIt hdo
  have HS := hideIt hs
  obtain ⟨n, hn⟩ : ∃ n, n = l.length := ⟨_, rfl⟩
  rw [← hn] at hl ⊢
  have HN := hideIt hn
  clear hdo hs hn
  go_enter Tryd.func77, Tryd.ntmps77
  go_wp2_with fail
  go_loopg [8] n (fun g s8 wr => ∃ j : Nat, j + g = n ∧ s8 = .int .i64 (j : Int) ∧ wr = w ∧ Aside ((l.take j).any K = false))
  case atStart => exact ⟨0, by omega, rfl, rfl, rfl⟩
  case round =>
    obtain ⟨j, hj, rfl, rfl, HI⟩ := hrel
    by_cases hlt : j < n
    · have hjl : j < l.length := by rw [← HN.out]; exact hlt
      obtain ⟨b, o, hA, hb, hcell⟩ := HS.out.num hjl
      subst hA
      have HT := hideIt (take_snoc l j hjl)
      have HM := hideIt (List.getElem_mem hjl)
      have hinc : binOp .add 3 (.int .i64 (j : Int)) (.int .i64 1) = pure (.int .i64 ((j + 1 : Nat) : Int)) := by
        rw [binOp_add]
        simp only [Op.intArith]
        rw [IntWalk.i64_in _ (by omega)]
        rfl
      have hji : (j : Int) < (n : Int) := by omega
      have HX := hideIt (HD.out l[j])
      generalize l[j] = x at *
      clear hjl hb
      cases hk : K x with
      | true =>
        rw [hk] at HX
        have HK := hideIt hk
        clear hk
        go_wp2_with (go_at_fn f; refine HX.out.mono ?_; rintro e w' ⟨rfl, rfl⟩)
        go_ret
        exact ⟨_, rfl, by rw [List.any_eq_true.2 ⟨x, HM.out, HK.out⟩]; simp, rfl⟩
      | false =>
        rw [hk] at HX
        have HK := hideIt hk
        clear hk
        go_wp2_with (go_at_fn f; refine HX.out.mono ?_; rintro e w' ⟨rfl, rfl⟩)
        go_roundg (gk - 1)
        case measure => omega
        case rel =>
          refine ⟨j + 1, by omega, by go_num, rfl, ?_⟩
          show (l.take (j + 1)).any K = false
          rw [HT.out, List.any_append, HI.out]
          simp [HK.out]
    · have hji : ¬ (j : Int) < (n : Int) := by omega
      have HE : Hid (l.any K = false) := by
        have := HI.out
        rw [List.take_of_length_le (by rw [← HN.out]; omega)] at this
        exact this
      go_wp2_with fail
      go_ret
      exact ⟨_, rfl, by rw [HE.out]; decide, rfl⟩
set_option maxHeartbeats 400000 in
theorem containsI_any (l : List Int) (hl : l.length ≤ 9223372036854775807) (A : Option Addr) (c B : Nat) (kv : Value) (K : Int → Bool) (w : World) (hs : Sl w B A 1 l.length (l.map iv)) (hK : AsksI w kv K) :
    Calls Tryd.prog 66 #[.slice A l.length c, kv] w fun e w' => e = .returned (.bool (l.any K)) ∧ w = w' := by
  have HX := hideIt (indexI_any l hl A c B kv K w hs hK)
  obtain ⟨f, caps, rfl, _, _⟩ := hK
  clear hs
  cases hk : l.any K with
  | true =>
    rw [hk] at HX
    go_enter Tryd.func66, Tryd.ntmps66
    go_wp2_with (go_at_call 77; refine HX.out.mono ?_; rintro e w' ⟨z, rfl, hz, rfl⟩; have hz := of_decide_eq_true hz)
    go_ret
    exact ⟨rfl, rfl⟩
  | false =>
    rw [hk] at HX
    go_enter Tryd.func66, Tryd.ntmps66
    go_wp2_with (go_at_call 77; refine HX.out.mono ?_; rintro e w' ⟨z, rfl, hz, rfl⟩; have hz := of_decide_eq_false hz)
    go_ret
    exact ⟨rfl, rfl⟩
end

end Go.Proofs.YtpjgmekpnlpjaaaDoor
