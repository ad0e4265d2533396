/-
  A row's text, walked: slices.Contains, rowText, statement.
-/
import Derived.Test.YtcogkdnlpjfgdaaGreatDoorLpA
import Derived.Maps.AppendAt
namespace Go.Proofs.YtcogkdnlpjfgdaaGreatDoor
open Go.RowKit
set_option linter.unusedVariables false
set_option linter.unusedSimpArgs false

/-- Two rows of numbers of the call's own, neither in the other's place. -/
structure P2 (w : World) (B : Nat) (u v : Value) (a b : List Int) : Prop where
  ou : IR w B u a
  ov : IR w B v b
  ap : ∀ k, u.ownBlock = some k → v.ownBlock ≠ some k
theorem P2.kept {w w' : World} {B : Nat} {u v : Value} {a b : List Int} (h : P2 w B u v a b) (hb : Below w.heap.size w w') : P2 w' B u v a b := ⟨own_kept h.ou hb, own_kept h.ov hb, h.ap⟩
theorem P2.fst {w w' : World} {B : Nat} {u v u' : Value} {a b a' : List Int} (h : P2 w B u v a b) (hg : w.grownBy w' u.ownBlock) (ho : IR w' B u' a') (hat : u'.ownBlock = u.ownBlock ∨ u'.ownBlock = some w.heap.size) : P2 w' B u' v a' b := by
  refine ⟨ho, World.ownsRow.kept h.ov hg ?_, fun k hk hk' => ?_⟩
  · cases hv : v.ownBlock with
    | none => exact .inl rfl
    | some k => exact .inr (fun e => h.ap k e.symm hv)
  · rcases hat with e | e
    · rw [e] at hk; exact h.ap k hk hk'
    · rw [e] at hk
      injection hk with hk
      have := (World.ownsRow.lt h.ov k hk').2
      omega
theorem P2.snd {w w' : World} {B : Nat} {u v v' : Value} {a b b' : List Int} (h : P2 w B u v a b) (hg : w.grownBy w' v.ownBlock) (ho : IR w' B v' b') (hat : v'.ownBlock = v.ownBlock ∨ v'.ownBlock = some w.heap.size) : P2 w' B u v' a b' := by
  refine ⟨World.ownsRow.kept h.ou hg ?_, ho, fun k hk hk' => ?_⟩
  · cases hu : u.ownBlock with
    | none => exact .inl rfl
    | some k => exact .inr (fun e => h.ap k hu e.symm)
  · rcases hat with e | e
    · rw [e] at hk'; exact h.ap k hk hk'
    · rw [e] at hk'
      injection hk' with hk'
      have := (World.ownsRow.lt h.ou k hk).2
      omega

def zB (x : Int) : Bool := decide (x = 0)
set_option maxHeartbeats 1000000 in
theorem index0_any (l : List Int) (hl : l.length ≤ 9223372036854775807) (A : Option Addr) (c B : Nat) (w : World) (hs : Sl w B A 1 l.length (l.map iv)) :
    Calls Tryz.prog 83 #[.slice A l.length c, .int .i64 0] w fun e w' => ∃ z : Int, e = .returned (.int .i64 z) ∧ decide (z ≥ 0) = l.any zB ∧ w = w' := by
  have HS := hideIt hs
  obtain ⟨n, hn⟩ : ∃ n, n = l.length := ⟨_, rfl⟩
  rw [← hn] at hl ⊢
  have HN := hideIt hn
  clear hs hn
  go_enter Tryz.func83, Tryz.ntmps83
  go_wp2_with fail
  go_loopg [8] n (fun g s8 wr => ∃ j : Nat, j + g = n ∧ s8 = .int .i64 (j : Int) ∧ wr = w ∧ Aside ((l.take j).any zB = false))
  case atStart => exact ⟨0, by omega, rfl, rfl, rfl⟩
  case round =>
    obtain ⟨j, hj, rfl, rfl, HI⟩ := hrel
    by_cases hlt : j < n
    · have hjl : j < l.length := by rw [← HN.out]; exact hlt
      obtain ⟨b, o, hA, hb, hcell⟩ := HS.out.num hjl
      subst hA
      have HT := hideIt (take_snoc l j hjl)
      have HM := hideIt (List.getElem_mem hjl)
      have hinc := inc_w 3 j (by omega)
      have hji : (j : Int) < (n : Int) := by omega
      generalize l[j] = x at *
      have heq := i_eql 3 .i64 0 x
      clear hjl hb
      by_cases hk : x = 0
      · rw [decide_eq_true hk.symm] at heq
        have HK := hideIt hk
        clear hk
        go_wp2_with fail
        go_ret
        exact ⟨_, rfl, by rw [List.any_eq_true.2 ⟨x, HM.out, decide_eq_true HK.out⟩]; simp, rfl⟩
      · rw [decide_eq_false (fun h => hk h.symm)] at heq
        have HK := hideIt hk
        clear hk
        go_wp2_with fail
        go_roundg (gk - 1)
        case measure => omega
        case rel =>
          refine ⟨j + 1, by omega, by go_num, rfl, ?_⟩
          show (l.take (j + 1)).any zB = false
          have hz : zB x = false := decide_eq_false HK.out
          rw [HT.out, List.any_append, HI.out]
          simp [hz]
    · have hji : ¬ (j : Int) < (n : Int) := by omega
      have HE : Hid (l.any zB = false) := by
        have := HI.out
        rw [List.take_of_length_le (by rw [← HN.out]; omega)] at this
        exact this
      go_wp2_with fail
      go_ret
      exact ⟨_, rfl, by rw [HE.out]; decide, rfl⟩
set_option maxHeartbeats 400000 in
theorem contains0_any (l : List Int) (hl : l.length ≤ 9223372036854775807) (A : Option Addr) (c B : Nat) (w : World) (hs : Sl w B A 1 l.length (l.map iv)) :
    Calls Tryz.prog 56 #[.slice A l.length c, .int .i64 0] w fun e w' => e = .returned (.bool (l.any zB)) ∧ w = w' := by
  have HX := hideIt (index0_any l hl A c B w hs)
  clear hs
  cases hk : l.any zB with
  | true =>
    rw [hk] at HX
    go_enter Tryz.func56, Tryz.ntmps56
    go_wp2_with (go_at_call 83; refine HX.out.mono ?_; rintro e w' ⟨z, rfl, hz, rfl⟩; have hz := of_decide_eq_true hz)
    go_ret
    exact ⟨rfl, rfl⟩
  | false =>
    rw [hk] at HX
    go_enter Tryz.func56, Tryz.ntmps56
    go_wp2_with (go_at_call 83; refine HX.out.mono ?_; rintro e w' ⟨z, rfl, hz, rfl⟩; have hz := of_decide_eq_false hz)
    go_ret
    exact ⟨rfl, rfl⟩

set_option maxHeartbeats 400000 in
theorem statement_any (t : Bs) (ht : t.length ≤ 1000000000) (w : World) : Calls Tryz.prog 28 #[sv t] w fun e w' => e = .returned (sv ([9] ++ t ++ [59, 10])) ∧ w = w' := by
  have h1 : binOp .add 9 (.string ⟨#[9]⟩) (sv t) = pure (sv ([9] ++ t)) := s_add 9 [9] t (by simp; omega)
  have h2 : binOp .add 9 (sv ([9] ++ t)) (.string ⟨#[59, 10]⟩) = pure (sv ([9] ++ t ++ [59, 10])) := s_add 9 ([9] ++ t) [59, 10] (by simp; omega)
  generalize [9] ++ t = t1 at *
  generalize t1 ++ [59, 10] = t2 at *
  clear ht
  go_enter Tryz.func28, Tryz.ntmps28
  go_wp2_with fail
  go_ret
  exact ⟨rfl, rfl⟩

/-- A row's text without its end. -/
def rowN (l : List Int) : Bs :=
  if l.any (fun x => decide (x = 0)) then kLocal ++ (idxs 0 l).flatMap sp ++ [58] ++ (vals l).flatMap sp
  else kParity ++ (l.map Int.toNat).flatMap sp
theorem rowS_is (l : List Int) : rowS l = rowN l ++ [59] := by
  unfold rowS rowN
  split <;> rfl
theorem idxs_le : ∀ (l : List Int) (j : Nat), ∀ x ∈ idxs j l, x < j + l.length
  | [], j, x, h => by cases h
  | y :: r, j, x, h => by
    rw [idxs] at h
    rw [List.length_cons]
    split at h
    · have := idxs_le r (j + 1) x h; omega
    · rcases List.mem_cons.1 h with h | h
      · omega
      · have := idxs_le r (j + 1) x h; omega
theorem idxs_len : ∀ (l : List Int) (j : Nat), (idxs j l).length = (vals l).length ∧ (vals l).length ≤ l.length
  | [], j => ⟨rfl, Nat.le_refl _⟩
  | y :: r, j => by
    rw [idxs, vals]
    have := idxs_len r (j + 1)
    split
    · exact ⟨this.1, by simp; omega⟩
    · exact ⟨by simp; exact this.1, by simp; exact this.2⟩
theorem vals_le : ∀ (l : List Int) (m : Nat), (∀ x ∈ l, 0 ≤ x ∧ x ≤ m) → ∀ x ∈ vals l, x ≤ m
  | [], m, _, x, h => by cases h
  | y :: r, m, hl, x, h => by
    rw [vals] at h
    have hy := hl y (by simp)
    split at h
    · exact vals_le r m (fun z hz => hl z (by simp [hz])) x h
    · rcases List.mem_cons.1 h with h | h
      · omega
      · exact vals_le r m (fun z hz => hl z (by simp [hz])) x h
def nI (l : List Nat) : List Int := l.map Int.ofNat
theorem nI_nat (l : List Nat) : (nI l).map Int.toNat = l := by unfold nI; rw [List.map_map]; induction l with | nil => rfl | cons x r ih => rw [List.map_cons, ih]; rfl

theorem idxs_step (x : Int) (r : List Int) (j : Nat) : idxs j (x :: r) = if x = 0 then idxs (j + 1) r else j :: idxs (j + 1) r := rfl
theorem vals_step (x : Int) (r : List Int) : vals (x :: r) = if x = 0 then vals r else x.toNat :: vals r := rfl
theorem IR.app {w : World} {B : Nat} {v : Value} {a : List Int} {x : Int} {n : Nat} (h : w.ownsRow B 3 1 v (n + 1) (a.map iv ++ [iv x])) (hn : a.length = n) : IR w B v (a ++ [x]) := by
  unfold IR
  rw [List.map_append, List.length_append, hn]
  exact h

set_option maxHeartbeats 1000000 in
set_option maxRecDepth 100000 in
theorem rowText_any (l : List Int) (hr : ∀ x ∈ l, 0 ≤ x ∧ x ≤ 65535) (hl : l.length ≤ 31) (A : Option Addr) (c B : Nat) (w : World) (hs : Sl w B A 1 l.length (l.map iv)) (hB : B ≤ w.heap.size) (ht : TabW w) :
    Calls Tryz.prog 30 #[.slice A l.length c] w fun e w' => e = .returned (sv (rowN l)) ∧ Below w.heap.size w w' := by
  have HC := hideIt (contains0_any l (by omega) A c B w hs)
  have hnot : ∀ (x : Bool) (w : World), (Op.unary .not (.bool x)).run Tryz.prog w = .ok (.bool (!x)) w := fun _ _ => rfl
  have hrn : rowN l = if l.any zB = true then kLocal ++ (idxs 0 l).flatMap sp ++ [58] ++ (vals l).flatMap sp else kParity ++ (l.map Int.toNat).flatMap sp := rfl
  by_cases hz : l.any zB = true
  · rw [hz] at HC
    rw [hrn, if_pos hz]
    obtain ⟨T, hT⟩ : ∃ T, T = kLocal ++ (idxs 0 l).flatMap sp ++ [58] ++ (vals l).flatMap sp := ⟨_, rfl⟩
    rw [← hT]
    have HTX := hideIt hT
    clear hT
    obtain ⟨i0, hi, hz0, hz1, hz2⟩ := info_three (show (Tryz.prog.info? 3).map (fun i => (i.zero, i.size, i.bytes)) = some (some (.int .i64 0), 1, 8) by kernel_rfl)
    have HS := hideIt hs
    have HBB := hideIt hB
    have HR := hideIt hr
    have HT := hideIt ht
    obtain ⟨n, hn⟩ : ∃ n, n = l.length := ⟨_, rfl⟩
    rw [← hn] at hl HC ⊢
    have HN := hideIt hn
    clear hs hB hr ht hn hz hrn
    go_enter Tryz.func30, Tryz.ntmps30
    go_wp2_with (go_at_call 56; refine HC.out.mono ?_; rintro e w' ⟨rfl, rfl⟩)
    go_loopg [3, 4, 15] n (fun gk s3 s4 s15 wr => ∃ (j m : Nat) (A3 A4 : Option Addr) (c3 c4 : Nat), j + gk = n ∧ m ≤ j ∧ s3 = .slice A3 m c3 ∧ s4 = .slice A4 m c4 ∧ s15 = .int .i64 (j : Int) ∧
      Aside (Below w.heap.size w wr ∧ ∃ a b : List Nat, a.length = m ∧ b.length = m ∧ idxs 0 l = a ++ idxs j (l.drop j) ∧ vals l = b ++ vals (l.drop j) ∧ P2 wr w.heap.size (.slice A3 m c3) (.slice A4 m c4) (nI a) (nI b)))
    case atStart => exact ⟨0, 0, none, none, 0, 0, by omega, Nat.le_refl _, rfl, rfl, rfl, Below.refl _ _, [], [], rfl, rfl, rfl, rfl, World.ownsRow_nil _ _ _ _, World.ownsRow_nil _ _ _ _, fun k hk => by cases hk⟩
    case round =>
      obtain ⟨j, m, A3, A4, c3, c4, hj, hmj, rfl, rfl, rfl, HI⟩ := hrel
      by_cases hlt : j < n
      · have hjl : j < l.length := by rw [← HN.out]; exact hlt
        obtain ⟨b, o, hA, hb, hc⟩ := HS.out.num hjl
        subst hA
        have q1 : wr.cell? ⟨b, o + j, none⟩ = some (.int .i64 l[j]) := (HI.out.1.cell (p := ⟨b, _, none⟩) (Nat.lt_of_lt_of_le hb HBB.out)).trans hc
        have hx0 := (HR.out _ (List.getElem_mem hjl)).1
        have HDR := hideIt (List.drop_eq_getElem_cons hjl)
        have hinc := inc_w 3 j (by omega)
        have hji : (j : Int) < (n : Int) := by omega
        have hne := i_neq 3 .i64 l[j] 0
        generalize l[j] = x at *
        clear hb hc hjl
        by_cases hk : x = 0
        · rw [decide_eq_false (fun h => h hk)] at hne
          have HK := hideIt hk
          clear hk
          go_wp2_with fail
          go_roundg (gk - 1)
          case measure => omega
          case rel =>
            obtain ⟨hb, a, b', e1, e2, e3, e4, e5⟩ := HI.out
            refine ⟨j + 1, m, A3, A4, c3, c4, by omega, by omega, rfl, rfl, by go_num, hb, a, b', e1, e2, ?_, ?_, e5⟩
            · rw [e3, HDR.out, idxs_step, if_pos HK.out]
            · rw [e4, HDR.out, vals_step, if_pos HK.out]
        · rw [decide_eq_true hk] at hne
          have HK := hideIt hk
          have HX0 := hideIt hx0
          clear hk hx0
          obtain ⟨hb, a, b', e1, e2, e3, e4, e5⟩ := HI.out
          have HB0 := hideIt hb
          have hla : (nI a).length = m := by unfold nI; rw [List.length_map]; exact e1
          have hlb : (nI b').length = m := by unfold nI; rw [List.length_map]; exact e2
          have HE1 := hideIt e1
          have HE2 := hideIt e2
          have HE3 := hideIt e3
          have HE4 := hideIt e4
          have HLA := hideIt hla
          have HLB := hideIt hlb
          have HP := hideIt (e5.kept (below_new wr (.cells #[.int .i64 (j : Int)] 3)))
          have HO1 : Hid ((wr.alloc (.cells #[.int .i64 (j : Int)] 3)).ownsRow w.heap.size 3 1 (.slice A3 m c3) m ((nI a).map iv)) := by
            have := HP.out.ou
            unfold IR at this
            rw [hla] at this
            exact this
          clear HI hb e1 e2 e3 e4 e5 hla hlb
          go_wp2_with (first
            | ((with_reducible refine at_append ?_); refine wpList_append_own_at _ rfl (.tmp 26) (.tmp 28) 61 rfl w.heap.size 3 i0 (.int .i64 0) 1 8 Tryz.underlying61 hi hz0 hz1 hz2 rfl (by decide) (.slice A4 m c4) m _ rfl HO2.out ⟨w1.heap.size, 0, none⟩ 1 1 [iv x] rfl rfl (cell_one_new _ _ _) (ones_one rfl) (by unfold maxLen; omega) (by omega) (Nat.le_trans HB1.out.size (below_new w1 _).size) ?_; intro v2 w2 ho2 hg2 hn2 hat2; have ho2' := IR.app ho2 HLB.out; have HP2 := hideIt ((HP1.out.kept (below_new w1 (.cells #[.int .i64 x] 3))).snd hg2 ho2' hat2); have HB2 := hideIt (below_grown (HB1.out.alloc HB1.out.size _) HO2.out (Nat.le_refl _) (Nat.le_trans HB1.out.size (below_new w1 _).size) hg2); obtain ⟨A6, c6, rfl, _, _⟩ := own_form ho2; clear ho2 hg2 hn2 hat2 ho2')
            | ((with_reducible refine at_append ?_); refine wpList_append_own_at _ rfl (.tmp 22) (.tmp 24) 61 rfl w.heap.size 3 i0 (.int .i64 0) 1 8 Tryz.underlying61 hi hz0 hz1 hz2 rfl (by decide) (.slice A3 m c3) m _ rfl HO1.out ⟨wr.heap.size, 0, none⟩ 1 1 [iv (j : Int)] rfl rfl (cell_one_new _ _ _) (ones_one rfl) (by unfold maxLen; omega) (by omega) (Nat.le_trans HB0.out.size (below_new wr _).size) ?_; intro v1 w1 ho1 hg1 hn1 hat1; have ho1' := IR.app ho1 HLA.out; have HP1 := hideIt (HP.out.fst hg1 ho1' hat1); have HB1 := hideIt (below_grown (HB0.out.alloc HB0.out.size _) HO1.out (Nat.le_refl _) (Nat.le_trans HB0.out.size (below_new wr _).size) hg1); obtain ⟨A5, c5, rfl, _, _⟩ := own_form ho1; have HO2 : Hid ((w1.alloc (.cells #[.int .i64 x] 3)).ownsRow w.heap.size 3 1 (.slice A4 m c4) m ((nI b').map iv)) := (by have := (HP1.out.kept (below_new w1 (.cells #[.int .i64 x] 3))).ov; unfold IR at this; rw [HLB.out] at this; exact this); clear ho1 hg1 hn1 hat1 ho1'))
          go_roundg (gk - 1)
          case measure => omega
          case rel =>
            refine ⟨j + 1, m + 1, A5, A6, c5, c6, by omega, by omega, rfl, rfl, by go_num, HB2.out, a ++ [j], b' ++ [x.toNat], by rw [List.length_append, HE1.out]; rfl, by rw [List.length_append, HE2.out]; rfl, ?_, ?_, ?_⟩
            · rw [HE3.out, HDR.out, idxs_step, if_neg HK.out, List.append_assoc]; rfl
            · rw [HE4.out, HDR.out, vals_step, if_neg HK.out, List.append_assoc]; rfl
            · have h1 : nI (a ++ [j]) = nI a ++ [(j : Int)] := by unfold nI; rw [List.map_append]; rfl
              have h2 : nI (b' ++ [x.toNat]) = nI b' ++ [x] := by unfold nI; rw [List.map_append, List.map_singleton]; have := HX0.out; congr 2; exact Int.toNat_of_nonneg this
              rw [h1, h2]
              exact HP2.out
      · have hji : ¬ (j : Int) < (n : Int) := by omega
        obtain ⟨hb, a, b', e1, e2, e3, e4, e5⟩ := HI.out
        rw [List.drop_of_length_le (by rw [← HN.out]; omega)] at e3 e4
        have e3 : idxs 0 l = a := e3.trans (List.append_nil a)
        have e4 : vals l = b' := e4.trans (List.append_nil b')
        have hil := idxs_len l 0
        have hra : ∀ x ∈ nI a, 0 ≤ x ∧ x ≤ 100000 := fun x hx => by
          obtain ⟨y, hy, rfl⟩ := List.mem_map.1 hx
          rw [← e3] at hy
          have := idxs_le l 0 y hy
          have := HN.out
          exact ⟨Int.natCast_nonneg _, by show (y : Int) ≤ 100000; omega⟩
        have hrb : ∀ x ∈ nI b', 0 ≤ x ∧ x ≤ 100000 := fun x hx => by
          obtain ⟨y, hy, rfl⟩ := List.mem_map.1 hx
          rw [← e4] at hy
          have := vals_le l 65535 HR.out y hy
          exact ⟨Int.natCast_nonneg _, by show (y : Int) ≤ 100000; omega⟩
        have hla : (nI a).length = m := by unfold nI; rw [List.length_map]; exact e1
        have hlb : (nI b').length = m := by unfold nI; rw [List.length_map]; exact e2
        have hoa : wr.ownsRow w.heap.size 3 1 (.slice A3 (nI a).length c3) (nI a).length ((nI a).map iv) := by
          have := e5.ou
          unfold IR at this
          rw [← hla] at this
          exact this
        have hob : wr.ownsRow w.heap.size 3 1 (.slice A4 (nI b').length c4) (nI b').length ((nI b').map iv) := by
          have := e5.ov
          unfold IR at this
          rw [← hlb] at this
          exact this
        have hm : m ≤ 31 := by omega
        have HN1 := numerals_any (nI a) hra (by omega) A3 c3 wr.heap.size wr (Sl.of_own hoa) (Nat.le_refl _) (HT.out.keep hb)
        have HN2 := hideIt (fun W (hW : Below wr.heap.size wr W) => numerals_any (nI b') hrb (by omega) A4 c4 W.heap.size W (Sl.of_own (own_kept hob hW)) (Nat.le_refl _) ((HT.out.keep hb).keep hW))
        rw [hla, nI_nat] at HN1
        rw [hlb, nI_nat] at HN2
        have hsa := fsp_len a (fun x hx => by have := hra (x : Int) (List.mem_map.2 ⟨x, hx, rfl⟩); omega)
        have hsb := fsp_len b' (fun x hx => by have := hrb (x : Int) (List.mem_map.2 ⟨x, hx, rfl⟩); omega)
        rw [e1] at hsa
        rw [e2] at hsb
        have hTX := HTX.out
        rw [e3, e4] at hTX
        have HNA := hideIt HN1
        have HB0 := hideIt hb
        generalize a.flatMap sp = S1 at *
        generalize b'.flatMap sp = S2 at *
        have a1 : binOp .add 9 (.string ⟨#[108, 111, 99, 97, 108]⟩) (sv S1) = pure (sv (kLocal ++ S1)) := s_add 9 kLocal S1 (by show 5 + _ ≤ _; omega)
        have a2 : binOp .add 9 (sv (kLocal ++ S1)) (.string ⟨#[58]⟩) = pure (sv (kLocal ++ S1 ++ [58])) := s_add 9 (kLocal ++ S1) [58] (by rw [List.length_append]; show 5 + _ + 1 ≤ _; omega)
        have a3 : binOp .add 9 (sv (kLocal ++ S1 ++ [58])) (sv S2) = pure (sv (kLocal ++ S1 ++ [58] ++ S2)) := s_add 9 (kLocal ++ S1 ++ [58]) S2 (by rw [List.length_append, List.length_append]; show 5 + _ + 1 + _ ≤ _; omega)
        generalize kLocal ++ S1 = T1 at *
        generalize T1 ++ [58] = T2 at *
        generalize T2 ++ S2 = T3 at *
        have HTE := hideIt hTX
        clear hTX HTX HN1 hb e1 e2 e3 e4 e5 hil hra hrb hla hlb hoa hob hsa hsb HI
        go_wp2_with (first
          | (go_at_call 29; refine (HN2.out _ HB1.out).mono ?_; rintro e w2 ⟨rfl, hb⟩; have HB2 := hideIt (HB1.out.trans (hb.mono HB1.out.size)); clear hb)
          | (go_at_call 29; refine HNA.out.mono ?_; rintro e w1 ⟨rfl, hb⟩; have HB1 := hideIt hb; clear hb))
        go_ret
        exact ⟨congrArg (fun t => Ending.returned (sv t)) HTE.out.symm, HB0.out.trans (HB2.out.mono HB0.out.size)⟩
  · have hz' := hz
    rw [Bool.not_eq_true] at hz'
    rw [hz'] at HC
    rw [hrn, if_neg hz]
    have HN := hideIt (numerals_any l (fun x hx => by have := hr x hx; omega) (by omega) A c B w hs hB ht)
    have hsa := fsp_len (l.map Int.toNat) (fun x hx => by
      obtain ⟨y, hy, rfl⟩ := List.mem_map.1 hx
      have := hr y hy
      omega)
    rw [List.length_map] at hsa
    generalize (l.map Int.toNat).flatMap sp = S1 at *
    have a1 : binOp .add 9 (.string ⟨#[112, 97, 114, 105, 116, 121]⟩) (sv S1) = pure (sv (kParity ++ S1)) := s_add 9 kParity S1 (by show 6 + _ ≤ _; omega)
    generalize kParity ++ S1 = T1 at *
    generalize l.length = n at *
    clear hs hB hr ht hz hz' hrn hsa
    go_enter Tryz.func30, Tryz.ntmps30
    go_wp2_with (first
      | (go_at_call 29; refine HN.out.mono ?_; rintro e w1 ⟨rfl, hb⟩; have HB1 := hideIt hb; clear hb)
      | (go_at_call 56; refine HC.out.mono ?_; rintro e w' ⟨rfl, rfl⟩))
    go_ret
    exact ⟨rfl, HB1.out⟩

end Go.Proofs.YtcogkdnlpjfgdaaGreatDoor
