/-
  The reference's has, check and Checks, walked.
-/
import Derived.Test.YtklngodlijiccaaDoorRepA
namespace Go.Proofs.YtklngodlijiccaaDoor
open Go.RowKit
set_option linter.unusedVariables false
set_option linter.unusedSimpArgs false

theorem nI_len (S : List Nat) : (nI S).length = S.length := by simp
theorem nI_snoc (M : List Nat) (k : Nat) : nI (M ++ [k]) = nI M ++ [(k : Int)] := by simp [nI]
theorem own_blkN {w : World} {base n : Nat} {e : TypeId} {v : Value} {xs : List Value} (h : w.ownsRow base e 1 v n xs) (h0 : 0 < n) : ∃ g cap cs, v = .slice (some ⟨g, 0, none⟩) n cap ∧ base ≤ g ∧ Blk w g e cs ∧ cs.take n = xs := by
  rcases h.2 with ⟨_, h1⟩ | ⟨g, cap, cur, hv, hb, hg, _, _, _, ht⟩
  · omega
  · exact ⟨g, cap, cur.toList, hv, hb, by unfold Blk; exact hg, by simpa using ht⟩
/-- Rows of numbers under construction. -/
def RJ (W : World) (B : Nat) (v : Value) (ps : List (List Nat)) : Prop :=
  ∃ us, W.ownsRow B 36 1 v ps.length us ∧ All2 (fun (b : List Nat) u => ∃ g c cs, u = .slice (some ⟨g, 0, none⟩) b.length c ∧ Blk W g 3 cs ∧ cs.take b.length = (nI b).map iv) ps us
theorem RJ.nil (W : World) (B : Nat) : RJ W B (.slice none 0 0) [] := ⟨[], World.ownsRow_nil _ _ _ _, trivial⟩
theorem RJ.keep {W W' : World} {B : Nat} {v : Value} {ps : List (List Nat)} (h : RJ W B v ps) (hb : Below W.heap.size W W') : RJ W' B v ps := by
  obtain ⟨us, h1, h2⟩ := h
  exact ⟨us, own_kept h1 hb, All2.imp (fun b u ⟨g, c, cs, e, hg, ht⟩ => ⟨g, c, cs, e, hg.kept hb hg.lt, ht⟩) h2⟩
theorem RJ.low {W : World} {B B' : Nat} {v : Value} {ps : List (List Nat)} (h : RJ W B v ps) (hB : B' ≤ B) : RJ W B' v ps := by
  obtain ⟨us, h1, h2⟩ := h
  exact ⟨us, ⟨h1.1, h1.2.imp id fun ⟨g, cp, cur, q1, q2, q3⟩ => ⟨g, cp, cur, q1, Nat.le_trans hB q2, q3⟩⟩, h2⟩
theorem RJ.snoc {W w' : World} {B g c : Nat} {v v' : Value} {us cs : List Value} {ps : List (List Nat)} {b : List Nat} {o : Obj} (h2 : All2 (fun (b : List Nat) u => ∃ g c cs, u = .slice (some ⟨g, 0, none⟩) b.length c ∧ Blk W g 3 cs ∧ cs.take b.length = (nI b).map iv) ps us)
    (hO : W.ownsRow B 36 1 v ps.length us) (hb : Blk W g 3 cs) (ht : cs.take b.length = (nI b).map iv) (h1 : w'.ownsRow B 36 1 v' (ps.length + 1) (us ++ [.slice (some ⟨g, 0, none⟩) b.length c])) (hg : (W.alloc o).grownBy w' v.ownBlock) : RJ w' B v' (ps ++ [b]) := by
  have hk : ∀ {k : Nat} {cs : List Value}, Blk W k 3 cs → Blk w' k 3 cs := fun {k cs} hk =>
    (hg.block k (by simp; have := hk.lt; omega) (own_ne hO hk (by decide))).trans (hk.alloc o)
  refine ⟨us ++ [.slice (some ⟨g, 0, none⟩) b.length c], by rw [List.length_append]; exact h1, All2.snoc ⟨g, c, cs, rfl, hk hb, ht⟩ (All2.imp (fun b u ⟨g, c, cs, e, hg, ht⟩ => ⟨g, c, cs, e, hk hg, ht⟩) h2)⟩
/-- The rows, as they are read. -/
theorem RJ.pm {W : World} {B : Nat} {v : Value} {ps : List (List Nat)} (h : RJ W B v ps) : ∃ A c, v = .slice A ps.length c ∧ ps.length ≤ c ∧ PM W W.heap.size A (ps.map nI) := by
  obtain ⟨us, h1, h2⟩ := h
  obtain ⟨A, c, rfl, hc, _⟩ := own_form h1
  refine ⟨A, c, rfl, hc, us, by rw [List.length_map]; exact Sl.of_own h1, ?_⟩
  clear h1 hc
  induction ps generalizing us with
  | nil => cases us with
    | nil => trivial
    | cons u us => exact h2.elim
  | cons b ps ih => cases us with
    | nil => exact h2.elim
    | cons u us =>
      obtain ⟨⟨g, c, cs, e, hg, ht⟩, h3⟩ := h2
      refine ⟨⟨some ⟨g, 0, none⟩, c, by rw [e, nI_len], by rw [List.length_map, Nat.mul_one], fun _ => ⟨g, 0, rfl, hg.lt, fun j y hj => ?_⟩⟩, ih us h3⟩
      rw [Nat.zero_add, hg.cell]
      rw [← ht] at hj
      have hjl : j < (cs.take b.length).length := (List.getElem?_eq_some_iff.1 hj).1
      rw [List.length_take] at hjl
      rwa [List.getElem?_take_of_lt (by omega)] at hj

theorem rhas_any (l : List Int) (hn : l.length ≤ 100000) (a : Int) (D : Option Addr) (cd : Nat) (w : World) (hD : Sl w w.heap.size D 1 l.length (l.map iv)) :
    Calls Tryd.prog 46 #[.slice D l.length cd, .int .i64 a] w fun e w' => e = .returned (.bool (decide (a ∈ l))) ∧ w = w' := by
  have HS := hideIt hD
  clear hD
  go_enter Tryd.func46, Tryd.ntmps46
  go_wp2_with fail
  go_loopg [5] l.length (fun gk s5 wr => ∃ k : Nat, k + gk = l.length ∧ s5 = .int .i64 (k : Int) ∧ wr = w ∧ Aside (a ∉ l.take k))
  case atStart => exact ⟨0, by omega, rfl, rfl, by simp [Aside]⟩
  case round =>
    obtain ⟨k, hk, rfl, rfl, HA⟩ := hrel
    obtain ⟨w, rfl⟩ : ∃ x, x = wr := ⟨wr, rfl⟩
    by_cases hlt : k < l.length
    · obtain ⟨b, o, rfl, hb, hc⟩ := HS.out.num hlt
      have hinc := inc_c 3 k (by omega)
      have hki : (k : Int) < (l.length : Int) := by omega
      have HT := hideIt (take_snoc l k hlt)
      have HM := hideIt (List.getElem_mem hlt)
      have heq := i_eql 3 .i64 l[k] a
      generalize l[k] = q at *
      clear hb
      by_cases he : q = a
      · rw [decide_eq_true he] at heq
        have HE := hideIt (show decide (a ∈ l) = true from decide_eq_true (he ▸ HM.out))
        clear he HM HT
        go_wp2_with fail
        go_ret
        exact ⟨by rw [HE.out]; rfl, rfl⟩
      · rw [decide_eq_false he] at heq
        have HE := hideIt (show a ∉ l.take (k + 1) by
          rw [HT.out, List.mem_append, List.mem_singleton]
          rintro (h | h)
          · exact HA.out h
          · exact he h.symm)
        clear he HM HT
        go_wp2_with fail
        go_roundg (gk - 1)
        case measure => omega
        case rel => exact ⟨k + 1, by omega, by go_num, rfl, HE.out⟩
    · have hki : ¬ (k : Int) < (l.length : Int) := by omega
      have HE := hideIt (show decide (a ∈ l) = false from decide_eq_false (by have := HA.out; rwa [List.take_of_length_le (by omega)] at this))
      go_wp2_with fail
      go_ret
      exact ⟨by rw [HE.out]; rfl, rfl⟩
set_option maxHeartbeats 1000000 in
set_option maxRecDepth 100000 in
theorem rchk_any {x : Cd} {m n : Nat} (hvc : VC x m n) (A : Option Addr) (c : Nat) (w : World) (hx : CIn w x A) (i : Nat) (hi : i < x.par.length) :
    Calls Tryd.prog 45 #[x.v A c, .int .i64 (i : Int)] w fun e w' => ∃ v, e = .returned v ∧ w'.ownsRow w.heap.size 3 1 v (chk x i).length ((nI (chk x i)).map iv) ∧ Below w.heap.size w w' := by
  obtain ⟨W, hW⟩ : ∃ W, W = w.alloc (.cells (x.cs A c).toArray 24) := ⟨_, rfl⟩
  have hbw : Below w.heap.size w W := by rw [hW]; exact below_new w _
  have HB := hideIt hbw
  have HBC := hideIt (show BC W w.heap.size x A c by rw [hW]; exact BC.new c hx)
  have HWE := hideIt hW
  have hwid := hvc.wid
  obtain ⟨b, o, A', c', hA, hb, hcell, hsl⟩ := HBC.out.cin.pm.row hi
  have hrl := (hvc.row _ (List.getElem_mem hi)).1
  have HGP := hideIt (fun (j : Nat) (q : j < x.par[i].length) => show ((gC x (n + i) j : Nat) : Int) = x.par[i][j] from gC_par hvc hi (by omega))
  have HD := hideIt hvc.d
  have HCK := hideIt (chk_flt hvc i)
  have hip : (i : Int) < (x.par.length : Int) := by omega
  have hadd : binOp .add 3 (.int .i64 (n : Int)) (.int .i64 (i : Int)) = pure (.int .i64 ((n + i : Nat) : Int)) := nadd 3 n i (by omega)
  have c1 := HBC.out.c2
  rw [HD.out, hW] at c1
  subst hA
  generalize x.par[i] = l at *
  generalize gC x (n + i) = G at *
  have HCL := hideIt hcell
  have HSL := hideIt hsl
  have HBB := hideIt hb
  have HN := hideIt (show nI (chk x i) = nI (flt G n) ++ [((n + i : Nat) : Int)] by rw [HCK.out, nI_snoc])
  have HNL := hideIt (show (chk x i).length = (flt G n).length + 1 by rw [HCK.out, List.length_append]; rfl)
  generalize (chk x i).length = RL at *
  generalize nI (chk x i) = RN at *
  have HO := hideIt (World.ownsRow_nil W W.heap.size 3 1)
  clear hbw hx hW hcell hsl hb hvc HCK
  go_enter Tryd.func45, Tryd.ntmps45
  go_wp2_with fail
  rw [← HWE.out] at c1 ⊢
  clear c1
  go_loopg [5, 6] n (fun gk s5 s6 wr => ∃ j : Nat, j + gk = n ∧ s6 = .int .i64 (j : Int) ∧ Aside (wr.ownsRow W.heap.size 3 1 s5 (flt G j).length ((nI (flt G j)).map iv)) ∧ Aside (Below W.heap.size W wr))
  case atStart => exact ⟨0, by omega, rfl, HO.out, Below.refl _ _⟩
  case round =>
    obtain ⟨j, hj, rfl, HO2, HL⟩ := hrel
    obtain ⟨w4, rfl⟩ : ∃ x, x = wr := ⟨wr, rfl⟩
    have HBC2 := hideIt (HBC.out.keep HL.out)
    have c2 := HBC2.out.c2
    rw [HD.out] at c2
    have c3 := HBC2.out.c3
    have hcell := (HL.out.cell (p := ⟨b, o + i, none⟩) HBB.out).trans HCL.out
    have hfl := flt_len G j
    have HSZ := hideIt HL.out.size
    by_cases hlt : j < n
    · obtain ⟨b2, o2, hA2, hb2, hc4⟩ := HSL.out.num (k := j) (by omega)
      have hcell2 := (HL.out.cell (p := ⟨b2, o2 + j, none⟩) hb2).trans hc4
      have hinc := inc_c 3 j (by omega)
      have hji : (j : Int) < (n : Int) := by omega
      have hjl : (j : Int) < (l.length : Int) := by omega
      have HNX := hideIt (flt_next G j)
      have HGJ := hideIt (HGP.out j (by omega))
      have hn0 := i_neq 3 .i64 l[j] 0
      generalize l[j] = a at *
      subst hA2
      clear hb2 hc4
      by_cases ha : a = 0
      · rw [decide_eq_false (fun h => h ha)] at hn0
        have HE := hideIt (HNX.out.trans (if_pos (by have := HGJ.out; omega)))
        clear ha HNX HGJ
        go_wp2_with fail
        go_roundg (gk - 1)
        case measure => omega
        case rel => exact ⟨j + 1, by omega, by go_num, by rw [HE.out]; exact HO2.out, HL.out⟩
      · rw [decide_eq_true ha] at hn0
        have HE := hideIt (HNX.out.trans (if_neg (by have := HGJ.out; omega)))
        have HN2 := hideIt (nI_snoc (flt G j) j)
        obtain ⟨A3, c3v, hv3, _, _⟩ := own_form HO2.out
        subst hv3
        clear ha HNX HGJ
        generalize hfn : flt G j = fj at *
        clear hfn
        go_wp2_with ((with_reducible refine at_append ?_); refine wpList_apI (y := (j : Int)) (n := fj.length) (us := nI fj) rfl (.tmp 22) (.tmp 24) rfl rfl HO2.out rfl (by omega) HSZ.out ?_; intro v8 w8 HO8 HG8 HA8 HB8)
        go_roundg (gk - 1)
        case measure => omega
        case rel => exact ⟨j + 1, by omega, by go_num, by rw [HE.out, HN2.out, List.length_append]; exact HO8.out, HL.out.trans HB8.out⟩
    · have hji : ¬ (j : Int) < (n : Int) := by omega
      obtain rfl : j = n := by omega
      obtain ⟨A3, c3v, hv3, _, _⟩ := own_form HO2.out
      subst hv3
      generalize hfn : flt G j = fj at *
      clear hfn
      go_wp2_with ((with_reducible refine at_append ?_); refine wpList_apI (y := ((j + i : Nat) : Int)) (n := fj.length) (us := nI fj) rfl (.tmp 26) (.tmp 31) rfl rfl HO2.out rfl (by omega) HSZ.out ?_; intro v8 w8 HO8 HG8 HA8 HB8)
      go_ret
      refine ⟨v8, rfl, ?_, HB.out.trans ((HL.out.trans HB8.out).mono HB.out.size)⟩
      rw [HN.out, HNL.out]
      exact ⟨HO8.out.1, HO8.out.2.imp id fun ⟨g, cp, cur, q1, q2, q3⟩ => ⟨g, cp, cur, q1, Nat.le_trans HB.out.size q2, q3⟩⟩
end Go.Proofs.YtklngodlijiccaaDoor
