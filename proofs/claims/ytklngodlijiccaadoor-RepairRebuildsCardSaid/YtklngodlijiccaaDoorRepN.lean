/-
  The program's plansForMissing and its iterator, walked.
-/
import Derived.Test.YtklngodlijiccaaDoorRepK
import Derived.Test.YtklngodlijiccaaDoorRepM
import Derived.Test.YtklngodlijiccaaDoorRepQ
import Derived.OwnWalkIn
import Derived.TacticsInMore
import Derived.LoopNIn
import Derived.LoopIn
namespace Go.Proofs.YtklngodlijiccaaDoor
open Go.RowKit Go.Shelf
set_option linter.unusedVariables false
set_option linter.unusedSimpArgs false
attribute [local go_sem] Oper.semAt_some

theorem at_load_in {F : Fence} {nF : Nat} {P : Program} {ops : Array Oper} {rest : List Oper} {Q : Exit → Act → World → Prop} {a : Act} {w : World} {ty : TypeId} {x : Operand} {d t p f g}
    (h : wpListIn F nF P ops Q ({ dst := d, op := .load ty x, type := t, pos := p, after := f, guard := g } :: rest) a w) : wpListIn F nF P ops Q ({ dst := d, op := .load ty x, type := t, pos := p, after := f, guard := g } :: rest) a w := h
theorem wpListIn_ldC {F : Fence} {nF : Nat} {ops : Array Oper} {rest : List Oper} {o : Oper} {a : Act} {w : World} {Q : Exit → Act → World → Prop} (hF : ∀ f, F.fn f) (hw : Region.wanted o (yielded ops a.tmps) = true) (x : Operand) (ho : o.op = .load 24 x) {p : Nat} {y : Cd} {A : Option Addr} {c : Nat} (hx : a.eval x = .pointer (some ⟨p, 0, none⟩))
    (hp : Blk w p 24 (y.cs A c)) (h : wpListIn F nF Tryd.prog ops Q rest (a.put o.dst (y.v A c)) w) : wpListIn F nF Tryd.prog ops Q (o :: rest) a w := by
  unfold wpListIn
  rw [if_pos hw]
  refine ⟨fun f _ => hF f, ?_⟩
  rw [Oper.semAt_plain F _ _ (by rw [ho]; intro c hc; cases hc), exec_load_blk (cs := y.cs A c) ho hx hp _ Tryd.underlying24 rfl isz5]
  exact h
/-- What a call of Plan needs. -/
structure EX (x : Cd) (A : Option Addr) (hs : List Bool) (D : Option Addr) (V : World) : Prop where
  tabs : Tabs V
  cin : CIn V x A
  sl : Sl V V.heap.size D 1 hs.length (hs.map bl)
theorem EX.keep {x : Cd} {A D : Option Addr} {hs : List Bool} {V V' : World} (h : EX x A hs D V) (hb : Below V.heap.size V V') : EX x A hs D V' :=
  ⟨h.tabs.keep hb, h.cin.keep hb, (h.sl.below hb).wide hb.size⟩
theorem Sl.heap {w w' : World} {B size n : Nat} {A : Option Addr} {xs : List Value} (h : Sl w B A size n xs) (hk : ∀ k, k < B → w'.heap[k]? = w.heap[k]?) : Sl w' B A size n xs := h.keep fun b o hb => World.cell?_of_block (a := ⟨b, o, none⟩) (hk b hb)
theorem EX.heap {x : Cd} {A D : Option Addr} {hs : List Bool} {V V' : World} (h : EX x A hs D V) (hk : ∀ k, k < V.heap.size → V'.heap[k]? = V.heap[k]?) (hz : V.heap.size ≤ V'.heap.size) : EX x A hs D V' :=
  ⟨⟨Nat.lt_of_lt_of_le h.tabs.lo hz, fun j hj => (World.cell?_of_block (a := ⟨_, j, none⟩) (hk _ h.tabs.lo)).trans (h.tabs.tab j hj)⟩,
   ⟨(h.cin.pm.imp fun _ _ _ h => h.heap hk).wide hz, h.cin.len, h.cin.lens⟩, (h.sl.heap hk).wide hz⟩
/-- How a plan and its error are handed over. -/
def RY (y : PE) (args : Array Value) (V W : World) : Prop := ∃ A c, args = #[.agg #[.int .i64 y.1.1, .slice A y.1.2.length c], .int .i64 y.2] ∧ Sl W W.heap.size A 2 y.1.2.length (tcs y.1.2) ∧ (∀ b o, A = some ⟨b, o, none⟩ → V.heap.size ≤ b)
theorem plansfor_any (x : Cd) (A : Option Addr) (c : Nat) (D : Option Addr) (n cd : Nat) (w : World) :
    Calls Tryd.prog 48 #[x.v A c, .slice D n cd] w fun e w' => e = .returned (.func (.func 62) #[] #[.pointer (some ⟨w.heap.size + 1, 0, none⟩), .pointer (some ⟨w.heap.size, 0, none⟩)]) ∧ w' = (w.alloc (.cells (x.cs A c).toArray 24)).alloc (.cells #[.slice D n cd] 25) := by
  go_enter Tryd.func48, Tryd.ntmps48
  go_wp2_with fail
  go_ret
  exact ⟨by simp, rfl⟩
theorem lt_of_block10 {w w' : World} {k : Nat} (h : k < w.heap.size) (e : w'.heap[k]? = w.heap[k]?) : k < w'.heap.size := by
  rw [Array.getElem?_eq_getElem h] at e
  exact (Array.getElem?_eq_some_iff.1 e).1
set_option maxHeartbeats 2000000 in
set_option maxRecDepth 100000 in
theorem plans_iter (x : Cd) (A : Option Addr) (c : Nat) (hs : List Bool) (hn : hs.length ≤ 100000) (D : Option Addr) (cd : Nat) (wE : World) (hE : EX x A hs D wE) (Bh Bc : Nat) (w0 : World) (hBh : Blk w0 Bh 25 [.slice D hs.length cd]) (hBc : Blk w0 Bc 24 (x.cs A c)) (h00 : ∀ k, k < wE.heap.size → w0.heap[k]? = wE.heap[k]?) (P : Nat → PE) (hP : ∀ k, P k = planR x hs (k : Int)) :
    IterM Tryd.prog 62 #[.pointer (some ⟨Bh, 0, none⟩), .pointer (some ⟨Bc, 0, none⟩)] RY (yl P 0 hs) (fun k => k < wE.heap.size ∨ k = Bh ∨ k = Bc) w0 := by
  intro l T J Jx W hC hT hJ hY h0
  have hcB : ∀ V : World, Keeps T W V → Blk V Bh 25 [.slice D hs.length cd] := fun V hV => by
    have h1 := hC Bh (Or.inr (Or.inl rfl))
    exact (hV.block Bh (lt_of_block10 h1.1 h1.2) (fun h => hT Bh h (Or.inr (Or.inl rfl)))).trans (h1.2.trans hBh)
  have hcC : ∀ V : World, Keeps T W V → Blk V Bc 24 (x.cs A c) := fun V hV => by
    have h1 := hC Bc (Or.inr (Or.inr rfl))
    exact (hV.block Bc (lt_of_block10 h1.1 h1.2) (fun h => hT Bc h (Or.inr (Or.inr rfl)))).trans (h1.2.trans hBc)
  have hcE : ∀ V : World, Keeps T W V → EX x A hs D V := fun V hV => by
    refine hE.heap (fun k hk => ?_) ?_
    · have h1 := hC k (Or.inl hk)
      exact (hV.block k (lt_of_block10 h1.1 h1.2) (fun h => hT k h (Or.inl hk))).trans (h1.2.trans (h00 k hk))
    · refine Nat.le_of_not_lt fun h => ?_
      have h1 := hC (wE.heap.size - 1) (Or.inl (by omega))
      have := lt_of_block10 h1.1 h1.2
      have := hV.size
      omega
  have HPL := hideIt (fun (V : World) (h : Keeps T W V) (k : Nat) => show CallsIn Fence.wide 0 Tryd.prog 12 #[x.v A c, .slice D hs.length cd, .int .i64 (k : Int)] V (PlRes V (P k)) by
    rw [hP k]
    exact callsIn_wide.2 (plan_any x A c V (hcE V h).tabs (hcE V h).cin hs D cd (hcE V h).sl (k : Int)))
  have HCB := hideIt hcB
  have HCC := hideIt hcC
  have HCE := hideIt hcE
  have HY := hideIt hY
  have H0 := hideIt h0
  have hbW := (hcB W (Keeps.refl T W)).cell 0
  have hnot := not_b
  clear hcB hcC hcE hC hT hJ hY h0 hBh hBc h00 hP
  refine callsIn_of_wp Tryd.func62 rfl trivial ?_
  simp only [Tryd.ntmps62, List.size_toArray, List.length_cons, List.length_nil, Nat.reduceAdd, Nat.reduceSub, Array.replicate_succ, Array.replicate_zero, List.push_toArray, List.append_toArray, List.nil_append, List.cons_append]
  gi_wp2
  gi_loopw [8] (fun i wr => ∃ j : Nat, j ≤ hs.length ∧ i = .int .i64 j ∧ (∃ pre, Aside (pre ++ yl P j (hs.drop j) = yl P 0 hs) ∧ Aside (J pre wr)) ∧ Aside (Keeps T W wr)) (fun i _ => hs.length - (intOf i).toNat)
  case atStart => exact ⟨0, by omega, rfl, ⟨[], rfl, H0.out⟩, Keeps.refl T W⟩
  case round =>
    obtain ⟨j, hj, rfl, ⟨pre, HPre, HJs⟩, HKS⟩ := hrel
    obtain ⟨w4, rfl⟩ : ∃ x, x = wr := ⟨wr, rfl⟩
    clear hbW
    by_cases hlt : j < hs.length
    · obtain ⟨b, o, v, hDe, hb, hv, hc⟩ := (HCE.out w4 HKS.out).sl.at_ hlt
      have hinc := inc_c 3 j (by omega)
      have hji : (j : Int) < (hs.length : Int) := by omega
      have HYL := hideIt (yl_at (P := P) hlt)
      rw [List.getElem?_map, List.getElem?_eq_getElem hlt] at hv
      injection hv with hv
      subst hv hDe
      generalize hs[j] = bk at *
      change w4.cell? ⟨b, o + j, none⟩ = some (.bool bk) at hc
      clear hb
      cases bk with
      | true =>
        have HP2 := hideIt (show pre ++ yl P (j + 1) (hs.drop (j + 1)) = yl P 0 hs by rw [← HPre.out, HYL.out, if_pos rfl])
        clear HYL
        gi_wp2_with fail
        refine ⟨trivial, ?_⟩
        gi_wp2_with fail
        refine ⟨fun _ h => (by cases h), ?_⟩
        gi_wp2_with fail
        go_roundw
        case rel => exact ⟨j + 1, by omega, by go_num, ⟨pre, HP2.out, HJs.out⟩, HKS.out⟩
        case measure => simp [intOf]; omega
      | false =>
        have HYE := hideIt (show yl P j (hs.drop j) = P j :: yl P (j + 1) (hs.drop (j + 1)) by rw [HYL.out, if_neg (by decide)])
        have HP1 := hideIt (show pre ++ [P j] <+: yl P 0 hs from ⟨yl P (j + 1) (hs.drop (j + 1)), by rw [← HPre.out, HYE.out, List.append_assoc]; rfl⟩)
        have HP2 := hideIt (show (pre ++ [P j]) ++ yl P (j + 1) (hs.drop (j + 1)) = yl P 0 hs by rw [← HPre.out, HYE.out, List.append_assoc]; rfl)
        have HPJ := hideIt (HPL.out w4 HKS.out j)
        have HBH := hideIt ((HCB.out w4 HKS.out).cell 0)
        have hbh := HBH.out
        have HBC := hideIt (HCC.out w4 HKS.out)
        have HYP := hideIt (fun (args : Array Value) (W1 : World) (h1 : Below w4.heap.size w4 W1) (h2 : RY (P j) args w4 W1) => HY.out pre (P j) args w4 W1 HP1.out HKS.out HJs.out h1 h2)
        generalize P j = y at *
        obtain ⟨⟨pu, pL⟩, pe⟩ := y
        have HPJ := hideIt (show CallsIn Fence.wide 0 Tryd.prog 12 #[x.v A c, .slice (some ⟨b, o, none⟩) hs.length cd, .int .i64 (j : Int)] w4 (fun e w' => ∃ A c, e = .returned (.tuple #[.agg #[.int .i64 pu, .slice A pL.length c], .int .i64 pe]) ∧ Sl w' w'.heap.size A 2 pL.length (tcs pL) ∧ (∀ b o, A = some ⟨b, o, none⟩ → w4.heap.size ≤ b) ∧ Below w4.heap.size w4 w') from HPJ.out)
        clear HYL hlt
        gi_wp2_with ((with_reducible refine at_load_in ?_); refine wpListIn_ldC (fun _ => trivial) (by kernel_rfl) (.tmp 2) rfl (p := Bc) (c := c) rfl HBC.out ?_)
        refine ⟨trivial, rfl, ?_⟩
        refine HPJ.out.mono ?_
        rintro e w5 ⟨A9, c9, rfl, hs9, hl9, hb9⟩
        have HB9 := hideIt hb9
        obtain ⟨fn, tmps, assign, body, hy, hR⟩ := HYP.out _ _ hb9 ⟨A9, c9, rfl, hs9, hl9⟩
        have HR := hideIt hR
        clear hs9 hl9 hb9 hR
        gi_wp2
        refine ⟨rfl, ?_⟩
        refine HR.out.mono ?_
        rintro e W3 (⟨rfl, hK3, hJ3⟩ | ⟨rfl, hK3, hJx3⟩)
        · have HJ3 := hideIt hJ3
          have HK3 := hideIt (show Keeps T W W3 from (HKS.out.later (HB9.out.mono HKS.out.size)).trans hK3)
          clear hJ3 hK3
          gi_wp2
          go_roundw
          case rel => exact ⟨j + 1, by omega, by go_num, ⟨pre ++ [((pu, pL), pe)], HP2.out, HJ3.out⟩, HK3.out⟩
          case measure => simp [intOf]; omega
        · have HJ3 := hideIt hJx3
          have HK3 := hideIt (show Keeps T W W3 from (HKS.out.later (HB9.out.mono HKS.out.size)).trans hK3)
          clear hJx3 hK3
          gi_wp2
          refine bodyPost_ret (results_none rfl _ _ _) rfl ?_
          exact ⟨⟨_, rfl⟩, HK3.out, .inr ⟨_, HP1.out, HJ3.out⟩⟩
    · obtain rfl : j = hs.length := by omega
      have HPA := hideIt (show pre = yl P 0 hs by have := HPre.out; rwa [List.drop_eq_nil_of_le (Nat.le_refl _), show yl P hs.length [] = [] from rfl, List.append_nil] at this)
      have HJE := hideIt HJs.out
      rw [HPA.out] at HJE
      gi_wp2
      go_end0
      exact ⟨⟨_, rfl⟩, HKS.out, .inl HJE.out⟩
end Go.Proofs.YtklngodlijiccaaDoor
