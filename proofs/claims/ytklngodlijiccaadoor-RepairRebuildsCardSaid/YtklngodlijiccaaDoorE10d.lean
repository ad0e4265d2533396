/-
  What stage 10 stands on, cut out of older texts. (EraC, EraD, EraE, EraG, ArgK, EraM, EraH, EraI, EraJ, EraK, EraL.)
-/
import Derived.Maps.AppendAt
import Derived.Lib.SliceRun
import Derived.BigQuiet
import Derived.BigRegion
import Derived.StillTailTactics
import Derived.Laws.CopyOwn
import Derived.Test.YtklngodlijiccaaDoorE10a
import Derived.Test.YtklngodlijiccaaDoorE10b
import Derived.Test.YtklngodlijiccaaDoorE10c
namespace Go.Proofs.YtklngodlijiccaaDoor
set_option linter.unusedVariables false
set_option linter.unusedSimpArgs false
set_option linter.unusedSectionVars false

section
open Go.RowKit
set_option linter.unusedVariables false
set_option linter.unusedSimpArgs false
structure Cd where
  name : List UInt8
  field : Int
  data : Int
  par : List (List Int)
  dom : Int
abbrev cdV (nm : List UInt8) (f d : Int) (v : Value) (dm : Int) : Value := .agg #[sv nm, .int .i64 f, .int .i64 d, v, .int .i64 dm]
abbrev cdC (nm : List UInt8) (f d : Int) (v : Value) (dm : Int) : List Value := [sv nm, .int .i64 f, .int .i64 d, v, .int .i64 dm]
abbrev Cd.v (x : Cd) (A : Option Addr) (c : Nat) : Value := cdV x.name x.field x.data (.slice A x.par.length c) x.dom
abbrev Cd.cs (x : Cd) (A : Option Addr) (c : Nat) : List Value := cdC x.name x.field x.data (.slice A x.par.length c) x.dom
/-- A code as an argument: where its rows lie. -/
structure CIn (w : World) (x : Cd) (A : Option Addr) : Prop where
  pm : PM w w.heap.size A x.par
  len : x.par.length ≤ 9223372036854775807
  lens : ∀ l ∈ x.par, l.length ≤ 9223372036854775807
theorem CIn.keep {w w' : World} {x : Cd} {A : Option Addr} (h : CIn w x A) (hb : Below w.heap.size w w') : CIn w' x A := ⟨(h.pm.below hb).wide hb.size, h.len, h.lens⟩
/-- A code in its box. -/
structure BC (W : World) (p : Nat) (x : Cd) (A : Option Addr) (c : Nat) : Prop where
  box : Blk W p 24 (x.cs A c)
  cin : CIn W x A
theorem BC.keep {W W' : World} {p : Nat} {x : Cd} {A : Option Addr} {c : Nat} (h : BC W p x A c) (hb : Below W.heap.size W W') : BC W' p x A c := ⟨h.box.kept hb h.box.lt, h.cin.keep hb⟩
theorem BC.new {W : World} {x : Cd} {A : Option Addr} (c : Nat) (h : CIn W x A) : BC (W.alloc (.cells (x.cs A c).toArray 24)) W.heap.size x A c :=
  ⟨Blk.new W 24 (x.cs A c), h.keep (below_new W _)⟩
theorem BC.c1 {W : World} {p : Nat} {x : Cd} {A : Option Addr} {c : Nat} (h : BC W p x A c) : W.cell? ⟨p, 1, none⟩ = some (.int .i64 x.field) := h.box.cell 1
theorem BC.c2 {W : World} {p : Nat} {x : Cd} {A : Option Addr} {c : Nat} (h : BC W p x A c) : W.cell? ⟨p, 2, none⟩ = some (.int .i64 x.data) := h.box.cell 2
theorem BC.c3 {W : World} {p : Nat} {x : Cd} {A : Option Addr} {c : Nat} (h : BC W p x A c) : W.cell? ⟨p, 3, none⟩ = some (.slice A x.par.length c) := h.box.cell 3
theorem la7 {w0 W : World} {o : Obj} (h : Below w0.heap.size w0 W) : Below w0.heap.size w0 (W.alloc o) := h.alloc h.size _
theorem isz5 : (Tryd.prog.info? 24).map (·.size) = some 5 := by kernel_rfl
theorem wpList_ldC {ops : Array Oper} {rest : List Oper} {o : Oper} {a : Act} {w : World} {Q : Exit → Act → World → Prop} (hw : Region.wanted o (yielded ops a.tmps) = true) (x : Operand) (ho : o.op = .load 24 x) {p : Nat} {y : Cd} {A : Option Addr} {c : Nat} (hx : a.eval x = .pointer (some ⟨p, 0, none⟩))
    (hp : Blk w p 24 (y.cs A c)) (h : wpList Tryd.prog ops Q rest (a.put o.dst (y.v A c)) w) : wpList Tryd.prog ops Q (o :: rest) a w :=
  wpList_get_g hw _ x ho p (y.cs A c) _ _ hx hp Tryd.underlying24 rfl isz5 h
theorem not_b (x : Bool) (w : World) : (Op.unary .not (.bool x)).run Tryd.prog w = .ok (.bool (!x)) w := rfl
def rowOk (m n : Int) (l : List Int) : Bool := decide ((l.length : Int) = n) && l.all (vd m) && l.any (fun a => decide (a ≠ 0))
def vC (x : Cd) : Bool := vd x.field 0 && decide (1 ≤ x.data) && decide (x.data + x.par.length ≤ 32) && x.par.all (rowOk x.field x.data)
def wC (x : Cd) : Int := if vC x = true then x.data + x.par.length else 0
theorem vd_nonneg {m a : Int} (h : vd m a = true) : 0 ≤ a := by
  obtain ⟨k, x, rfl, rfl, hm, hx⟩ := vd_spec h
  omega
theorem wrong_any (x : Cd) (A : Option Addr) (c : Nat) (p : Nat) (w : World) (hT : Tabs w) (hb : BC w p x A c) (a : Int) :
    Calls Tryd.prog 93 #[.int .i64 a, .pointer (some ⟨p, 0, none⟩)] w fun e w' => e = .returned (.bool (!vd x.field a)) ∧ w = w' := by
  have c1 := hb.box.cell 1
  have HV := hideIt (valid_any x.field a w hT)
  have hnot := not_b
  clear hT hb
  go_enter Tryd.func93, Tryd.ntmps93
  go_wp2_with (go_at_call 80; refine HV.out.mono ?_; rintro e w' ⟨rfl, rfl⟩)
  go_ret
  exact ⟨rfl, rfl⟩
end

section
open Go.RowKit
set_option linter.unusedVariables false
set_option linter.unusedSimpArgs false
def mxL : List Int → Int → Int
  | [], z => z
  | a :: r, z => mxL r (max z a)
theorem mxL_snoc : ∀ (l : List Int) (z a : Int), mxL (l ++ [a]) z = max (mxL l z) a
  | [], _, _ => rfl
  | b :: r, z, a => mxL_snoc r (max z b) a
theorem mxL_pos : ∀ (l : List Int) (z : Int), decide (mxL l z > 0) = (decide (z > 0) || l.any (fun a => decide (a > 0)))
  | [], z => by simp [mxL]
  | a :: r, z => by
    show decide (mxL r (max z a) > 0) = _
    rw [mxL_pos r (max z a), List.any_cons, ← Bool.or_assoc]
    congr 1
    by_cases h : z ≤ a
    · rw [Int.max_eq_right h]
      by_cases h2 : a > 0
      · simp [h2]
      · have : ¬ z > 0 := by omega
        simp [h2, this]
    · rw [Int.max_eq_left (by omega)]
      by_cases h2 : z > 0
      · simp [h2]
      · have : ¬ a > 0 := by omega
        simp [h2, this]
theorem run_max2 {P : Program} {w : World} (ts : Array TypeId) (t : TypeId) (x y : Int) : (Builtin.max_ ts t #[.int .i64 x, .int .i64 y]).run P w = .ok (.int .i64 (max x y)) w := by
  rw [run_max_int2]
  congr 2
  by_cases h : y > x
  · rw [if_pos h, Int.max_eq_right (by omega)]
  · rw [if_neg h, Int.max_eq_left (by omega)]
attribute [local go_sem high] run_max2
set_option maxHeartbeats 1000000 in
theorem max_any (l : List Int) (h0 : 0 < l.length) (hl : l.length ≤ 100000) (A : Option Addr) (c B : Nat) (w : World) (hs : Sl w B A 1 l.length (l.map iv)) :
    Calls Tryd.prog 95 #[.slice A l.length c] w fun e w' => ∃ z : Int, e = .returned (.int .i64 z) ∧ decide (z > 0) = l.any (fun a => decide (a > 0)) ∧ w = w' := by
  obtain ⟨b, o, hA, hb, hc0⟩ := hs.num h0
  subst hA
  rw [Nat.add_zero] at hc0
  have HS := hideIt hs
  obtain ⟨n, hn⟩ : ∃ n, n = l.length := ⟨_, rfl⟩
  have HN := hideIt hn
  have hn1 : ¬ (n : Int) < 1 := by omega
  have h0n : (0 : Int) < (n : Int) := by omega
  have HZ : Hid (∀ z, z = mxL (l.drop 1) l[0] → decide (z > 0) = l.any (fun a => decide (a > 0))) := hideIt fun z hz => by
    rw [hz, mxL_pos]
    match l, h0 with
    | a :: r, _ => simp
  have HL : Hid (mxL ((l.take 1).drop 1) l[0] = l[0]) := hideIt (by
    match l, h0 with
    | a :: r, _ => simp [mxL])
  have HX : Hid (∀ k (hk : k < l.length), 1 ≤ k → mxL ((l.take (k + 1)).drop 1) l[0] = max (mxL ((l.take k).drop 1) l[0]) l[k]) := hideIt fun k hk h1 => by
    rw [take_snoc l k (by omega), List.drop_append_of_le_length (by rw [List.length_take]; omega), mxL_snoc]
  rw [← hn] at hl ⊢
  generalize l[0] = z0 at *
  clear hs hn h0
  go_enter Tryd.func95, Tryd.ntmps95
  go_wp2_with fail
  go_loopg [3, 4] n (fun g s3 s4 wr => ∃ j : Nat, j + g = n + 1 ∧ 1 ≤ j ∧ j ≤ n ∧ (∃ z, s3 = .int .i64 z ∧ Aside (z = mxL ((l.take j).drop 1) z0)) ∧ s4 = .int .i64 (j : Int) ∧ wr = w)
  case atStart => exact ⟨1, by omega, by omega, by omega, ⟨_, rfl, HL.out.symm⟩, rfl, rfl⟩
  case round =>
    obtain ⟨j, hj, hj1, hjn, ⟨z, rfl, HI⟩, rfl, rfl⟩ := hrel
    by_cases hlt : j < n
    · have hjl : j < l.length := by rw [← HN.out]; exact hlt
      obtain ⟨b2, o2, hA, hb2, hcell⟩ := HS.out.num hjl
      have HA2 := hideIt hA
      injection hA with hA
      injection hA with e1 e2
      subst e1 e2
      have HZZ := HX.out j hjl hj1
      have HZ2 := hideIt HZZ
      clear HZZ HX HL HZ HS HA2
      have hinc := inc_c 3 j (by omega)
      have hji : (j : Int) < (n : Int) := by omega
      generalize l[j] = y at *
      go_wp2_with fail
      go_roundg (gk - 1)
      case measure => omega
      case rel => exact ⟨j + 1, by omega, by omega, by omega, ⟨_, rfl, by show _ = mxL ((l.take (j + 1)).drop 1) z0; rw [HZ2.out, ← HI.out]⟩, by go_num, rfl⟩
    · have hji : ¬ (j : Int) < (n : Int) := by omega
      have HE : Hid (z = mxL (l.drop 1) z0) := by
        have := HI.out
        rw [List.take_of_length_le (by rw [← HN.out]; omega)] at this
        exact this
      go_wp2_with fail
      go_ret
      exact ⟨_, rfl, HZ.out _ HE.out, rfl⟩
/-- A row that may stand in a code. -/
theorem any_nz {m : Int} {l : List Int} (h : l.all (vd m) = true) : l.any (fun a => decide (a > 0)) = l.any (fun a => decide (a ≠ 0)) := by
  induction l with
  | nil => rfl
  | cons a r ih =>
    rw [List.all_cons, Bool.and_eq_true] at h
    rw [List.any_cons, List.any_cons, ih h.2]
    congr 1
    have := vd_nonneg h.1
    by_cases e : a = 0
    · subst e; rfl
    · rw [decide_eq_true e, decide_eq_true (show a > 0 by omega)]
theorem any_not {α : Type} (p : α → Bool) : ∀ l : List α, l.any (fun a => !p a) = !l.all p
  | [] => rfl
  | a :: r => by rw [List.any_cons, List.all_cons, any_not p r, Bool.not_and]
set_option maxHeartbeats 1000000 in
theorem isRow_any (x : Cd) (A : Option Addr) (c : Nat) (w : World) (hT : Tabs w) (hx : CIn w x A) (h1 : 1 ≤ x.data) (h2 : x.data ≤ 100000) (l : List Int) (hl : l.length ≤ 9223372036854775807) (D : Option Addr) (cd : Nat) (hs : Sl w w.heap.size D 1 l.length (l.map iv)) :
    Calls Tryd.prog 81 #[x.v A c, .slice D l.length cd] w fun e w' => e = .returned (.bool (rowOk x.field x.data l)) ∧ Below w.heap.size w w' := by
  obtain ⟨W, hW⟩ : ∃ W, W = w.alloc (.cells (x.cs A c).toArray 24) := ⟨_, rfl⟩
  have hbw : Below w.heap.size w W := by rw [hW]; exact below_new w _
  have HB := hideIt hbw
  have HBC := hideIt (show BC W w.heap.size x A c by rw [hW]; exact BC.new c hx)
  have c2 := HBC.out.c2
  have HSL := hideIt (hs.below hbw)
  have HC := hideIt (containsI_any l hl D cd w.heap.size (.func (.func 93) #[] #[.pointer (some ⟨w.heap.size, 0, none⟩)]) (fun a => !vd x.field a) W HSL.out ⟨_, _, rfl, enters_of Tryd.func93 (by kernel_rfl) rfl, fun a => wrong_any x A c _ W (hT.keep hbw) HBC.out a⟩)
  rw [any_not] at HC
  have HM := hideIt (fun h0 hl => max_any l h0 hl D cd w.heap.size W HSL.out)
  have hnot := not_b
  have hq := i_eql 3 .i64 (l.length : Int) x.data
  have HR : Hid (rowOk x.field x.data l = _) := hideIt rfl
  rw [hW] at c2
  have HWE := hideIt hW
  clear hs hbw hT hx hW
  unfold rowOk at *
  by_cases q1 : (l.length : Int) = x.data
  · rw [decide_eq_true q1] at hq
    rw [decide_eq_true q1, Bool.true_and]
    cases q2 : l.all (vd x.field) with
    | true =>
      rw [q2] at HC
      have HM2 := hideIt (HM.out (by omega) (by omega))
      rw [Bool.true_and, ← any_nz q2]
      clear q1 q2 HM HR h1 h2
      go_enter Tryd.func81, Tryd.ntmps81
      go_wp2_with (first
        | (go_at_call 94; rw [← HWE.out]; refine HC.out.mono ?_; rintro e w' ⟨rfl, rfl⟩)
        | (go_at_call 95; refine HM2.out.mono ?_; rintro e w' ⟨z, rfl, hz, rfl⟩; have HZ := hideIt hz; clear hz))
      go_ret
      refine ⟨?_, HB.out⟩
      rw [← HZ.out]; rfl
    | false =>
      rw [q2] at HC
      rw [Bool.false_and]
      clear q1 q2 HM HR h1 h2
      go_enter Tryd.func81, Tryd.ntmps81
      go_wp2_with (first
        | (go_at_call 94; rw [← HWE.out]; refine HC.out.mono ?_; rintro e w' ⟨rfl, rfl⟩))
      go_ret
      exact ⟨rfl, HB.out⟩
  · rw [decide_eq_false q1] at hq
    rw [decide_eq_false q1, Bool.false_and]
    clear q1 HM HR HC h1 h2
    go_enter Tryd.func81, Tryd.ntmps81
    go_wp2_with fail
    go_ret
    rw [← HWE.out]
    exact ⟨rfl, HB.out⟩
end

section
open Go.RowKit
set_option linter.unusedVariables false
set_option linter.unusedSimpArgs false
theorem sub_i (T : TypeId) (a : Nat) (ha : a ≤ 9223372036854775807) : binOp .sub T (.int .i64 32) (.int .i64 (a : Int)) = pure (.int .i64 (32 - (a : Int))) := by
  rw [binOp_sub]
  simp only [Op.intArith]
  rw [IntWalk.i64_in _ (by omega)]
theorem all_at {α : Type} {p : α → Bool} {l : List α} {k : Nat} (h : k < l.length) (hp : p l[k] = false) : l.all p = false := by
  rw [List.all_eq_false]; exact ⟨l[k], List.getElem_mem h, by simp [hp]⟩
set_option maxHeartbeats 2000000 in
set_option maxRecDepth 100000 in
theorem evalid_any (x : Cd) (A : Option Addr) (c : Nat) (w : World) (hT : Tabs w) (hx : CIn w x A) :
    Calls Tryd.prog 60 #[x.v A c] w fun e w' => e = .returned (.bool (vC x)) ∧ Below w.heap.size w w' := by
  obtain ⟨W, hW⟩ : ∃ W, W = w.alloc (.cells (x.cs A c).toArray 24) := ⟨_, rfl⟩
  have hbw : Below w.heap.size w W := by rw [hW]; exact below_new w _
  have HB := hideIt hbw
  have HBC := hideIt (show BC W w.heap.size x A c by rw [hW]; exact BC.new c hx)
  have c1 := HBC.out.c1
  have c2 := HBC.out.c2
  have c3 := HBC.out.c3
  have HV := hideIt (valid_any x.field 0 W (hT.keep hbw))
  have hnot := not_b
  have hsub := sub_i 3 x.par.length hx.len
  have HT := hideIt (hT.keep hbw)
  rw [hW] at c1 c2 c3
  have HX := hideIt hx
  obtain ⟨r, hr⟩ : ∃ r, r = vC x := ⟨_, rfl⟩
  rw [← hr]
  have HR := hideIt hr
  unfold vC at hr
  have HWE := hideIt hW
  clear hbw hT hx hW
  by_cases q1 : vd x.field 0 = true
  · by_cases q2 : 1 ≤ x.data
    · by_cases q3 : x.data + x.par.length ≤ 32
      · have hd1 : ¬ x.data < 1 := by omega
        have hd2 : ¬ x.data > 32 - (x.par.length : Int) := by omega
        rw [q1, decide_eq_true q2, decide_eq_true q3, Bool.true_and, Bool.true_and, Bool.true_and] at hr
        rw [q1] at HV
        have HR2 := hideIt hr
        have hn32 : x.par.length ≤ 31 := by omega
        have HD := hideIt (show 1 ≤ x.data ∧ x.data ≤ 100000 by omega)
        clear hr HR q1 q2 q3
        go_enter Tryd.func60, Tryd.ntmps60
        go_wp2_with (first
          | (go_at_call 80; rw [← HWE.out]; refine HV.out.mono ?_; rintro e w' ⟨rfl, rfl⟩; rw [← HWE.out] at c1 c2 c3))
        clear c1 c2 c3 hsub hd1 hd2 HV
        go_loopg [26] x.par.length (fun g s26 wr => ∃ j : Nat, j + g = x.par.length ∧ s26 = .int .i64 (j : Int) ∧ Aside (Below W.heap.size W wr) ∧ Aside ((x.par.take j).all (rowOk x.field x.data) = true))
        case atStart => exact ⟨0, by omega, rfl, Below.refl _ _, by simp [Aside]⟩
        case round =>
          obtain ⟨j, hj, rfl, HBW, HI⟩ := hrel
          obtain ⟨w2, rfl⟩ : ∃ x, x = wr := ⟨wr, rfl⟩
          have HBC2 := hideIt (HBC.out.keep HBW.out)
          by_cases hlt : j < x.par.length
          · have hjl : j < x.par.length := hlt
            obtain ⟨b, o, A', c', hA, hb, hcell, hsl⟩ := HBC2.out.cin.pm.row hjl
            have HIR := hideIt (isRow_any x A c w2 (HT.out.keep HBW.out) HBC2.out.cin HD.out.1 HD.out.2 (x.par[j]) (HBC2.out.cin.lens _ (List.getElem_mem hjl)) A' c' hsl)
            have HTK := hideIt (take_snoc x.par j hjl)
            have HF := hideIt (fun h => all_at (p := rowOk x.field x.data) hjl h)
            subst hA
            have hinc := inc_c 3 j (by omega)
            have hji : (j : Int) < (x.par.length : Int) := by omega
            generalize x.par[j] = l at *
            clear hsl hb
            cases hk : rowOk x.field x.data l with
            | true =>
              rw [hk] at HIR
              have HK := hideIt hk
              clear hk
              go_wp2_with (first
                | ((with_reducible refine at_load ?_); refine wpList_ldC (by kernel_rfl) (.tmp 1) rfl (p := w.heap.size) (c := c) rfl HBC2.out.box ?_)
                | (go_at_call 81; refine HIR.out.mono ?_; rintro e w3 ⟨rfl, hb3⟩; have HB3 := hideIt hb3; clear hb3))
              go_roundg (gk - 1)
              case measure => omega
              case rel => exact ⟨j + 1, by omega, by go_num, HBW.out.trans (HB3.out.mono HBW.out.size), by show (x.par.take (j + 1)).all _ = true; rw [HTK.out, List.all_append, HI.out]; simp [HK.out]⟩
            | false =>
              rw [hk] at HIR
              have HK := hideIt hk
              clear hk
              go_wp2_with (first
                | ((with_reducible refine at_load ?_); refine wpList_ldC (by kernel_rfl) (.tmp 1) rfl (p := w.heap.size) (c := c) rfl HBC2.out.box ?_)
                | (go_at_call 81; refine HIR.out.mono ?_; rintro e w3 ⟨rfl, hb3⟩; have HB3 := hideIt hb3; clear hb3))
              go_ret
              exact ⟨by rw [HR2.out, HF.out HK.out]; rfl, HB.out.trans ((HBW.out.trans (HB3.out.mono HBW.out.size)).mono HB.out.size)⟩
          · have hji : ¬ (j : Int) < (x.par.length : Int) := by omega
            have HE : Hid (r = true) := by
              have := HI.out
              rw [List.take_of_length_le (by omega)] at this
              rw [HR2.out]; exact this
            go_wp2_with fail
            go_ret
            exact ⟨by rw [HE.out]; rfl, HB.out.trans (HBW.out.mono HB.out.size)⟩
      · have hd1 : ¬ x.data < 1 := by omega
        have hd2 : x.data > 32 - (x.par.length : Int) := by omega
        rw [q1, decide_eq_true q2, decide_eq_false q3, Bool.and_false, Bool.false_and] at hr
        rw [q1] at HV
        subst hr
        clear q1 q2 q3 HR
        go_enter Tryd.func60, Tryd.ntmps60
        go_wp2_with (first
          | (go_at_call 80; rw [← HWE.out]; refine HV.out.mono ?_; rintro e w' ⟨rfl, rfl⟩; rw [← HWE.out] at c1 c2 c3))
        go_ret
        exact ⟨rfl, HB.out⟩
    · have hd1 : x.data < 1 := by omega
      rw [q1, decide_eq_false q2, Bool.and_false, Bool.false_and, Bool.false_and] at hr
      rw [q1] at HV
      subst hr
      clear q1 q2 HR
      go_enter Tryd.func60, Tryd.ntmps60
      go_wp2_with (first
        | (go_at_call 80; rw [← HWE.out]; refine HV.out.mono ?_; rintro e w' ⟨rfl, rfl⟩; rw [← HWE.out] at c1 c2 c3))
      go_ret
      exact ⟨rfl, HB.out⟩
  · rw [Bool.not_eq_true] at q1
    rw [q1, Bool.false_and, Bool.false_and, Bool.false_and] at hr
    rw [q1] at HV
    subst hr
    clear q1 HR
    go_enter Tryd.func60, Tryd.ntmps60
    go_wp2_with (first
      | (go_at_call 80; rw [← HWE.out]; refine HV.out.mono ?_; rintro e w' ⟨rfl, rfl⟩))
    go_ret
    exact ⟨rfl, HB.out⟩
theorem vC_bounds {x : Cd} (h : vC x = true) : 1 ≤ x.data ∧ x.data + x.par.length ≤ 32 := by
  unfold vC at h
  simp only [Bool.and_eq_true, decide_eq_true_eq] at h
  exact ⟨h.1.1.2, h.1.2⟩
theorem add_ii (T : TypeId) (a : Int) (b : Nat) (h : 1 ≤ a ∧ a + b ≤ 32) : binOp .add T (.int .i64 a) (.int .i64 (b : Int)) = pure (.int .i64 (a + b)) := by
  rw [binOp_add]
  simp only [Op.intArith]
  rw [IntWalk.i64_in _ (by omega)]
set_option maxHeartbeats 1000000 in
theorem width_any (x : Cd) (A : Option Addr) (c : Nat) (w : World) (hT : Tabs w) (hx : CIn w x A) :
    Calls Tryd.prog 42 #[x.v A c] w fun e w' => e = .returned (.int .i64 (wC x)) ∧ Below w.heap.size w w' := by
  obtain ⟨W, hW⟩ : ∃ W, W = w.alloc (.cells (x.cs A c).toArray 24) := ⟨_, rfl⟩
  have hbw : Below w.heap.size w W := by rw [hW]; exact below_new w _
  have HB := hideIt hbw
  have HBC := hideIt (show BC W w.heap.size x A c by rw [hW]; exact BC.new c hx)
  have HV := hideIt (evalid_any x A c W (hT.keep hbw) HBC.out.cin)
  have hnot := not_b
  have HWE := hideIt hW
  clear hbw hT hx hW
  unfold wC
  cases q : vC x with
  | true =>
    rw [q] at HV
    have hadd := add_ii 3 x.data x.par.length (vC_bounds q)
    rw [if_pos rfl]
    clear q
    go_enter Tryd.func42, Tryd.ntmps42
    go_wp2_with (first
      | (go_at_call 60; rw [← HWE.out]; refine HV.out.mono ?_; rintro e w1 ⟨rfl, hb1⟩; have HBC1 := hideIt (HBC.out.keep hb1); have HB1 := hideIt hb1; clear hb1; have c2 := HBC1.out.c2; have c3 := HBC1.out.c3))
    go_ret
    exact ⟨rfl, HB.out.trans (HB1.out.mono HB.out.size)⟩
  | false =>
    rw [q] at HV
    rw [if_neg (by decide)]
    clear q
    go_enter Tryd.func42, Tryd.ntmps42
    go_wp2_with (first
      | (go_at_call 60; rw [← HWE.out]; refine HV.out.mono ?_; rintro e w1 ⟨rfl, hb1⟩; have HB1 := hideIt hb1; clear hb1))
    go_ret
    exact ⟨rfl, HB.out.trans (HB1.out.mono HB.out.size)⟩
end

section
open Go.RowKit
set_option linter.unusedVariables false
set_option linter.unusedSimpArgs false
abbrev bl (b : Bool) : Value := .bool b
def perB (x : Cd) (n : Nat) : Bool := decide (0 < n ∧ (n : Int) = wC x)
set_option maxHeartbeats 1000000 in
theorem perb_any (x : Cd) (A : Option Addr) (c : Nat) (w : World) (hT : Tabs w) (hx : CIn w x A) (D : Option Addr) (n cd : Nat) :
    Calls Tryd.prog 87 #[x.v A c, .slice D n cd] w fun e w' => e = .returned (.bool (perB x n)) ∧ Below w.heap.size w w' := by
  obtain ⟨W, hW⟩ : ∃ W, W = w.alloc (.cells (x.cs A c).toArray 24) := ⟨_, rfl⟩
  have hbw : Below w.heap.size w W := by rw [hW]; exact below_new w _
  have HB := hideIt hbw
  have HBC := hideIt (show BC W w.heap.size x A c by rw [hW]; exact BC.new c hx)
  have HV := hideIt (width_any x A c W (hT.keep hbw) HBC.out.cin)
  have hq := i_eql 3 .i64 (n : Int) (wC x)
  have HWE := hideIt hW
  clear hbw hT hx hW
  unfold perB
  by_cases h0 : (n : Int) > 0
  · by_cases h1 : (n : Int) = wC x
    · rw [decide_eq_true ⟨by omega, h1⟩]
      rw [decide_eq_true h1] at hq
      clear h1
      generalize wC x = z at *
      go_enter Tryd.func87, Tryd.ntmps87
      go_wp2_with (first
        | (go_at_call 42; rw [← HWE.out]; refine HV.out.mono ?_; rintro e w1 ⟨rfl, hb1⟩; have HB1 := hideIt hb1; clear hb1))
      go_ret
      exact ⟨rfl, HB.out.trans (HB1.out.mono HB.out.size)⟩
    · rw [decide_eq_false fun h => h1 h.2]
      rw [decide_eq_false h1] at hq
      clear h1
      generalize wC x = z at *
      go_enter Tryd.func87, Tryd.ntmps87
      go_wp2_with (first
        | (go_at_call 42; rw [← HWE.out]; refine HV.out.mono ?_; rintro e w1 ⟨rfl, hb1⟩; have HB1 := hideIt hb1; clear hb1))
      go_ret
      exact ⟨rfl, HB.out.trans (HB1.out.mono HB.out.size)⟩
  · rw [decide_eq_false fun h => h0 (by omega)]
    go_enter Tryd.func87, Tryd.ntmps87
    go_wp2_with fail
    go_ret
    rw [← HWE.out]
    exact ⟨rfl, HB.out⟩
theorem isIndex_any (D : Option Addr) (n cd : Nat) (u : Int) (w : World) :
    Calls Tryd.prog 76 #[.slice D n cd, .int .i64 u] w fun e w' => e = .returned (.bool (decide (0 ≤ u ∧ u < n))) ∧ w = w' := by
  by_cases h0 : u ≥ 0
  · by_cases h1 : u < (n : Int)
    · rw [decide_eq_true ⟨h0, h1⟩]
      go_enter Tryd.func76, Tryd.ntmps76
      go_wp2_with fail
      go_ret
      exact ⟨rfl, rfl⟩
    · rw [decide_eq_false fun h => h1 h.2]
      go_enter Tryd.func76, Tryd.ntmps76
      go_wp2_with fail
      go_ret
      exact ⟨rfl, rfl⟩
  · rw [decide_eq_false fun h => h0 h.1]
    go_enter Tryd.func76, Tryd.ntmps76
    go_wp2_with fail
    go_ret
    exact ⟨rfl, rfl⟩
/-- Units of one length that consist of whole symbols. -/
def alk (m : Nat) (us : List (List UInt8)) : Bool := us.all fun u => decide (u.length = ul us ∧ u.length % (m / 8) = 0)
end

section
open Go.ChangeShapes Go.WideShapes Go.ChangeAt Go.RowKit
set_option linter.unusedVariables false
theorem parts5c (l : List Value) (h : l.length = 5) : l = (l.drop 0).take 1 ++ ((l.drop 1).take 1 ++ ((l.drop 2).take 1 ++ ((l.drop 3).take 1 ++ (l.drop 4).take 1))) := by
  match l, h with
  | [a, b, c, d, e], _ => rfl
section
variable {H : Type} {enc : TypeId × Value → H} {w : World}
theorem slice_is7 {T e : TypeId} (hT : Tryd.prog.underlying T = some (.slice e)) {fuel : Nat} {cs : List Value} {x : DataW H × List MemPlace} (h : DataW.trod enc Tryd.prog w 0 (fun _ => true) true fuel T cs = some x) : ∃ A n c, cs = [.slice A n c] := by
  rcases DataW.trod_slice hT h with ⟨h0, _⟩ | ⟨a, len', cap', elems, rest, n, _, h0, _⟩
  · exact ⟨_, _, _, h0⟩
  · exact ⟨_, _, _, h0⟩
theorem open_nums7 {A : Option Addr} {len cap : Nat} {fuel : Nat} {x : DataW H × List MemPlace} (hf : DataW.trod enc Tryd.prog w 0 (fun _ => true) true fuel 36 [.slice A len cap] = some x) :
    len ≤ cap ∧ cap ≤ maxLen ∧ ∃ l : List Int, l.length = len ∧ Sl w w.heap.size A 1 len (l.map iv) := by
  obtain ⟨h1, h2, hd, css, h3, h4, h5⟩ := open_elems (size := 1) Tryd.underlying36 (by kernel_rfl) (by omega) (fun cs => ∃ n : Int, cs = [iv n] ∧ -9223372036854775808 ≤ n ∧ n ≤ 9223372036854775807) (fun n cs y _ hy => by
    obtain ⟨m, rfl, _, hw⟩ := DataW.trod_int Tryd.underlying3 hy
    exact ⟨m, rfl, wf_i64 hw⟩) hf
  obtain ⟨l, q1, q2, q3⟩ := nums_of css h4
  exact ⟨h1, h2, l, q1.trans h3, q2 ▸ h5⟩
def RowC (w : World) (cs : List Value) : Prop := ∃ (l : List Int) (A : Option Addr) (c : Nat), cs = [.slice A l.length c] ∧ Sl w w.heap.size A 1 l.length (l.map iv) ∧ l.length ≤ 9223372036854775807
theorem par_of : ∀ css : List (List Value), (∀ cs ∈ css, RowC w cs ∧ cs.length = 1) →
    ∃ par : List (List Int), par.length = css.length ∧ All2 (fun (l : List Int) u => ∃ A c, u = .slice A l.length c ∧ Sl w w.heap.size A 1 l.length (l.map iv)) par css.flatten ∧ ∀ l ∈ par, l.length ≤ 9223372036854775807
  | [], _ => ⟨[], rfl, trivial, fun l hl => by simp at hl⟩
  | cs :: css, h => by
    obtain ⟨par, h1, h2, h3⟩ := par_of css (fun c hc => h c (List.mem_cons_of_mem _ hc))
    obtain ⟨⟨l, A, c, rfl, hs, hl⟩, _⟩ := h cs (List.mem_cons_self ..)
    refine ⟨l :: par, by simp [h1], ⟨⟨A, c, rfl, hs⟩, h2⟩, fun x hx => ?_⟩
    rcases List.mem_cons.1 hx with rfl | hx
    · exact hl
    · exact h3 x hx
theorem open_par {A : Option Addr} {len cap : Nat} {fuel : Nat} {x : DataW H × List MemPlace} (hf : DataW.trod enc Tryd.prog w 0 (fun _ => true) true fuel 22 [.slice A len cap] = some x) :
    ∃ par : List (List Int), par.length = len ∧ PM w w.heap.size A par ∧ par.length ≤ 9223372036854775807 ∧ ∀ l ∈ par, l.length ≤ 9223372036854775807 := by
  have big : maxLen ≤ 9223372036854775807 := by decide
  obtain ⟨h1, h2, hd, css, h3, h4, h5⟩ := open_elems (size := 1) Tryd.underlying22 (by kernel_rfl) (by omega) (RowC w) (fun n cs y _ hy => by
    obtain ⟨Ai, ln, ci, rfl⟩ := slice_is7 Tryd.underlying36 hy
    obtain ⟨q1, q2, l, q3, q4⟩ := open_nums7 hy
    subst q3
    exact ⟨l, Ai, ci, rfl, q4, by omega⟩) hf
  obtain ⟨par, q1, q2, q3⟩ := par_of css h4
  have h6 : par.length = len := q1.trans h3
  refine ⟨par, h6, ⟨css.flatten, by rw [h6]; exact h5, q2⟩, by omega, q3⟩
def CodeIn (w : World) (cs : List Value) : Prop := ∃ (x : Cd) (A : Option Addr) (c : Nat), cs = cdC x.name x.field x.data (.slice A x.par.length c) x.dom ∧ CIn w x A ∧ x.name.length ≤ 9223372036854775807
set_option maxRecDepth 100000 in
theorem code_cells {fuel : Nat} {cs : List Value} {x : DataW H × List MemPlace} (hcl : cs.length = 5) (hf : DataW.trod enc Tryd.prog w 0 (fun _ => true) true fuel 24 cs = some x) : CodeIn w cs := by
  have hi1 : Tryd.prog.cellsOf 3 = 1 := by kernel_rfl
  have hs1 : Tryd.prog.cellsOf 22 = 1 := by kernel_rfl
  have hu1 : Tryd.prog.cellsOf 9 = 1 := by kernel_rfl
  obtain ⟨xs, m, _, _, hl, hlen, hx⟩ := DataW.trod_struct Tryd.underlying24 hf
  have e : ∀ k, k < 5 → ∃ y, xs[k]? = some y := fun k hk => ⟨_, List.getElem?_eq_getElem (by rw [hlen]; exact hk)⟩
  obtain ⟨y0, e0⟩ := e 0 (by decide)
  obtain ⟨y1, e1⟩ := e 1 (by decide)
  obtain ⟨y2, e2⟩ := e 2 (by decide)
  obtain ⟨y3, e3⟩ := e 3 (by decide)
  obtain ⟨y4, e4⟩ := e 4 (by decide)
  have h0 := (hx 0 _ rfl).trans e0
  have h1 := (hx 1 _ rfl).trans e1
  have h2 := (hx 2 _ rfl).trans e2
  have h3 := (hx 3 _ rfl).trans e3
  have h4 := (hx 4 _ rfl).trans e4
  change DataW.trod enc Tryd.prog w 0 (fun _ => true) true m 9 ((cs.drop 0).take (Tryd.prog.cellsOf 9)) = some y0 at h0
  change DataW.trod enc Tryd.prog w 0 (fun _ => true) true m 3 ((cs.drop 1).take (Tryd.prog.cellsOf 3)) = some y1 at h1
  change DataW.trod enc Tryd.prog w 0 (fun _ => true) true m 3 ((cs.drop 2).take (Tryd.prog.cellsOf 3)) = some y2 at h2
  change DataW.trod enc Tryd.prog w 0 (fun _ => true) true m 22 ((cs.drop 3).take (Tryd.prog.cellsOf 22)) = some y3 at h3
  change DataW.trod enc Tryd.prog w 0 (fun _ => true) true m 3 ((cs.drop 4).take (Tryd.prog.cellsOf 3)) = some y4 at h4
  rw [hi1] at h1 h2 h4
  rw [hs1] at h3
  rw [hu1] at h0
  obtain ⟨s, q0, _, hw0⟩ := DataW.trod_string Tryd.underlying9 h0
  obtain ⟨n1, q1, _, _⟩ := DataW.trod_int Tryd.underlying3 h1
  obtain ⟨n2, q2, _, _⟩ := DataW.trod_int Tryd.underlying3 h2
  obtain ⟨A, la, ca, q3⟩ := slice_is7 Tryd.underlying22 h3
  obtain ⟨n4, q4, _, _⟩ := DataW.trod_int Tryd.underlying3 h4
  rw [q3] at h3
  obtain ⟨par, r3, x3, b1, b2⟩ := open_par h3
  subst r3
  have hp := parts5c cs hcl
  rw [q0, q1, q2, q3, q4] at hp
  refine ⟨⟨s.data.toList, n1, n2, par, n4⟩, A, ca, ?_, ⟨x3, b1, b2⟩, ?_⟩
  · rw [hp]
    show _ = [sv s.data.toList, _, _, _, _]
    rw [show sv s.data.toList = .string (str s.data.toList) from rfl, list_str]
    rfl
  · show s.data.toList.length ≤ _
    have : s.size ≤ maxLen := hw0
    have big : maxLen ≤ 9223372036854775807 := by decide
    simp only [Array.length_toList]
    exact Nat.le_trans this big
set_option maxRecDepth 100000 in
theorem open_code {v : Value} {d : DataW H} {p : List MemPlace} (hv : Value.okWide Tryd.prog w .any 0 24 v)
    (h : DataW.Trod enc Tryd.prog w 0 (fun _ => true) true 24 v d p) : ∃ (x : Cd) (A : Option Addr) (c : Nat), v = cdV x.name x.field x.data (.slice A x.par.length c) x.dom ∧ CIn w x A ∧ x.name.length ≤ 9223372036854775807 := by
  have hc : Tryd.prog.cellsOf 24 = 5 := by kernel_rfl
  obtain ⟨cs, rfl, hs⟩ := okWide_struct Tryd.underlying24 hv
  obtain ⟨fuel, hf⟩ := h
  have hcl : cs.toList.length = 5 := by rw [Array.length_toList, hs, hc]
  obtain ⟨x, A, c, he, hin, hn⟩ := code_cells hcl (show DataW.trod enc Tryd.prog w 0 (fun _ => true) true fuel 24 cs.toList = some _ from hf)
  refine ⟨x, A, c, ?_, hin, hn⟩
  show Value.agg cs = .agg _
  congr 1
  rw [← Array.toList_inj, he]
theorem bools_of : ∀ css : List (List Value), (∀ cs ∈ css, (∃ b : Bool, cs = [.bool b]) ∧ cs.length = 1) → ∃ us : List Bool, us.length = css.length ∧ css.flatten = us.map bl
  | [], _ => ⟨[], rfl, rfl⟩
  | cs :: r, h => by
    obtain ⟨⟨b, rfl⟩, _⟩ := h cs (by simp)
    obtain ⟨l, h1, h2⟩ := bools_of r fun x hx => h x (by simp [hx])
    exact ⟨b :: l, by simp [h1], by simp [h2]⟩
theorem open_bools8 {A : Option Addr} {len cap : Nat} {fuel : Nat} {x : DataW H × List MemPlace} (hf : DataW.trod enc Tryd.prog w 0 (fun _ => true) true fuel 25 [.slice A len cap] = some x) :
    ∃ us : List Bool, us.length = len ∧ Sl w w.heap.size A 1 len (us.map bl) ∧ us.length ≤ 9223372036854775807 := by
  obtain ⟨h1, h2, hd, css, h3, h4, h5⟩ := open_elems (size := 1) Tryd.underlying25 (by kernel_rfl) (by omega) (fun cs => ∃ b : Bool, cs = [.bool b]) (fun n cs y _ hy => by
    obtain ⟨b, rfl, _⟩ := DataW.trod_bool Tryd.underlying4 hy
    exact ⟨b, rfl⟩) hf
  obtain ⟨l, q1, q2⟩ := bools_of css h4
  have big : maxLen ≤ 9223372036854775807 := by decide
  exact ⟨l, q1.trans h3, q2 ▸ h5, by omega⟩
theorem open_boolsD {A : Option Addr} {len cap : Nat} {d : DataW H} {p : List MemPlace} (h : DataW.Trod enc Tryd.prog w 0 (fun _ => true) true 25 (.slice A len cap) d p) :
    ∃ us : List Bool, us.length = len ∧ Sl w w.heap.size A 1 len (us.map bl) ∧ us.length ≤ 9223372036854775807 := by
  obtain ⟨fuel, hf⟩ := h
  exact open_bools8 (show DataW.trod enc Tryd.prog w 0 (fun _ => true) true fuel 25 [.slice A len cap] = some _ from hf)
end
end

section
open Go.RowKit
set_option linter.unusedVariables false
set_option linter.unusedSimpArgs false
theorem cell_arr_new (w : World) (arr : Array Value) (t : TypeId) : ∀ j u, arr.toList[j]? = some u → (w.alloc (.cells arr t)).cell? ((⟨w.heap.size, 0, none⟩ : Addr).add j) = some u := by
  intro j u h
  have := (Blk.new w t arr.toList).cell j
  rw [h] at this
  rw [addr_add, Nat.zero_add]
  exact this
section
variable {T e : TypeId} {size bytes : Nat} {z : Value} {ops : Array Oper} {rest : List Oper} {o : Oper} {a : Act} {Q : Exit → Act → World → Prop} {w : World}
/-- Appending what lies at an address. -/
theorem wpList_apG (hT : Tryd.prog.underlying T = some (.slice e)) (hi : (Tryd.prog.info? e).map (fun i => (i.zero, i.size, i.bytes)) = some (some z, size, bytes)) (hzs : z.cells.size = size) (hsz : 0 < size) (hby : bytes ≤ 64)
    (hgd : o.guard = none) (s x : Operand) (ho : o.op = .call { callee := .builtin .append, args := #[s, x], argTypes := #[T, T] })
    {base : Nat} {v : Value} {n : Nat} {xs : List Value} (hs : a.eval s = v) (hown : w.ownsRow base e size v n xs)
    {ad : Addr} {m c : Nat} {news : List Value} (hx : a.eval x = .slice (some ad) m c) (hl : news.length = m * size) (hnews : ∀ j u, news[j]? = some u → w.cell? (ad.add j) = some u) (h1 : ∀ u ∈ news, u.oneCell' = true)
    (hn : n + m ≤ 100000) (hbase : base ≤ w.heap.size)
    (h : ∀ v' w', Hid (w'.ownsRow base e size v' (n + m) (xs ++ news)) → Hid (w.grownBy w' v.ownBlock) → Hid (v'.ownBlock = v.ownBlock ∨ v'.ownBlock = some w.heap.size) → Hid (Below base w w') → wpList Tryd.prog ops Q rest (a.put o.dst v') w') :
    wpList Tryd.prog ops Q (o :: rest) a w := by
  obtain ⟨i, h2, h3, h4, h5⟩ := info_parts hi
  exact wpList_append_own_at w hgd s x T ho base e i z size bytes hT h2 h3 h4 h5 hzs hsz v n xs hs hown ad m c news hx hl hnews h1 (by unfold maxLen; omega)
    (Nat.le_trans (Nat.mul_le_mul hn hby) (by decide)) hbase fun v' w' q1 q2 _ q3 => h v' w' q1 q2 q3 (below_grown (Below.refl _ _) hown (Nat.le_refl _) hbase q2)
/-- Appending the one element of a new literal. -/
theorem wpList_ap1 (hT : Tryd.prog.underlying T = some (.slice e)) (hi : (Tryd.prog.info? e).map (fun i => (i.zero, i.size, i.bytes)) = some (some z, size, bytes)) (hzs : z.cells.size = size) (hsz : 0 < size) (hby : bytes ≤ 64)
    {arr : Array Value} (hgd : o.guard = none) (s x : Operand) (ho : o.op = .call { callee := .builtin .append, args := #[s, x], argTypes := #[T, T] })
    {base : Nat} {v : Value} {n : Nat} {xs : List Value} (hs : a.eval s = v) (hown : w.ownsRow base e size v n xs) (hx : a.eval x = .slice (some ⟨w.heap.size, 0, none⟩) 1 1) (hl : arr.size = size) (h1 : ∀ u ∈ arr.toList, u.oneCell' = true)
    (hn : n + 1 ≤ 100000) (hbase : base ≤ w.heap.size)
    (h : ∀ v' w', Hid (w'.ownsRow base e size v' (n + 1) (xs ++ arr.toList)) → Hid ((w.alloc (.cells arr e)).grownBy w' v.ownBlock) → Hid (v'.ownBlock = v.ownBlock ∨ v'.ownBlock = some (w.alloc (.cells arr e)).heap.size) → Hid (Below base w w') → wpList Tryd.prog ops Q rest (a.put o.dst v') w') :
    wpList Tryd.prog ops Q (o :: rest) a (w.alloc (.cells arr e)) :=
  have hb := below_new w (.cells arr e)
  wpList_apG (w := w.alloc (.cells arr e)) hT hi hzs hsz hby hgd s x ho hs (own_kept hown hb) (ad := ⟨w.heap.size, 0, none⟩) (news := arr.toList) hx (by simpa using hl) (cell_arr_new w arr e) h1 hn (Nat.le_trans hbase hb.size) fun v' w' q1 q2 q3 q4 =>
    h v' w' q1 q2 q3 ((hb.mono hbase).trans q4.out)
end
section
variable {ops : Array Oper} {rest : List Oper} {o : Oper} {a : Act} {Q : Exit → Act → World → Prop} {w : World}
theorem wpList_apS {u : List UInt8} (hgd : o.guard = none) (hs0 : Operand) (hx0 : Operand) (ho : o.op = .call { callee := .builtin .append, args := #[hs0, hx0], argTypes := #[44, 44] })
    {base : Nat} {v : Value} {n : Nat} {us : List (List UInt8)} (hs : a.eval hs0 = v) (hown : w.ownsRow base 9 1 v n (us.map sv)) (hx : a.eval hx0 = .slice (some ⟨w.heap.size, 0, none⟩) 1 1) (hn : n + 1 ≤ 100000) (hbase : base ≤ w.heap.size)
    (h : ∀ v' w', Hid (w'.ownsRow base 9 1 v' (n + 1) ((us ++ [u]).map sv)) → Hid ((w.alloc (.cells #[sv u] 9)).grownBy w' v.ownBlock) → Hid (v'.ownBlock = v.ownBlock ∨ v'.ownBlock = some (w.alloc (.cells #[sv u] 9)).heap.size) → Hid (Below base w w') → wpList Tryd.prog ops Q rest (a.put o.dst v') w') :
    wpList Tryd.prog ops Q (o :: rest) a (w.alloc (.cells #[sv u] 9)) :=
  wpList_ap1 (z := .string ⟨#[]⟩) (size := 1) (bytes := 16) Tryd.underlying44 (by kernel_rfl) rfl (by decide) (by decide) hgd hs0 hx0 ho hs hown hx rfl (ones_one rfl) hn hbase fun v' w' q1 q2 q3 q4 => h v' w' (by rw [List.map_append]; exact q1) q2 q3 q4
theorem wpList_apI {y : Int} (hgd : o.guard = none) (hs0 : Operand) (hx0 : Operand) (ho : o.op = .call { callee := .builtin .append, args := #[hs0, hx0], argTypes := #[36, 36] })
    {base : Nat} {v : Value} {n : Nat} {us : List Int} (hs : a.eval hs0 = v) (hown : w.ownsRow base 3 1 v n (us.map iv)) (hx : a.eval hx0 = .slice (some ⟨w.heap.size, 0, none⟩) 1 1) (hn : n + 1 ≤ 100000) (hbase : base ≤ w.heap.size)
    (h : ∀ v' w', Hid (w'.ownsRow base 3 1 v' (n + 1) ((us ++ [y]).map iv)) → Hid ((w.alloc (.cells #[.int .i64 y] 3)).grownBy w' v.ownBlock) → Hid (v'.ownBlock = v.ownBlock ∨ v'.ownBlock = some (w.alloc (.cells #[.int .i64 y] 3)).heap.size) → Hid (Below base w w') → wpList Tryd.prog ops Q rest (a.put o.dst v') w') :
    wpList Tryd.prog ops Q (o :: rest) a (w.alloc (.cells #[.int .i64 y] 3)) :=
  wpList_ap1 (z := .int .i64 0) (size := 1) (bytes := 8) Tryd.underlying36 (by kernel_rfl) rfl (by decide) (by decide) hgd hs0 hx0 ho hs hown hx rfl (ones_one rfl) hn hbase fun v' w' q1 q2 q3 q4 => h v' w' (by rw [List.map_append]; exact q1) q2 q3 q4
theorem wpList_apR {A : Option Addr} {k c : Nat} (hgd : o.guard = none) (hs0 : Operand) (hx0 : Operand) (ho : o.op = .call { callee := .builtin .append, args := #[hs0, hx0], argTypes := #[22, 22] })
    {base : Nat} {v : Value} {n : Nat} {us : List Value} (hs : a.eval hs0 = v) (hown : w.ownsRow base 36 1 v n us) (hx : a.eval hx0 = .slice (some ⟨w.heap.size, 0, none⟩) 1 1) (hn : n + 1 ≤ 100000) (hbase : base ≤ w.heap.size)
    (h : ∀ v' w', Hid (w'.ownsRow base 36 1 v' (n + 1) (us ++ [.slice A k c])) → Hid ((w.alloc (.cells #[.slice A k c] 36)).grownBy w' v.ownBlock) → Hid (v'.ownBlock = v.ownBlock ∨ v'.ownBlock = some (w.alloc (.cells #[.slice A k c] 36)).heap.size) → Hid (Below base w w') → wpList Tryd.prog ops Q rest (a.put o.dst v') w') :
    wpList Tryd.prog ops Q (o :: rest) a (w.alloc (.cells #[.slice A k c] 36)) :=
  wpList_ap1 (z := .slice none 0 0) (size := 1) (bytes := 24) Tryd.underlying22 (by kernel_rfl) rfl (by decide) (by decide) hgd hs0 hx0 ho hs hown hx rfl (ones_one rfl) hn hbase h
/-- A term: a unit and a coefficient. -/
abbrev tc (t : Nat × Nat) : List Value := [.int .i64 (t.1 : Int), .int .i64 (t.2 : Int)]
abbrev tcs (l : List (Nat × Nat)) : List Value := l.flatMap tc
theorem tcs_snoc (l : List (Nat × Nat)) (t : Nat × Nat) : tcs (l ++ [t]) = tcs l ++ tc t := by simp [tcs]
theorem tcs_len (l : List (Nat × Nat)) : (tcs l).length = l.length * 2 := by
  induction l with
  | nil => rfl
  | cons t r ih => rw [show tcs (t :: r) = tc t ++ tcs r from rfl, List.length_append, ih]; simp only [List.length_cons, List.length_nil]; omega
theorem tcs_at : ∀ (l : List (Nat × Nat)) (k : Nat) (h : k < l.length), (tcs l)[k * 2]? = some (.int .i64 ((l[k]).1 : Int)) ∧ (tcs l)[k * 2 + 1]? = some (.int .i64 ((l[k]).2 : Int))
  | t :: r, 0, _ => ⟨rfl, rfl⟩
  | t :: r, k + 1, h => by
    have := tcs_at r k (by simpa using h)
    rw [show tcs (t :: r) = tc t ++ tcs r from rfl, List.getElem?_append_right (by simp; omega), List.getElem?_append_right (by simp; omega)]
    have e1 : (k + 1) * 2 - (tc t).length = k * 2 := by simp; omega
    have e2 : (k + 1) * 2 + 1 - (tc t).length = k * 2 + 1 := by simp; omega
    rw [e1, e2]
    exact this
theorem wpList_apT {t : Nat × Nat} (hgd : o.guard = none) (hs0 : Operand) (hx0 : Operand) (ho : o.op = .call { callee := .builtin .append, args := #[hs0, hx0], argTypes := #[28, 28] })
    {base : Nat} {v : Value} {n : Nat} {us : List (Nat × Nat)} (hs : a.eval hs0 = v) (hown : w.ownsRow base 54 2 v n (tcs us)) (hx : a.eval hx0 = .slice (some ⟨w.heap.size, 0, none⟩) 1 1) (hn : n + 1 ≤ 100000) (hbase : base ≤ w.heap.size)
    (h : ∀ v' w', Hid (w'.ownsRow base 54 2 v' (n + 1) (tcs (us ++ [t]))) → Hid ((w.alloc (.cells #[.int .i64 (t.1 : Int), .int .i64 (t.2 : Int)] 54)).grownBy w' v.ownBlock) → Hid (v'.ownBlock = v.ownBlock ∨ v'.ownBlock = some (w.alloc (.cells #[.int .i64 (t.1 : Int), .int .i64 (t.2 : Int)] 54)).heap.size) → Hid (Below base w w') → wpList Tryd.prog ops Q rest (a.put o.dst v') w') :
    wpList Tryd.prog ops Q (o :: rest) a (w.alloc (.cells #[.int .i64 (t.1 : Int), .int .i64 (t.2 : Int)] 54)) :=
  wpList_ap1 (z := .agg #[.int .i64 0, .int .i64 0]) (size := 2) (bytes := 16) Tryd.underlying28 (by kernel_rfl) rfl (by decide) (by decide) hgd hs0 hx0 ho hs hown hx rfl (fun u hu => by
    rcases List.mem_cons.1 hu with rfl | hu
    · rfl
    · rcases List.mem_cons.1 hu with rfl | hu
      · rfl
      · cases hu) hn hbase fun v' w' q1 q2 q3 q4 => h v' w' (by rw [tcs_snoc]; exact q1) q2 q3 q4
end
theorem own_base {w : World} {base base' size n : Nat} {e : TypeId} {v : Value} {xs : List Value} (h : w.ownsRow base e size v n xs) (hb : base' ≤ base) : w.ownsRow base' e size v n xs :=
  ⟨h.1, h.2.elim Or.inl (fun ⟨g, cap, cur, hv, hg, r⟩ => Or.inr ⟨g, cap, cur, hv, Nat.le_trans hb hg, r⟩)⟩
/-- A list of strings and an error. -/
def StrRes (w : World) (r : List (List UInt8) × Int) (e : Ending) (w' : World) : Prop :=
  ∃ v, e = .returned (.tuple #[v, .int .i64 r.2]) ∧ w'.ownsRow w.heap.size 9 1 v r.1.length (r.1.map sv) ∧ Below w.heap.size w w'
/-- A list of numbers and an error. -/
def IntRes (w : World) (r : List Int × Int) (e : Ending) (w' : World) : Prop :=
  ∃ v, e = .returned (.tuple #[v, .int .i64 r.2]) ∧ w'.ownsRow w.heap.size 3 1 v r.1.length (r.1.map iv) ∧ Below w.heap.size w w'
/-- A list of terms and an error. -/
def TermRes (w : World) (r : List (Nat × Nat) × Int) (e : Ending) (w' : World) : Prop :=
  ∃ v, e = .returned (.tuple #[v, .int .i64 r.2]) ∧ w'.ownsRow w.heap.size 54 2 v r.1.length (tcs r.1) ∧ Below w.heap.size w w'
theorem StrRes.nil {w w' : World} (hb : Below w.heap.size w w') (x : Int) : StrRes w ([], x) (.returned (.tuple #[.slice none 0 0, .int .i64 x])) w' := ⟨_, rfl, World.ownsRow_nil _ _ _ _, hb⟩
theorem IntRes.nil {w w' : World} (hb : Below w.heap.size w w') (x : Int) : IntRes w ([], x) (.returned (.tuple #[.slice none 0 0, .int .i64 x])) w' := ⟨_, rfl, World.ownsRow_nil _ _ _ _, hb⟩
theorem TermRes.nil {w w' : World} (hb : Below w.heap.size w w') (x : Int) : TermRes w ([], x) (.returned (.tuple #[.slice none 0 0, .int .i64 x])) w' := ⟨_, rfl, World.ownsRow_nil _ _ _ _, hb⟩
end

section
open Go.RowKit
set_option linter.unusedVariables false
set_option linter.unusedSimpArgs false
structure VC (x : Cd) (m n : Nat) : Prop where
  fm : Fm m
  f : x.field = (m : Int)
  d : x.data = (n : Int)
  pos : 1 ≤ n
  wid : n + x.par.length ≤ 32
  row : ∀ l ∈ x.par, l.length = n ∧ (∀ a ∈ l, vd x.field a = true) ∧ ∃ a ∈ l, a ≠ 0
theorem vC_spec {x : Cd} (h : vC x = true) : ∃ m n : Nat, VC x m n := by
  unfold vC at h
  simp only [Bool.and_eq_true, decide_eq_true_eq, List.all_eq_true] at h
  obtain ⟨⟨⟨h1, h2⟩, h3⟩, h4⟩ := h
  obtain ⟨m, y, hm, _, hf, _⟩ := vd_spec h1
  refine ⟨m, x.data.toNat, hf, hm, by omega, by omega, by omega, fun l hl => ?_⟩
  have := h4 l hl
  unfold rowOk at this
  simp only [Bool.and_eq_true, decide_eq_true_eq, List.all_eq_true, List.any_eq_true] at this
  exact ⟨by omega, this.1.2, this.2⟩
def encR (x : Cd) (us : List (List UInt8)) : List (List UInt8) × Int :=
  if vC x = true ∧ (us.length : Int) = x.data ∧ alk x.field.toNat us = true then (us ++ x.par.map (fun r => cbS x.field r us), 0) else ([], 1)
end

section
open Go.RowKit
set_option linter.unusedVariables false
set_option linter.unusedSimpArgs false
/-- The rows of a code's units. -/
def gC (x : Cd) : Mx := fun u j => if u < x.data.toNat then (if u = j then 1 else 0) else ((x.par.getD (u - x.data.toNat) []).getD j 0).toNat
def genM (x : Cd) : Mt := mkM x.field.toNat (x.data.toNat + x.par.length) x.data.toNat (gC x)
def genR (x : Cd) : Mt × Int := if vC x = true then (genM x, 0) else (zeroM, 1)
theorem VC.fn {x : Cd} {m n : Nat} (h : VC x m n) : x.field.toNat = m := by rw [h.f, Int.toNat_natCast]
theorem VC.dn {x : Cd} {m n : Nat} (h : VC x m n) : x.data.toNat = n := by rw [h.d, Int.toNat_natCast]
theorem gC_v {x : Cd} {m n : Nat} (h : VC x m n) : Vm m (gC x) := fun u j => by
  unfold gC
  split
  · split
    · exact fm_one h.fm
    · exact Nat.two_pow_pos m
  · by_cases hu : u - x.data.toNat < x.par.length
    · have hr := h.row _ (List.getElem_mem hu)
      rw [show x.par.getD (u - x.data.toNat) [] = x.par[u - x.data.toNat] by simp [List.getD_eq_getElem?_getD, hu]]
      by_cases hj : j < (x.par[u - x.data.toNat]).length
      · rw [show (x.par[u - x.data.toNat]).getD j 0 = (x.par[u - x.data.toNat])[j] by simp [List.getD_eq_getElem?_getD, hj]]
        obtain ⟨k, y, hk, hy, hm, hlt⟩ := vd_spec (hr.2.1 _ (List.getElem_mem hj))
        have : k = m := by have := h.f; omega
        subst this
        rw [hy, Int.toNat_natCast]; exact hlt
      · rw [show (x.par[u - x.data.toNat]).getD j 0 = 0 by simp [List.getD_eq_getElem?_getD, hj]]; exact Nat.two_pow_pos m
    · rw [show x.par.getD (u - x.data.toNat) [] = [] by simp [List.getD_eq_getElem?_getD, hu]]; exact Nat.two_pow_pos m
/-- The first rows of the generator, as cells. -/
def genK (x : Cd) (k : Nat) : List Int := nl ((x.data.toNat + k) * x.data.toNat) fun i => gC x (i / x.data.toNat) (i % x.data.toNat)
theorem gC_par {x : Cd} {m n : Nat} (h : VC x m n) {k j : Nat} (hk : k < x.par.length) (hj : j < n) : ((gC x (n + k) j : Nat) : Int) = (x.par[k])[j]'(by rw [(h.row _ (List.getElem_mem hk)).1]; exact hj) := by
  have hr := h.row _ (List.getElem_mem hk)
  have hjl : j < (x.par[k]).length := by rw [hr.1]; exact hj
  have := vd_nonneg (hr.2.1 _ (List.getElem_mem hjl))
  unfold gC
  rw [h.dn, if_neg (by omega), show n + k - n = k by omega, show x.par.getD k [] = x.par[k] by simp [List.getD_eq_getElem?_getD, hk],
    show (x.par[k]).getD j 0 = (x.par[k])[j] by simp [List.getD_eq_getElem?_getD, hjl]]
  omega
theorem genK_next {x : Cd} {m n : Nat} (h : VC x m n) {k : Nat} (hk : k < x.par.length) : genK x (k + 1) = genK x k ++ x.par[k] := by
  have hr := h.row _ (List.getElem_mem hk)
  unfold genK
  rw [h.dn]
  have hl : ((nl ((n + k) * n) fun i => gC x (i / n) (i % n)) ++ x.par[k]).length = (n + (k + 1)) * n := by rw [List.length_append, nl_len, hr.1, ← Nat.add_assoc, Nat.add_mul (n + k) 1 n, Nat.one_mul]
  refine List.ext_getElem (by rw [nl_len, hl]) fun i h1 h2 => ?_
  rw [nl_len] at h1
  rw [nl_get]
  by_cases hi : i < (n + k) * n
  · rw [List.getElem_append_left (by rw [nl_len]; exact hi), nl_get]
  · rw [List.getElem_append_right (by rw [nl_len]; omega)]
    have e1 : (n + (k + 1)) * n = (n + k) * n + n := by rw [← Nat.add_assoc, Nat.add_mul (n + k) 1 n, Nat.one_mul]
    obtain ⟨j, rfl⟩ : ∃ j, i = (n + k) * n + j := ⟨i - (n + k) * n, by omega⟩
    have hj : j < n := by omega
    simp only [nl_len, Nat.add_sub_cancel_left]
    rw [ix_div hj, ix_mod hj]
    exact gC_par h hk hj
theorem genK_zero {x : Cd} {m n : Nat} (h : VC x m n) : genK x 0 = (mkM m n n idm).l := by
  unfold genK mkM
  rw [h.dn]
  show nl ((n + 0) * n) _ = nl (n * n) _
  rw [Nat.add_zero]
  refine nl_congr fun i hi => ?_
  have := (ix_of hi).1
  unfold gC idm
  rw [h.dn, if_pos this]
theorem genK_len (x : Cd) (k : Nat) : (genK x k).length = (x.data.toNat + k) * x.data.toNat := nl_len _ _
end

section
open Go.RowKit
set_option linter.unusedVariables false
set_option linter.unusedSimpArgs false
theorem below_set {B g : Nat} {a w : World} (h : Below B a w) (hg : B ≤ g) (i : Nat) (u : Value) : Below B a (w.setCell ⟨g, i, none⟩ u) := h.setCell (p := ⟨g, i, none⟩) hg u
structure GI (x : Cd) (w1 : World) (p4 n m k : Nat) (wr : World) (v : Value) : Prop where
  low : Below w1.heap.size w1 wr
  box : Blk wr p4 98 (mtC (m : Int) ((n + k : Nat) : Int) (n : Int) v)
  own : wr.ownsRow w1.heap.size 3 1 v ((n + k) * n) ((genK x k).map iv)
theorem ident_vc {x : Cd} {m n : Nat} (h : VC x m n) (w : World) (hT : Tabs w) :
    Calls Tryd.prog 100 #[.int .i64 x.field, .int .i64 x.data] w fun e w' => ∃ A c, e = .returned (.tuple #[mtV (m : Int) (n : Int) (n : Int) (.slice A (n * n) c), .int .i64 0]) ∧ w'.ownsRow w.heap.size 3 1 (.slice A (n * n) c) (n * n) ((genK x 0).map iv) ∧ Below w.heap.size w w' := by
  have hidm : idM x.field x.data = (mkM m n n idm, 0) := by
    unfold idM
    rw [if_pos ⟨by rw [h.f]; exact vd_true (a := 0) h.fm (Nat.two_pow_pos m), by rw [h.d]; exact isz_nat (by have := h.wid; omega)⟩, h.fn, h.dn]
  have := ident_any x.field x.data w hT
  rw [hidm] at this
  refine this.mono ?_
  rintro e w' ⟨s, rfl, ho, hb⟩
  rw [mk_len] at ho
  obtain ⟨A, c, rfl, _, _⟩ := own_form ho
  exact ⟨A, c, rfl, by rw [genK_zero h]; exact ho, hb⟩
set_option maxHeartbeats 4000000 in
set_option maxRecDepth 100000 in
theorem generator_any (x : Cd) (A : Option Addr) (c : Nat) (w : World) (hT : Tabs w) (hx : CIn w x A) :
    Calls Tryd.prog 88 #[x.v A c] w (MRes w (genR x)) := by
  obtain ⟨W, hW⟩ : ∃ W, W = w.alloc (.cells (x.cs A c).toArray 24) := ⟨_, rfl⟩
  have hbw : Below w.heap.size w W := by rw [hW]; exact below_new w _
  have hWs : W.heap.size = w.heap.size + 1 := by rw [hW]; simp
  have HBC0 := show BC W w.heap.size x A c by rw [hW]; exact BC.new c hx
  obtain ⟨W2, hW2⟩ : ∃ W2, W2 = W.alloc (.cells (mtC 0 0 0 (.slice none 0 0)).toArray 98) := ⟨_, rfl⟩
  have hbw2 : Below w.heap.size w W2 := by rw [hW2]; exact la7 hbw
  have HB := hideIt hbw2
  have HBC := hideIt (show BC W2 w.heap.size x A c by rw [hW2]; exact HBC0.keep (below_new W _))
  have HPR := hideIt (show Blk W2 (w.heap.size + 1) 98 (mtC 0 0 0 (.slice none 0 0)) by rw [hW2, ← hWs]; exact Blk.new W 98 (mtC 0 0 0 (.slice none 0 0)))
  have HV := hideIt (evalid_any x A c W2 (hT.keep hbw2) HBC.out.cin)
  have hnot := not_b
  have HT := hideIt (hT.keep hbw2)
  have HPL := hideIt (show w.heap.size ≤ w.heap.size + 1 by omega)
  have HWE := hideIt (show W2 = (w.alloc (.cells (x.cs A c).toArray 24)).alloc (.cells (mtC 0 0 0 (.slice none 0 0)).toArray 98) by rw [hW2, hW])
  clear hbw hbw2 hT hx hW hW2 HBC0 hWs
  cases q1 : vC x with
  | true =>
    rw [q1] at HV
    obtain ⟨m, n, hvc⟩ := vC_spec q1
    have HR : Hid (genR x = (mkM m (n + x.par.length) n (gC x), 0)) := hideIt (by unfold genR genM; rw [if_pos q1, hvc.fn, hvc.dn])
    have HVC := hideIt hvc
    have HID := hideIt (fun W3 (h : Below W2.heap.size W2 W3) => ident_vc hvc W3 (HT.out.keep h))
    have hwid := hvc.wid
    have hpos := hvc.pos
    clear q1 hvc
    go_enter Tryd.func88, Tryd.ntmps88
    go_wp2_with (first
      | (go_at_call 60; rw [← HWE.out]; refine HV.out.mono ?_; rintro e w1 ⟨rfl, hb1⟩; have HB1 := hideIt hb1; have c1 := (HBC.out.keep hb1).c1; have c2 := (HBC.out.keep hb1).c2; clear hb1 HV)
      | (go_at_call 100; refine (HID.out _ HB1.out).mono ?_; rintro e w3 ⟨A3, c3', rfl, ho3, hb3⟩; have c3 := (HBC.out.keep ((HB1.out.trans (hb3.mono HB1.out.size)).alloc (Nat.le_trans HB1.out.size hb3.size) (.cells (mtC (m : Int) (n : Int) (n : Int) (.slice A3 (n * n) c3')).toArray 98))).c3; have HO3 := hideIt ho3; have HB3 := hideIt hb3; clear hb3 ho3 HID c1 c2))
    have HGI := hideIt (show GI x w1 w3.heap.size n m 0 _ _ from ⟨la7 HB3.out, Blk.new w3 98 (mtC (m : Int) (n : Int) (n : Int) (.slice A3 (n * n) c3')), World.ownsRow.alloc HO3.out _⟩)
    obtain ⟨p4, hp4⟩ : ∃ p, p = w3.heap.size := ⟨_, rfl⟩
    have HP4 := hideIt (show w1.heap.size ≤ p4 by rw [hp4]; exact HB3.out.size)
    rw [← hp4] at HGI ⊢
    clear c3 HO3 HB3 hp4
    go_loopg [23] x.par.length (fun g s23 wr => ∃ (k : Nat) (v : Value), k + g = x.par.length ∧ s23 = .int .i64 (k : Int) ∧ Aside (GI x w1 p4 n m k wr v))
    case atStart => exact ⟨0, _, by omega, rfl, HGI.out⟩
    case round =>
      obtain ⟨k, v, hk, rfl, HI⟩ := hrel
      obtain ⟨w4, rfl⟩ : ∃ x, x = wr := ⟨wr, rfl⟩
      obtain ⟨A5, c5, hv5, _, _⟩ := own_form HI.out.own
      subst hv5
      have HBC4 := hideIt (HBC.out.keep (HB1.out.trans (HI.out.low.mono HB1.out.size)))
      have HLW := hideIt HI.out.low
      have HBX := hideIt HI.out.box
      have HOW := hideIt HI.out.own
      clear HI
      by_cases hlt : k < x.par.length
      · obtain ⟨b, o, A', c', hA, hb, hcell, hsl⟩ := HBC4.out.cin.pm.row hlt
        have hll := (HVC.out.row _ (List.getElem_mem hlt)).1
        have HTK := hideIt (genK_next HVC.out hlt)
        subst hA
        have hinc := inc_c 3 k (by omega)
        have hinc2 := inc_c 3 (n + k) (by omega)
        have hji : (k : Int) < (x.par.length : Int) := by omega
        generalize x.par[k] = l at *
        obtain ⟨b2, o2, hA2, hb2, hc2⟩ := hsl.2 (by rw [List.length_map]; omega)
        subst hA2
        have HC2 := hideIt hc2
        have HLL := hideIt hll
        have c3 := HBX.out.cell 3
        have hnb : (n + k) * n + n ≤ 32 * 32 + 32 := by have : (n + k) * n ≤ 32 * 32 := Nat.mul_le_mul (by omega) (by omega); omega
        clear hsl hb hb2 hc2 hll
        change w4.cell? ⟨p4, 3, none⟩ = some (.slice A5 ((n + k) * n) c5) at c3
        go_wp2_with (first
          | ((with_reducible refine at_append ?_); refine wpList_apG (z := .int .i64 0) (size := 1) (bytes := 8) (n := (n + k) * n) (m := l.length) (news := l.map iv) Tryd.underlying36 (by kernel_rfl) rfl (by decide) (by decide) rfl (.tmp 28) (.tmp 29) rfl rfl HOW.out rfl (by rw [List.length_map, Nat.mul_one]) (fun j u h => by rw [addr_add]; exact HC2.out j u h) (iv_one l) (by have := HLL.out; omega) HLW.out.size ?_; intro v7 w7 HO7 HG7 HA7 HB7; have HBX7 := hideIt (HBX.out.grown HG7.out (own_ne HOW.out HBX.out (by decide))); have d3 := HBX7.out.cell 3; have d1 := HBX7.out.cell 1; have f3 := HBX7.out.free 3; have f1 := HBX7.out.free 1; obtain ⟨A7, c7, rfl, _, _⟩ := own_form HO7.out; change w7.cell? ⟨p4, 3, none⟩ = some (.slice A5 ((n + k) * n) c5) at d3; change w7.cell? ⟨p4, 1, none⟩ = some (.int .i64 ((n + k : Nat) : Int)) at d1))
        go_roundg (gk - 1)
        case measure => omega
        case rel =>
          refine ⟨k + 1, .slice A7 ((n + k) * n + l.length) c7, by omega, by go_num, ?_, ?_, ?_⟩
          · exact below_set (below_set (HLW.out.trans HB7.out) HP4.out _ _) HP4.out _ _
          · have := (HBX7.out.store 3 (.slice A7 ((n + k) * n + l.length) c7)).store 1 (.int .i64 ((n + k + 1 : Nat) : Int))
            exact this
          · refine own_set (own_set ?_ HBX7.out (by decide) _ _) (HBX7.out.store 3 _) (by decide) _ _
            have := HO7.out
            rw [HLL.out] at this ⊢
            rw [HTK.out, List.map_append, ← Nat.add_assoc n k 1, Nat.add_mul (n + k) 1 n, Nat.one_mul]
            exact this
      · have hji : ¬ (k : Int) < (x.par.length : Int) := by omega
        have hke : k = x.par.length := by omega
        have HKE := hideIt hke
        have HPR4 := hideIt (HPR.out.kept (HB1.out.trans (HLW.out.mono HB1.out.size)) HPR.out.lt)
        clear hke
        go_wp2_with (first
          | ((with_reducible refine at_load ?_); refine wpList_ldM rfl (.tmp 4) rfl p4 _ _ _ _ rfl HBX.out ?_)
          | ((with_reducible refine at_store ?_); refine wpList_stM rfl (.tmp 2) (.tmp 37) rfl (w.heap.size + 1) _ _ _ _ _ _ _ _ rfl rfl rfl HPR4.out ?_; intro w8 HT8 HB8))
        refine bodyPost_ret (results_two rfl _ _ (w.heap.size + 1) _ _ _ rfl HB8.out Tryd.underlying98 rfl isz4) rfl ?_
        rw [HR.out, ← HKE.out]
        refine ⟨.slice A5 ((n + k) * n) c5, rfl, ?_, HT8.out.below (HB.out.trans ((HB1.out.trans (HLW.out.mono HB1.out.size)).mono HB.out.size)) HPL.out⟩
        show w8.ownsRow _ _ _ _ (mkM m (n + k) n (gC x)).l.length ((mkM m (n + k) n (gC x)).l.map iv)
        rw [mk_len]
        have h9 := own_base (own_turned HOW.out HPR4.out (by decide) HT8.out) (Nat.le_trans HB.out.size HB1.out.size)
        unfold genK at h9
        rw [HVC.out.dn] at h9
        exact h9
  | false =>
    rw [q1] at HV
    have HR : Hid (genR x = (zeroM, 1)) := hideIt (by unfold genR; rw [if_neg (by rw [q1]; decide)])
    clear q1
    go_enter Tryd.func88, Tryd.ntmps88
    go_wp2_with (first
      | (go_at_call 60; rw [← HWE.out]; refine HV.out.mono ?_; rintro e w1 ⟨rfl, hb1⟩; have HB1 := hideIt hb1; have HPR1 := hideIt (HPR.out.kept hb1 HPR.out.lt); clear hb1 HV)
      | ((with_reducible refine at_store ?_); refine wpList_stM rfl (.tmp 2) (.tmp 11) rfl (w.heap.size + 1) 0 0 0 0 0 0 (.slice none 0 0) (.slice none 0 0) rfl rfl rfl HPR1.out ?_; intro w8 HT8 HB8))
    refine bodyPost_ret (results_two rfl _ _ (w.heap.size + 1) _ _ _ rfl HB8.out Tryd.underlying98 rfl isz4) rfl ?_
    rw [HR.out]
    exact MRes.bad (HT8.out.below (HB.out.trans (HB1.out.mono HB.out.size)) HPL.out) 1
end

section
open Go.RowKit
set_option linter.unusedVariables false
set_option linter.unusedSimpArgs false
abbrev baC (F R C : Int) (g u r p : Value) : List Value := [.int .i64 F, .int .i64 R, .int .i64 C, g, u, r, p]
abbrev baV (F R C : Int) (g u r p : Value) : Value := .agg #[.int .i64 F, .int .i64 R, .int .i64 C, g, u, r, p]
/-- The reduced rows as lists. -/
def rowsL (n : Nat) (Q : Mx) (p : Nat) : List (List Int) := (List.range p).map fun i => nl (2 * n) (Q i)
theorem rowsL_len (n : Nat) (Q : Mx) (p : Nat) : (rowsL n Q p).length = p := by simp [rowsL]
theorem rowsL_at (n : Nat) (Q : Mx) (p i : Nat) (h : i < (rowsL n Q p).length) : (rowsL n Q p)[i] = nl (2 * n) (Q i) := by simp [rowsL]
/-- A basis, to read: its cells and what they point at. -/
structure BaM (W : World) (x : Cd) (m n : Nat) (B pv : List Nat) (Q : Mx) (gA uA rA pA : Option Addr) : Prop where
  gen : Sl W W.heap.size gA 1 ((n + x.par.length) * n) ((genK x x.par.length).map iv)
  uni : Sl W W.heap.size uA 1 B.length (pvC B)
  row : PM W W.heap.size rA (rowsL n Q B.length)
  piv : Sl W W.heap.size pA 1 pv.length (pvC pv)
section
variable {W W' : World} {x : Cd} {m n : Nat} {B pv : List Nat} {Q : Mx} {gA uA rA pA : Option Addr}
theorem BaM.keep (h : BaM W x m n B pv Q gA uA rA pA) (hb : Below W.heap.size W W') : BaM W' x m n B pv Q gA uA rA pA :=
  ⟨(h.gen.below hb).wide hb.size, (h.uni.below hb).wide hb.size, (h.row.below hb).wide hb.size, (h.piv.below hb).wide hb.size⟩
end
set_option maxHeartbeats 1000000 in
theorem isFull_any (pb : Nat) (m R n p : Nat) (g r v : Value) (A : Option Addr) (c : Nat) (w : World) (hb : Blk w pb 100 (baC (m : Int) (R : Int) (n : Int) g (.slice A p c) r v)) :
    Calls Tryd.prog 89 #[.pointer (some ⟨pb, 0, none⟩)] w fun e w' => e = .returned (.bool (decide (p = n))) ∧ Below w.heap.size w w' := by
  have c2 : w.cell? ⟨pb, 2, none⟩ = some (.int .i64 (n : Int)) := hb.cell 2
  have c4 : w.cell? ⟨pb, 4, none⟩ = some (.slice A p c) := hb.cell 4
  have hq := i_eql 3 .i64 (p : Int) (n : Int)
  rw [show decide ((p : Int) = (n : Int)) = decide (p = n) from decide_eq_decide.2 (by omega)] at hq
  clear hb
  generalize decide (p = n) = b at *
  go_enter Tryd.func89, Tryd.ntmps89
  go_wp2_with fail
  go_quiet (fail)
  go_wp2_with fail
  go_ret
  exact ⟨rfl, below_drewN (Below.refl _ _) _⟩
def adK (m f : Nat) (r t : Nat → Nat) (k : Nat) : Nat → Nat := fun i => if i < k then r i ^^^ mul m f (t i) else r i
theorem adK_next (m f : Nat) (r t : Nat → Nat) (k : Nat) : (fun i => if i = k then r k ^^^ mul m f (t k) else adK m f r t k i) = adK m f r t (k + 1) := by
  funext i
  unfold adK
  by_cases h : i = k
  · subst h; rw [if_pos rfl, if_pos (by omega)]
  · rw [if_neg h]
    by_cases h2 : i < k
    · rw [if_pos h2, if_pos (by omega)]
    · rw [if_neg h2, if_neg (by omega)]
theorem Turned.refl (g : Nat) (w : World) : Turned g w w := ⟨rfl, rfl, rfl, rfl, fun _ _ => rfl⟩
theorem Turned.trans {g : Nat} {a b c : World} (h : Turned g a b) (k : Turned g b c) : Turned g a c := ⟨k.os.trans h.os, k.tape.trans h.tape, k.output.trans h.output, k.size.trans h.size, fun i hi => (k.block i hi).trans (h.block i hi)⟩
theorem Turned.drewN (g : Nat) (w : World) (n : Nat) : Turned g w (w.drewN n) := ⟨rfl, rfl, rfl, rfl, fun _ _ => rfl⟩
theorem Turned.set (g : Nat) (w : World) (i : Nat) (u : Value) : Turned g w (w.setCell ⟨g, i, none⟩ u) := ⟨rfl, rfl, rfl, by simp [World.setCell], fun k hk => heap_setCell_other _ _ _ _ hk⟩
set_option maxHeartbeats 4000000 in
set_option maxRecDepth 100000 in
theorem radd_anyL (m f q : Nat) (hm : Fm m) (hf : f < 2 ^ m) (hq : q ≤ 1000) (r t : Nat → Nat) (hr : Vv m r) (ht : Vv m t) (A : Option Addr) (ca pm pr g : Nat) (w : World) (hT : Tabs w)
    (hs : Sl w w.heap.size A 1 q ((nl q t).map iv)) (hne : ∀ b o, A = some ⟨b, o, none⟩ → b ≠ g) (hpm : Blk w pm 3 [.int .i64 (m : Int)]) (hpr : Blk w pr 36 [.slice (some ⟨g, 0, none⟩) q q]) (hg : Blk w g 3 ((nl q r).map iv)) (hmg : pm ≠ g) (hrg : pr ≠ g) (hTg : 0 ≠ g) :
    Calls Tryd.prog 101 #[.slice A q ca, .int .i64 (f : Int), .pointer (some ⟨pm, 0, none⟩), .pointer (some ⟨pr, 0, none⟩)] w fun e w' => e = .returned (.tuple #[]) ∧ Blk w' g 3 ((nl q fun j => r j ^^^ mul m f (t j)).map iv) ∧ Turned g w w' := by
  have HS := hideIt hs
  have HT := hideIt hT
  have HM := hideIt hpm
  have HP := hideIt hpr
  have HG := hideIt hg
  have HNE := hideIt hne
  have HTG := hideIt hTg
  have HTV := hideIt ht
  have HRV := hideIt hr
  have HFM := hideIt hm
  have HF := hideIt hf
  have HMG := hideIt hmg
  have HRG := hideIt hrg
  clear hT hs hpm hpr hg hne hTg ht hr hm hf hmg hrg
  go_enter Tryd.func101, Tryd.ntmps101
  go_wp2_with fail
  go_loopg [12] q (fun gk s12 wr => ∃ j : Nat, j + gk = q ∧ s12 = .int .i64 (j : Int) ∧ Aside (Turned g w wr ∧ Blk wr g 3 ((nl q (adK m f r t j)).map iv)))
  case atStart => exact ⟨0, by omega, rfl, Turned.refl _ _, by have := HG.out; rwa [show nl q (adK m f r t 0) = nl q r from nl_congr fun k _ => by unfold adK; rw [if_neg (by omega)]]⟩
  case round =>
    obtain ⟨j, hj, rfl, HI⟩ := hrel
    obtain ⟨w2, rfl⟩ : ∃ x, x = wr := ⟨wr, rfl⟩
    by_cases hlt : j < q
    · have hbw : Below w.heap.size w w2 ∨ True := .inr trivial
      obtain ⟨b, o, u, hA, hb, hu, hc⟩ := HS.out.at_ hlt
      rw [iv_at hlt] at hu
      injection hu with hu
      subst hu
      subst hA
      have hct := (HI.out.1.cell (o := o + j) (HNE.out b o rfl)).trans hc
      have hcm := (HI.out.1.blk HM.out HMG.out).cell 0
      change w2.cell? ⟨pm, 0, none⟩ = some (.int .i64 (m : Int)) at hcm
      have hcr := (HI.out.1.blk HP.out HRG.out).cell 0
      change w2.cell? ⟨pr, 0, none⟩ = some (.slice (some ⟨g, 0, none⟩) q q) at hcr
      have hcg := HI.out.2.cell j
      rw [iv_at hlt, show adK m f r t j j = r j by unfold adK; rw [if_neg (by omega)]] at hcg
      have hfr := HI.out.2.free j
      have hTr : Tabs w2 := ⟨by have := HT.out.lo; rw [HI.out.1.size]; exact this, fun i hi => (HI.out.1.cell HTG.out).trans (HT.out.tab i hi)⟩
      have HTR := hideIt hTr
      have HMU := hideIt (fmul_is hTr HFM.out HF.out (HTV.out j) 0)
      have HAD := hideIt (fun W h k => fadd_is (w := W) h HFM.out (HRV.out j) (mul_lt HFM.out (t j) HF.out) k)
      have HI2 := hideIt HI.out
      have HNX := hideIt (adK_next m f r t j)
      have hinc := inc_c 3 j (by omega)
      have hji : (j : Int) < (q : Int) := by omega
      clear hTr HI hbw hb hc
      obtain ⟨y, hy⟩ : ∃ y, y = mul m f (t j) := ⟨_, rfl⟩
      rw [← hy] at HMU HAD HNX
      clear hy
      generalize hz : r j = z at *
      generalize t j = tj at *
      clear hz
      go_wp2_with (first
        | (go_at_call 102; refine HMU.out.mono ?_; rintro e w3 ⟨rfl, k1, rfl⟩))
      obtain ⟨w3, hw3⟩ : ∃ W, W = w2.drewN k1 := ⟨_, rfl⟩
      have H3 := hideIt (show Turned g w w3 ∧ Blk w3 g 3 ((nl q (adK m f r t j)).map iv) ∧ Tabs w3 by rw [hw3]; exact ⟨HI2.out.1.trans (Turned.drewN g w2 k1), HI2.out.2, HTR.out.drewN k1⟩)
      have ccm : w3.cell? ⟨pm, 0, none⟩ = some (.int .i64 (m : Int)) := by rw [hw3]; exact hcm
      have ccr : w3.cell? ⟨pr, 0, none⟩ = some (.slice (some ⟨g, 0, none⟩) q q) := by rw [hw3]; exact hcr
      have ccg : w3.cell? ⟨g, j, none⟩ = some (.int .i64 (z : Int)) := by rw [hw3]; exact hcg
      have cfr : w3.frozen? ⟨g, j, none⟩ = false := by rw [hw3]; exact hfr
      rw [← hw3]
      clear hw3 hcm hcr hcg hfr hct HMU HI2 HTR
      refine loads_begin_n 14 [(13, fun W => W.cell? ⟨pr, 0, none⟩ = some (.slice (some ⟨g, 0, none⟩) q q)), (13, fun W => W.cell? ⟨pm, 0, none⟩ = some (.int .i64 (m : Int))), (13, fun W => W.cell? ⟨g, j, none⟩ = some (.int .i64 (z : Int)))] rfl (by kernel_rfl) ?_
      refine wpAnyL_take (oi := ⟨some 25, _, _, _, _, _⟩) 0 13 (.slice (some ⟨g, 0, none⟩) q q) _ rfl (by kernel_rfl) (by kernel_rfl) (by kernel_rfl) (by kernel_rfl) (by kernel_rfl) (by kernel_rfl) (.head _) (fun _ _ _ h => h) (by kernel_rfl) (fun W' hW' => by (try dsimp only at hW'); go_simp) (by first | exact Hooks.add ccr (Hooks.add ccm (Hooks.add ccg (Hooks.nil _ _))) | exact HQ.out _ _) ?_
      try simp only [Act.put]
      try simp only [List.setIfInBounds_toArray]
      try simp only [List.set_cons_succ]
      try simp only [List.set_cons_zero]
      refine wpAnyL_move (oi := ⟨some 26, _, _, _, _, _⟩) 1 ?_ rfl (by kernel_rfl) (by kernel_rfl) (by kernel_rfl) (by kernel_rfl) (fun _ _ _ h => h) (by kernel_rfl) ?_ ((by first | exact Hooks.add ccr (Hooks.add ccm (Hooks.add ccg (Hooks.nil _ _))) | exact HQ.out _ _)) ?_
      rotate_left
      · intro W'; go_simp; first | done | with_reducible rfl
      try simp only [Act.put]
      try simp only [List.setIfInBounds_toArray]
      try simp only [List.set_cons_succ]
      try simp only [List.set_cons_zero]
      refine wpAnyL_take (oi := ⟨some 27, _, _, _, _, _⟩) 2 13 (.int .i64 (m : Int)) _ rfl (by kernel_rfl) (by kernel_rfl) (by kernel_rfl) (by kernel_rfl) (by kernel_rfl) (by kernel_rfl) (.tail _ (.head _)) (fun _ _ _ h => h) (by kernel_rfl) (fun W' hW' => by (try dsimp only at hW'); go_simp) (by first | exact Hooks.add ccr (Hooks.add ccm (Hooks.add ccg (Hooks.nil _ _))) | exact HQ.out _ _) ?_
      try simp only [Act.put]
      try simp only [List.setIfInBounds_toArray]
      try simp only [List.set_cons_succ]
      try simp only [List.set_cons_zero]
      refine wpAnyL_take (oi := ⟨some 28, _, _, _, _, _⟩) 3 13 (.slice (some ⟨g, 0, none⟩) q q) _ rfl (by kernel_rfl) (by kernel_rfl) (by kernel_rfl) (by kernel_rfl) (by kernel_rfl) (by kernel_rfl) (.head _) (fun _ _ _ h => h) (by kernel_rfl) (fun W' hW' => by (try dsimp only at hW'); go_simp) (by first | exact Hooks.add ccr (Hooks.add ccm (Hooks.add ccg (Hooks.nil _ _))) | exact HQ.out _ _) ?_
      try simp only [Act.put]
      try simp only [List.setIfInBounds_toArray]
      try simp only [List.set_cons_succ]
      try simp only [List.set_cons_zero]
      refine wpAnyL_move (oi := ⟨some 29, _, _, _, _, _⟩) 4 ?_ rfl (by kernel_rfl) (by kernel_rfl) (by kernel_rfl) (by kernel_rfl) (fun _ _ _ h => h) (by kernel_rfl) ?_ ((by first | exact Hooks.add ccr (Hooks.add ccm (Hooks.add ccg (Hooks.nil _ _))) | exact HQ.out _ _)) ?_
      rotate_left
      · intro W'; go_simp; first | done | with_reducible rfl
      try simp only [Act.put]
      try simp only [List.setIfInBounds_toArray]
      try simp only [List.set_cons_succ]
      try simp only [List.set_cons_zero]
      refine wpAnyL_move (oi := ⟨some 30, _, _, _, _, _⟩) 5 ?_ rfl (by kernel_rfl) (by kernel_rfl) (by kernel_rfl) (by kernel_rfl) (fun _ _ _ h => h) (by kernel_rfl) ?_ ((by first | exact Hooks.add ccr (Hooks.add ccm (Hooks.add ccg (Hooks.nil _ _))) | exact HQ.out _ _)) ?_
      rotate_left
      · intro W'; go_simp; first | done | with_reducible rfl
      try simp only [Act.put]
      try simp only [List.setIfInBounds_toArray]
      try simp only [List.set_cons_succ]
      try simp only [List.set_cons_zero]
      refine wpAnyL_take (oi := ⟨some 31, _, _, _, _, _⟩) 6 13 (.int .i64 (z : Int)) _ rfl (by kernel_rfl) (by kernel_rfl) (by kernel_rfl) (by kernel_rfl) (by kernel_rfl) (by kernel_rfl) (.tail _ (.tail _ (.head _))) (fun _ _ _ h => h) (by kernel_rfl) (fun W' hW' => by (try dsimp only at hW'); go_simp) (by first | exact Hooks.add ccr (Hooks.add ccm (Hooks.add ccg (Hooks.nil _ _))) | exact HQ.out _ _) ?_
      try simp only [Act.put]
      try simp only [List.setIfInBounds_toArray]
      try simp only [List.set_cons_succ]
      try simp only [List.set_cons_zero]
      refine wpAnyL_move (oi := ⟨some 32, _, _, _, _, _⟩) 7 ?_ rfl (by kernel_rfl) (by kernel_rfl) (by kernel_rfl) (by kernel_rfl) (fun _ _ _ h => h) (by kernel_rfl) ?_ ((by first | exact Hooks.add ccr (Hooks.add ccm (Hooks.add ccg (Hooks.nil _ _))) | exact HQ.out _ _)) ?_
      rotate_left
      · intro W'; go_simp; first | done | with_reducible rfl
      try simp only [Act.put]
      try simp only [List.setIfInBounds_toArray]
      try simp only [List.set_cons_succ]
      try simp only [List.set_cons_zero]
      obtain ⟨w4, hw4⟩ : ∃ W, W = w3.drew := ⟨_, rfl⟩
      have H4 := hideIt (show Turned g w w4 ∧ Blk w4 g 3 ((nl q (adK m f r t j)).map iv) ∧ Tabs w4 by rw [hw4]; exact ⟨H3.out.1.trans (Turned.drewN g w3 1), H3.out.2.1, H3.out.2.2.drewN 1⟩)
      have HQ : Hid (∀ bb n, Hooks [(13, fun W => W.cell? ⟨pr, 0, none⟩ = some (.slice (some ⟨g, 0, none⟩) q q)), (13, fun W => W.cell? ⟨pm, 0, none⟩ = some (.int .i64 (m : Int))), (13, fun W => W.cell? ⟨g, j, none⟩ = some (.int .i64 (z : Int)))] bb (w4.drewN n)) := hideIt (fun bb n => by rw [hw4]; exact Hooks.add ccr (Hooks.add ccm (Hooks.add ccg (Hooks.nil _ _))))
      have dfr : ∀ n, (w4.drewN n).frozen? ⟨g, j, none⟩ = false := fun n => by rw [hw4]; exact cfr
      have dcg : ∀ n, (w4.drewN n).cell? ⟨g, j, none⟩ = some (.int .i64 (z : Int)) := fun n => by rw [hw4]; exact ccg
      rw [← hw4]
      clear hw4 ccm ccr ccg cfr H3
      refine wpAnyL_one (o := ⟨some 33, _, _, _, _, _⟩) 8 (by kernel_rfl) rfl (fun K hK => ?_)
      go_wp2_with (first
        | (go_at_call 103; refine (HAD.out w4 H4.out.2.2 0).mono ?_; rintro e w5 ⟨rfl, k5, rfl⟩))
      refine hK _ _ (HQ.out _ _) ?_
      clear hK K
      refine wpAnyL_move (oi := ⟨some 24, _, _, _, _, _⟩) 9 ?_ rfl (by kernel_rfl) (by kernel_rfl) (by kernel_rfl) (by kernel_rfl) (fun _ _ _ h => h) (by kernel_rfl) ?_ ((by first | exact Hooks.add ccr (Hooks.add ccm (Hooks.add ccg (Hooks.nil _ _))) | exact HQ.out _ _)) ?_
      rotate_left
      · intro W'; go_simp; first | done | with_reducible rfl
      try simp only [Act.put]
      try simp only [List.setIfInBounds_toArray]
      try simp only [List.set_cons_succ]
      try simp only [List.set_cons_zero]
      refine wpAnyL_move (oi := ⟨some 34, _, _, _, _, _⟩) 10 ?_ rfl (by kernel_rfl) (by kernel_rfl) (by kernel_rfl) (by kernel_rfl) (fun _ _ _ h => h) (by kernel_rfl) ?_ ((by first | exact Hooks.add ccr (Hooks.add ccm (Hooks.add ccg (Hooks.nil _ _))) | exact HQ.out _ _)) ?_
      rotate_left
      · intro W'; go_simp; first | done | with_reducible rfl
      try simp only [Act.put]
      try simp only [List.setIfInBounds_toArray]
      try simp only [List.set_cons_succ]
      try simp only [List.set_cons_zero]
      refine wpAnyL_move (oi := ⟨some 35, _, _, _, _, _⟩) 11 ?_ rfl (by kernel_rfl) (by kernel_rfl) (by kernel_rfl) (by kernel_rfl) (fun _ _ _ h => h) (by kernel_rfl) ?_ ((by first | exact Hooks.add ccr (Hooks.add ccm (Hooks.add ccg (Hooks.nil _ _))) | exact HQ.out _ _)) ?_
      rotate_left
      · intro W'; go_simp; first | done | with_reducible rfl
      try simp only [Act.put]
      try simp only [List.setIfInBounds_toArray]
      try simp only [List.set_cons_succ]
      try simp only [List.set_cons_zero]
      refine wpAnyL_move (oi := ⟨some 36, _, _, _, _, _⟩) 12 ?_ rfl (by kernel_rfl) (by kernel_rfl) (by kernel_rfl) (by kernel_rfl) (fun _ _ _ h => h) (by kernel_rfl) ?_ ((by first | exact Hooks.add ccr (Hooks.add ccm (Hooks.add ccg (Hooks.nil _ _))) | exact HQ.out _ _)) ?_
      rotate_left
      · intro W'; go_simp; first | done | with_reducible rfl
      try simp only [Act.put]
      try simp only [List.setIfInBounds_toArray]
      try simp only [List.set_cons_succ]
      try simp only [List.set_cons_zero]
      refine loads_tail 13 (by kernel_rfl) (by kernel_rfl) (by kernel_rfl) (by kernel_rfl) ?_
      simp only [List.drop_succ_cons, List.drop_zero]
      have e1 := dfr k5
      have e2 := dcg k5
      go_wp2_with fail
      go_roundg (gk - 1)
      case measure => omega
      case rel =>
        refine ⟨j + 1, by omega, by go_num, (H4.out.1.trans (Turned.drewN g w4 k5)).trans (Turned.set g _ j _), ?_⟩
        have hs := Blk.store (w := w4.drewN k5) (show Blk (w4.drewN k5) g 3 ((nl q (adK m f r t j)).map iv) from H4.out.2.1) j (.int .i64 ((z ^^^ y : Nat) : Int))
        rw [set_nl _ j _ hlt, HNX.out] at hs
        exact hs
    · obtain rfl : j = q := by omega
      have hji : ¬ (j : Int) < (j : Int) := by omega
      have HI2 := hideIt HI.out
      clear HI
      go_wp2_with fail
      go_end0
      exact ⟨rfl, by have := HI2.out.2; rwa [show nl j (adK m f r t j) = nl j (fun i => r i ^^^ mul m f (t i)) from nl_congr fun k hk => by unfold adK; rw [if_pos hk]] at this, HI2.out.1⟩
end

section
open Go.RowKit
set_option linter.unusedVariables false
set_option linter.unusedSimpArgs false
/-- copy of n numbers to the front of zeros. -/
theorem wpList_cp2 {w : World} {ops : Array Oper} {rest : List Oper} {o : Oper} {a : Act} {Q : Exit → Act → World → Prop} (hgd : o.guard = none) (d s : Operand) (ho : o.op = .call { callee := .builtin .copy, args := #[d, s], argTypes := #[36, 36] })
    {g n k dCap sCap : Nat} {S : Option Addr} {B : Nat} {f : Nat → Nat} (hd : a.eval d = .slice (some ⟨g, 0, none⟩) (n + k) dCap) (hs : a.eval s = .slice S n sCap) (hn : 0 < n) (hg : Blk w g 3 ((nl (n + k) fun _ => 0).map iv)) (hS : Sl w B S 1 n ((nl n f).map iv))
    (h : ∀ w', Hid (Blk w' g 3 ((nl (n + k) (pad n f)).map iv)) → Hid (Turned g w w') → wpList Tryd.prog ops Q rest (a.put o.dst (goInt n)) w') : wpList Tryd.prog ops Q (o :: rest) a w := by
  obtain ⟨b, so, rfl, hb, hc⟩ := hS.2 (by rw [List.length_map, nl_len]; exact hn)
  have hl : ((nl n f).map iv).length = n := by rw [List.length_map, nl_len]
  have e : (((nl (n + k) fun _ => 0).map iv).toArray.toList.take 0 ++ ((nl n f).map iv ++ ((nl (n + k) fun _ => 0).map iv).toArray.toList.drop (0 + ((nl n f).map iv).length))) = (nl (n + k) (pad n f)).map iv := by
    rw [hl]
    refine List.ext_getElem? fun j => ?_
    simp only [List.take_zero, List.nil_append, Nat.zero_add]
    by_cases hj : j < n
    · rw [List.getElem?_append_left (by rw [hl]; exact hj), iv_at hj, iv_at (by omega)]
      unfold pad; rw [if_pos hj]
    · rw [List.getElem?_append_right (by rw [hl]; omega), hl, List.getElem?_drop]
      by_cases hk : j < n + k
      · rw [show n + (j - n) = j by omega, iv_at hk, iv_at hk]
        unfold pad; rw [if_neg hj]
      · rw [List.getElem?_eq_none (by simp [nl_len]; omega), List.getElem?_eq_none (by simp [nl_len]; omega)]
  refine wpList_copy_own hgd d s 36 36 ho 3 Tryd.underlying36 (by kernel_rfl) g 0 (n + k) dCap ⟨b, so, none⟩ n sCap hd hs ((nl (n + k) fun _ => 0).map iv).toArray 3 hg ((nl n f).map iv) (by rw [hl]; exact (Nat.min_eq_left (by omega)).symm) (fun j v hj => by rw [addr_add]; exact hc j v hj) (by rw [hl]; simp [nl_len]) (iv_one _) ?_
  rw [e, hl]
  exact h _ (Blk.row hg _) (Turned.row w g _)
theorem gen_row {x : Cd} {m n : Nat} (h : VC x m n) {u : Nat} (hu : u < n + x.par.length) : (((genK x x.par.length).map iv).drop (u * n)).take n = (nl n (gC x u)).map iv := by
  unfold genK
  rw [h.dn]
  have hle : u * n + n ≤ (n + x.par.length) * n := by
    have : (u + 1) * n ≤ (n + x.par.length) * n := Nat.mul_le_mul_right _ hu
    rw [Nat.add_mul, Nat.one_mul] at this; exact this
  refine List.ext_getElem? fun j => ?_
  by_cases hj : j < n
  · rw [List.getElem?_take, if_pos hj, List.getElem?_drop, iv_at (by omega), iv_at hj, ix_div hj, ix_mod hj]
  · rw [List.getElem?_eq_none (by simp; omega), List.getElem?_eq_none (by simp [nl_len]; omega)]
set_option maxHeartbeats 4000000 in
set_option maxRecDepth 100000 in
theorem reduced_any {x : Cd} {m n : Nat} (hvc : VC x m n) {B pv : List Nat} {Q : Mx} (hR : Rdc m n (gC x) B pv Q) (hBn : B.length ≤ n) (u : Nat) (hu : u < n + x.par.length) (pb : Nat) {gA uA rA pA : Option Addr} {gc uc rc pc : Nat} (hgc : (n + x.par.length) * n ≤ gc) (w : World) (hT : Tabs w)
    (hb : Blk w pb 100 (baC (m : Int) ((n + x.par.length : Nat) : Int) (n : Int) (.slice gA ((n + x.par.length) * n) gc) (.slice uA B.length uc) (.slice rA B.length rc) (.slice pA pv.length pc))) (hM : BaM w x m n B pv Q gA uA rA pA) :
    Calls Tryd.prog 90 #[.pointer (some ⟨pb, 0, none⟩), .int .i64 (u : Int)] w fun e w' => ∃ g, e = .returned (.slice (some ⟨g, 0, none⟩) (n + n) (n + n)) ∧ w.heap.size ≤ g ∧ Blk w' g 3 ((nl (n + n) (rd m Q pv (pad n (gC x u)) B.length)).map iv) ∧ Below w.heap.size w w' := by
  have c0 : w.cell? ⟨pb, 0, none⟩ = some (.int .i64 (m : Int)) := hb.cell 0
  have c2 : w.cell? ⟨pb, 2, none⟩ = some (.int .i64 (n : Int)) := hb.cell 2
  have HB := hideIt hb
  have HM := hideIt hM
  have HT := hideIt hT
  have HVC := hideIt hvc
  have HR := hideIt hR
  have hpos := hvc.pos
  have hwid := hvc.wid
  have hmul2 : binOp .mul 3 (.int .i64 2) (.int .i64 (n : Int)) = pure (.int .i64 ((n + n : Nat) : Int)) := by
    have := nmul 3 2 n (by omega)
    rw [show 2 * n = n + n by omega] at this
    exact this
  have hpl := hb.lt
  clear hb hM hT hvc hR
  go_enter Tryd.func90, Tryd.ntmps90
  go_wp2_with fail
  go_region
  obtain ⟨W1, hW1⟩ : ∃ W, W = (w.alloc (.cells #[.int .i64 (m : Int)] 3)).drew := ⟨_, rfl⟩
  have HB1 := hideIt (show Below w.heap.size w W1 by rw [hW1]; exact (below_new w _).drew)
  have HPM1 := hideIt (show Blk W1 w.heap.size 3 [.int .i64 (m : Int)] by rw [hW1]; exact Blk.new w 3 [.int .i64 (m : Int)])
  have HZ1 := hideIt (show W1.heap.size = w.heap.size + 1 by rw [hW1]; show (w.alloc _).heap.size = _; simp)
  rw [← hW1]
  clear hW1 c0 c2
  go_wp2_with (first
    | ((with_reducible refine at_make ?_); refine wpList_zeros _ rfl (.tmp 23) (.tmp 23) rfl (n + n) rfl rfl (by omega) ?_; intro w2 HB2 HW2))
  obtain ⟨g, hg⟩ : ∃ g, g = W1.heap.size := ⟨_, rfl⟩
  obtain ⟨pr, hpr⟩ : ∃ p, p = w2.heap.size := ⟨_, rfl⟩
  obtain ⟨W3, hW3⟩ : ∃ W, W = w2.alloc (.cells #[.slice (some ⟨g, 0, none⟩) (n + n) (n + n)] 36) := ⟨_, rfl⟩
  have HB3 := hideIt (show Below w.heap.size w W3 by rw [hW3]; exact la7 (HB1.out.trans (HW2.out.mono HB1.out.size)))
  have HPM3 := hideIt (show Blk W3 w.heap.size 3 [.int .i64 (m : Int)] by rw [hW3]; exact (HPM1.out.kept HW2.out HPM1.out.lt).alloc _)
  have HG3 := hideIt (show Blk W3 g 3 ((nl (n + n) fun _ => 0).map iv) by rw [hW3, hg]; exact HB2.out.alloc _)
  have HPR3 := hideIt (show Blk W3 pr 36 [.slice (some ⟨g, 0, none⟩) (n + n) (n + n)] by rw [hW3, hpr]; exact Blk.new w2 36 [.slice (some ⟨g, 0, none⟩) (n + n) (n + n)])
  have HPG := hideIt (show w.heap.size ≠ g by rw [hg, HZ1.out]; omega)
  have HRG := hideIt (show pr ≠ g by have := HB2.out.lt; omega)
  have HGL := hideIt (show w.heap.size ≤ g by rw [hg]; exact HB1.out.size)
  rw [← hg, ← hpr, ← hW3]
  clear hg hpr hW3 HB1 HPM1 HZ1 HB2 HW2
  have c0 := HPR3.out.cell 0
  change W3.cell? ⟨pr, 0, none⟩ = some (.slice (some ⟨g, 0, none⟩) (n + n) (n + n)) at c0
  have c3 : W3.cell? ⟨pb, 3, none⟩ = some (.slice gA ((n + x.par.length) * n) gc) := (HB.out.kept HB3.out HB.out.lt).cell 3
  have hle : (u + 1) * n ≤ (n + x.par.length) * n := Nat.mul_le_mul_right _ hu
  have hle2 : (n + x.par.length) * n ≤ 32 * 32 := Nat.mul_le_mul (by omega) (by omega)
  have hun : (u + 1) * n = u * n + n := by rw [Nat.add_mul, Nat.one_mul]
  have hm1 := nmul 3 u n (by omega)
  have hm2 : binOp .mul 3 (.int .i64 ((u : Int) + 1)) (.int .i64 (n : Int)) = pure (.int .i64 (((u + 1) * n : Nat) : Int)) := nmul 3 (u + 1) n (by omega)
  have hi1 := inc_c 3 u (by omega)
  have hcut := fun W => cut_is gA (n := (n + x.par.length) * n) (c := gc) (p := u * n) (q := (u + 1) * n) (by omega) hle hgc W
  rw [show (u + 1) * n - u * n = n by omega] at hcut
  have HS := hideIt (show Sl w w.heap.size (rowA gA gc (u * n)) 1 n ((nl n (gC x u)).map iv) by
    have := sl_row HM.out.gen (p := u * n) (q := (u + 1) * n) (by omega) hle hgc
    rw [show (u + 1) * n - u * n = n by omega, gen_row HVC.out hu] at this
    exact this)
  generalize (n + x.par.length) * n = gn at *
  generalize u * n = un at *
  generalize hun1 : (u + 1) * n = un1 at *
  generalize hga : rowA gA gc un = rA0 at *
  clear hga hun1 hun hle hle2
  refine still_tail 14 (by kernel_rfl) (by kernel_rfl) ?_
  intro w4 hw4
  have d0 : w4.cell? ⟨pr, 0, none⟩ = some (.slice (some ⟨g, 0, none⟩) (n + n) (n + n)) := by rw [hw4]; exact c0
  have d3 : w4.cell? ⟨pb, 3, none⟩ = some (.slice gA gn gc) := by rw [hw4]; exact c3
  have H4 := hideIt (show Below w.heap.size w w4 ∧ Blk w4 w.heap.size 3 [.int .i64 (m : Int)] ∧ Blk w4 g 3 ((nl (n + n) fun _ => 0).map iv) ∧ Blk w4 pr 36 [.slice (some ⟨g, 0, none⟩) (n + n) (n + n)] by rw [hw4]; exact ⟨HB3.out.drew, HPM3.out, HG3.out, HPR3.out⟩)
  clear c0 c3 HB3 HPM3 HG3 HPR3 hw4
  simp only [List.take_succ_cons, List.take_zero, List.drop_succ_cons, List.drop_zero]
  repeat still_step
  refine wpStill_nil ?_
  have HTQ := hideIt (show Tabs w4 from HT.out.keep H4.out.1)
  go_wp2_with (first
    | ((with_reducible refine at_copy ?_); refine wpList_cp2 rfl (.tmp 25) (.tmp 38) rfl (n := n) (k := n) rfl rfl hpos H4.out.2.2.1 (HS.out.below H4.out.1) ?_; intro w5 HG5 HT5; have H5 := hideIt (show Below w.heap.size w w5 ∧ Blk w5 w.heap.size 3 [.int .i64 (m : Int)] ∧ Blk w5 pr 36 [.slice (some ⟨g, 0, none⟩) (n + n) (n + n)] from ⟨HT5.out.below H4.out.1 HGL.out, HT5.out.blk H4.out.2.1 HPG.out, HT5.out.blk H4.out.2.2.2 HRG.out⟩); have c6 : w5.cell? ⟨pb, 6, none⟩ = some (.slice pA pv.length pc) := (HB.out.kept H5.out.1 HB.out.lt).cell 6))
  have HGW := hideIt (show w.heap.size ≤ g ∧ pb < w.heap.size from ⟨HGL.out, hpl⟩)
  clear d0 d3 hcut hm1 hm2 hi1 H4 HS HTQ hmul2 c6
  go_loopg [46] pv.length (fun gk s46 wr => ∃ i : Nat, i + gk = pv.length ∧ s46 = .int .i64 (i : Int) ∧ Aside (Turned g w5 wr) ∧ Aside (Blk wr g 3 ((nl (n + n) (rd m Q pv (pad n (gC x u)) i)).map iv)))
  case atStart => exact ⟨0, by omega, rfl, Turned.refl _ _, HG5.out⟩
  case round =>
    obtain ⟨i, hi, rfl, HTU, HG⟩ := hrel
    obtain ⟨w6, rfl⟩ : ∃ x, x = wr := ⟨wr, rfl⟩
    have HLW := hideIt (HTU.out.below H5.out.1 HGW.out.1)
    have HPB := hideIt (HB.out.kept HLW.out HB.out.lt)
    have HPM := hideIt (HTU.out.blk H5.out.2.1 HPG.out)
    have HPR := hideIt (HTU.out.blk H5.out.2.2 HRG.out)
    have cr : w6.cell? ⟨pr, 0, none⟩ = some (.slice (some ⟨g, 0, none⟩) (n + n) (n + n)) := HPR.out.cell 0
    by_cases hlt : i < pv.length
    · have hiB : i < B.length := by rw [← HR.out.len]; exact hlt
      obtain ⟨b, o, v, hA, hb, hv, hc⟩ := (HM.out.piv.below HLW.out).at_ hlt
      rw [iv_at hlt] at hv
      injection hv with hv
      subst hv hA
      have hpl2 := HR.out.pl i hiB
      generalize hcc : pv.getD i 0 = c at *
      have hcg := HG.out.cell c
      rw [iv_at (by omega)] at hcg
      have HXV := hideIt (rd_v (Q := Q) (pv := pv) HVC.out.fm (pad_v (n := n) (gC_v HVC.out u)) i)
      have HNX := hideIt (show ∀ j, rd m Q pv (pad n (gC x u)) (i + 1) j = rd m Q pv (pad n (gC x u)) i j ^^^ mul m (rd m Q pv (pad n (gC x u)) i c) (Q i j) from fun j => by rw [← hcc]; rfl)
      have hinc := inc_c 3 i (by omega)
      have hji : (i : Int) < (pv.length : Int) := by omega
      have hcn : (c : Int) < ((n + n : Nat) : Int) := by omega
      generalize rd m Q pv (pad n (gC x u)) i = r0 at *
      by_cases hf0 : r0 c = 0
      · rw [hf0] at hcg
        have HF0 := hideIt hf0
        clear hcc hb hf0
        go_wp2_with fail
        go_roundg (gk - 1)
        case measure => omega
        case rel =>
          refine ⟨i + 1, by omega, by go_num, HTU.out, ?_⟩
          have e : nl (n + n) (rd m Q pv (pad n (gC x u)) (i + 1)) = nl (n + n) r0 := nl_congr fun j _ => by rw [HNX.out j, HF0.out, mul_zeroL, Nat.xor_zero]
          show Blk _ g _ ((nl (n + n) (rd m Q pv (pad n (gC x u)) (i + 1))).map iv)
          rw [e]; exact HG.out
      · have hnq : binOp .neq 3 (.int .i64 (r0 c : Int)) (.int .i64 0) = pure (.bool true) := neqT (a := r0 c) (b := 0) 3 hf0
        obtain ⟨rb, ro, A', c', hA, hrb, hcell, hsl⟩ := (HM.out.row.below HLW.out).row (j := i) (by rw [rowsL_len]; exact hiB)
        rw [rowsL_at] at hcell hsl
        rw [nl_len] at hcell hsl
        rw [show 2 * n = n + n by omega] at hcell hsl
        subst hA
        have c5 : w6.cell? ⟨pb, 5, none⟩ = some (.slice (some ⟨rb, ro, none⟩) B.length rc) := HPB.out.cell 5
        have hiB2 : (i : Int) < (B.length : Int) := by omega
        obtain ⟨b3, o3, hA3, hb3, _⟩ := hsl.2 (by rw [List.length_map, nl_len]; omega)
        have HAD := hideIt (radd_anyL m (r0 c) (n + n) HVC.out.fm (HXV.out c) (by omega) r0 (Q i) HXV.out (HR.out.v i) A' c' w.heap.size pr g w6 (HT.out.keep HLW.out) (hsl.wide HLW.out.size) (fun b4 o4 h4 => by rw [h4] at hA3; injection hA3 with hA3; injection hA3 with e1; have := HGW.out.1; omega) HPM.out HPR.out HG.out HPG.out HRG.out (by have := HT.out.lo; have := HGW.out.1; omega))
        generalize hfc : r0 c = fc at *
        clear hcc hb hf0 hsl hrb hb3 hA3
        go_wp2_with (first
          | (go_at_call 101; refine HAD.out.mono ?_; rintro e w7 ⟨rfl, hg7, ht7⟩; have HG7 := hideIt hg7; have HT7 := hideIt ht7; clear hg7 ht7 HAD))
        go_roundg (gk - 1)
        case measure => omega
        case rel =>
          refine ⟨i + 1, by omega, by go_num, HTU.out.trans HT7.out, ?_⟩
          have e : nl (n + n) (rd m Q pv (pad n (gC x u)) (i + 1)) = nl (n + n) (fun j => r0 j ^^^ mul m fc (Q i j)) := nl_congr fun j _ => HNX.out j
          show Blk _ g _ ((nl (n + n) (rd m Q pv (pad n (gC x u)) (i + 1))).map iv)
          rw [e]; exact HG7.out
    · have hji : ¬ (i : Int) < (pv.length : Int) := by omega
      have hie : i = B.length := by rw [← HR.out.len]; omega
      have HIE := hideIt hie
      clear hie
      go_wp2_with fail
      go_ret
      exact ⟨g, rfl, HGW.out.1, by rw [← HIE.out]; exact HG.out, HLW.out⟩
end

end Go.Proofs.YtklngodlijiccaaDoor
