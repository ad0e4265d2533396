/-
  The program's visit, walked: the unions are yielded in their order, in a slice that may share its memory with the next one.
-/
import Derived.Test.YtkfahoaiialndaaGreatDoorD9a
import Derived.Test.YtkfahoaiialndaaGreatDoorD9b
import Derived.Test.YtkfahoaiialndaaGreatDoorD9c
import Derived.Test.YtkfahoaiialndaaGreatDoorD9d
import Derived.Test.YtkfahoaiialndaaGreatDoorDstR
import Derived.Test.YtkfahoaiialndaaGreatDoorDstS
import Derived.Test.YtkfahoaiialndaaGreatDoorDstN
import Derived.Test.YtkfahoaiialndaaGreatDoorDstQ
import Derived.OwnWalkIn
import Derived.TacticsInMore
import Derived.LoopNIn
import Derived.LoopIn
namespace Go.Proofs.YtkfahoaiialndaaGreatDoor
open Go.RowKit Go.Shelf
set_option linter.unusedVariables false
set_option linter.unusedSimpArgs false
set_option linter.unusedSectionVars false

theorem own_pre {W : World} {base g n m cap cap' : Nat} {e : TypeId} {xs ys : List Value} (hl : xs.length = n) (hc : n ≤ cap) (hm : cap ≤ maxLen) (hcc : cap' = cap) (h : W.ownsRow base e 1 (.slice (some ⟨g, 0, none⟩) (n + m) cap') (n + m) (xs ++ ys)) : W.ownsRow base e 1 (.slice (some ⟨g, 0, none⟩) n cap) n xs := by
  subst hcc
  refine ⟨by rw [hl, Nat.mul_one], ?_⟩
  rcases h.2 with ⟨h0, _⟩ | ⟨g', cap2, cur, hv, hb, hg, h1, h2, h3, ht⟩
  · cases h0
  · injection hv with hv1 hv2 hv3
    injection hv1 with hv1
    injection hv1 with hv1 _ _
    subst hv1 hv3
    refine .inr ⟨g, cap', cur, rfl, hb, hg, hc, hm, h3, ?_⟩
    rw [Nat.mul_one] at ht ⊢
    have : (cur.toList.take (n + m)).take n = xs := by rw [ht, List.take_left' hl]
    rwa [List.take_take, Nat.min_eq_left (by omega)] at this
theorem app_two {w : World} (rt : TypeId) (base : Nat) (v : Value) (n : Nat) (xs : List Value) (hO : w.ownsRow base 3 1 v n xs) (ad : Addr) (m c : Nat) (ys : List Value) (hl : ys.length = m) (hY : ∀ j u, ys[j]? = some u → w.cell? (ad.add j) = some u)
    (h1 : ∀ u ∈ ys, u.oneCell' = true) (hm : 0 < m) (hn : n + m ≤ 100000) (hb : base ≤ w.heap.size) :
    ∃ v' w', (Builtin.append_ #[26, 26] rt #[v, .slice (some ad) m c]).run Tryz.prog w = .ok v' w' ∧ w'.ownsRow base 3 1 v' (n + m) (xs ++ ys) ∧ w.grownBy w' v.ownBlock ∧ w'.ownsRow base 3 1 v n xs ∧
      ((v'.ownBlock = v.ownBlock ∧ ∀ W : World, W.ownsRow base 3 1 v' (n + m) (xs ++ ys) → W.ownsRow base 3 1 v n xs) ∨ v'.ownBlock = some w.heap.size) := by
  obtain ⟨i, h2, h3, h4, h5⟩ := info_parts (show (Tryz.prog.info? 3).map (fun i => (i.zero, i.size, i.bytes)) = some (some (Value.int .i64 0), 1, 8) by kernel_rfl)
  have hlm : ys.length = m * 1 := by omega
  have h63 : n + m ≤ maxLen := by unfold maxLen; omega
  obtain ⟨v', w', hr, ho, hg, _, hat⟩ := run_append_own_at (P := Tryz.prog) w base 26 rt 3 i (.int .i64 0) 1 8 Tryz.underlying26 h2 h3 h4 h5 rfl (by decide) v n xs hO ad m c ys hlm hY h1 h63 (by omega) hb
  refine ⟨v', w', hr, ho, hg, ?_⟩
  have hxl : xs.length = n := by have := hO.1; omega
  rcases hO.2 with ⟨rfl, rfl⟩ | ⟨g, cap, cur, rfl, hbg, hgb, hnc, hcm, hcs, htake⟩
  · obtain rfl := List.length_eq_zero_iff.1 hxl
    refine ⟨World.ownsRow_nil _ _ _ _, ?_⟩
    rcases hat with h | h
    · exact .inl ⟨h, fun W _ => World.ownsRow_nil _ _ _ _⟩
    · exact .inr h
  · by_cases hroom : n + m ≤ cap
    · have hr2 := run_append_room (P := Tryz.prog) w 26 rt 3 i Tryz.underlying26 h2 g n cap cur hgb ad m c ys (by rw [h4]; exact hlm) hY h1 hroom (by rw [h4, hcs, hlm]; omega)
      rw [hr] at hr2
      injection hr2 with e1 e2
      subst e1
      have key : ∀ W : World, W.ownsRow base 3 1 (.slice (some ⟨g, 0, none⟩) (n + m) cap) (n + m) (xs ++ ys) → W.ownsRow base 3 1 (.slice (some ⟨g, 0, none⟩) n cap) n xs := fun W h => own_pre hxl hnc hcm rfl h
      exact ⟨key _ ho, .inl ⟨rfl, key⟩⟩
    · have hr2 := run_append_grow (P := Tryz.prog) w 26 rt 3 i (.int .i64 0) Tryz.underlying26 h2 h3 ⟨g, 0, none⟩ n cap xs (by rw [h4]; exact hO.1) (by have := hO.cells (g := g) rfl; exact this) ad m c ys (by rw [h4]; exact hlm) hY (by omega) (by omega) (growslice_fits (by omega) (by rw [h5]; omega))
      rw [hr] at hr2
      injection hr2 with e1 e2
      subst e1 e2
      refine ⟨⟨hO.1, .inr ⟨g, cap, cur, rfl, hbg, ?_, hnc, hcm, hcs, htake⟩⟩, .inr rfl⟩
      exact (Below.heap_alloc w.drew _ g (Array.getElem?_eq_some_iff.1 hgb).1).trans hgb
theorem wpList_app2 {w : World} {ops : Array Oper} {rest : List Oper} {o : Oper} {a : Act} {Q : Exit → Act → World → Prop} (hgd : o.guard = none) (s x : Operand)
    (ho : o.op = .call { callee := .builtin .append, args := #[s, x], argTypes := #[26, 26] }) {base : Nat} {v : Value} {n : Nat} {xs : List Value} (hs : a.eval s = v) (hO : w.ownsRow base 3 1 v n xs)
    {ad : Addr} {m c : Nat} {ys : List Value} (hx : a.eval x = .slice (some ad) m c) (hl : ys.length = m) (hY : ∀ j u, ys[j]? = some u → w.cell? (ad.add j) = some u) (h1 : ∀ u ∈ ys, u.oneCell' = true) (hm : 0 < m) (hn : n + m ≤ 100000) (hb : base ≤ w.heap.size)
    (hK : ∀ v' w', Hid (w'.ownsRow base 3 1 v' (n + m) (xs ++ ys)) → Hid (w.grownBy w' v.ownBlock) → Hid (w'.ownsRow base 3 1 v n xs) → Hid ((v'.ownBlock = v.ownBlock ∧ ∀ W : World, W.ownsRow base 3 1 v' (n + m) (xs ++ ys) → W.ownsRow base 3 1 v n xs) ∨ v'.ownBlock = some w.heap.size) → wpList Tryz.prog ops Q rest (a.put o.dst v') w') : wpList Tryz.prog ops Q (o :: rest) a w :=
  wpList_plain hgd fun _ hK' => by
    obtain ⟨v', w', hr, q1, q2, q3, q4⟩ := app_two o.type base v n xs hO ad m c ys hl hY h1 hm hn hb
    unfold Oper.wp execOp
    simp only [ho, resolve, invoke, builtin, Sem.run_bind, Sem.run_pure, Result.andThen_ok, List.map_toArray, List.map_cons, List.map_nil, hs, hx, hr]
    exact hK' _ _ (hK v' w' q1 q2 q3 q4)

theorem nI_app (a b : List Nat) : nI (a ++ b) = nI a ++ nI b := by simp [nI]
/-- Parts in memory: each a slice of units, none empty. -/
def PP (W : World) (B : Nat) (A : Option Addr) (ps : List (List Nat)) : Prop :=
  ∃ vs : List Value, Sl W B A 1 ps.length vs ∧ ∀ i (h : i < ps.length), ∃ ad c, vs[i]? = some (.slice (some ad) (ps[i]).length c) ∧ Sl W B (some ad) 1 (ps[i]).length ((nI ps[i]).map iv)
theorem PP.below {W W' : World} {B : Nat} {A : Option Addr} {ps : List (List Nat)} (h : PP W B A ps) (hb : Below B W W') : PP W' B A ps := by
  obtain ⟨vs, h1, h2⟩ := h
  exact ⟨vs, h1.below hb, fun i hi => by obtain ⟨ad, c, h3, h4⟩ := h2 i hi; exact ⟨ad, c, h3, h4.below hb⟩⟩
theorem PP.wide {W : World} {B B' : Nat} {A : Option Addr} {ps : List (List Nat)} (h : PP W B A ps) (hB : B ≤ B') : PP W B' A ps := by
  obtain ⟨vs, h1, h2⟩ := h
  exact ⟨vs, h1.wide hB, fun i hi => by obtain ⟨ad, c, h3, h4⟩ := h2 i hi; exact ⟨ad, c, h3, h4.wide hB⟩⟩
theorem PP.drop {W : World} {B : Nat} {A : Option Addr} {ps : List (List Nat)} (h : PP W B A ps) {k cap : Nat} (hk : k ≤ ps.length) (hc : ps.length ≤ cap) : PP W B (if cap = k then A else A.map (·.add k)) (ps.drop k) := by
  obtain ⟨vs, h1, h2⟩ := h
  have h3 := h1.drop (k := k) (cap := cap) hk hc
  rw [Nat.mul_one] at h3
  refine ⟨vs.drop k, by rw [List.length_drop]; exact h3, fun i hi => ?_⟩
  rw [List.length_drop] at hi
  obtain ⟨ad, c, h4, h5⟩ := h2 (k + i) (by omega)
  refine ⟨ad, c, ?_, ?_⟩
  · rw [List.getElem?_drop, h4, List.getElem_drop]
  · rw [List.getElem_drop]; exact h5
/-- How a union is handed over. -/
def RS (B : Nat) (x : List Nat) (args : Array Value) (W : World) : Prop := ∃ A c, args = #[.slice A x.length c] ∧ Sl W W.heap.size A 1 x.length ((nI x).map iv) ∧ ∀ a : Addr, A = some a → B ≤ a.block
theorem RS.low {B B' : Nat} {x : List Nat} {args : Array Value} {W : World} (h : RS B x args W) (hB : B' ≤ B) : RS B' x args W := by
  obtain ⟨A, c, h1, h2, h3⟩ := h
  exact ⟨A, c, h1, h2, fun a e => Nat.le_trans hB (h3 a e)⟩
/-- The set T and an own row's block. -/
def TU (T : Nat → Prop) (v : Value) (k : Nat) : Prop := T k ∨ v.ownBlock = some k
theorem Keeps.trans' {T : Nat → Prop} {a b c : World} {v : Value} (h : Keeps T a b) (k : Keeps (TU T v) b c) (hv : ∀ k, v.ownBlock = some k → a.heap.size ≤ k) : Keeps T a c :=
  ⟨k.os.trans h.os, k.tape.trans h.tape, k.output.trans h.output, Nat.le_trans h.size k.size, fun i hi hn => (k.block i (Nat.lt_of_lt_of_le hi h.size) (fun q => q.elim hn fun e => by have := hv i e; omega)).trans (h.block i hi hn)⟩
theorem Keeps.own {T : Nat → Prop} {a b : World} {base : Nat} {e : TypeId} {size n : Nat} {v : Value} {xs : List Value} (h : Keeps T a b) (hO : a.ownsRow base e size v n xs) (hT : ∀ k, v.ownBlock = some k → ¬ T k) : b.ownsRow base e size v n xs := by
  refine ⟨hO.1, hO.2.imp id ?_⟩
  rintro ⟨g, cap, cur, rfl, q2, q3, q4⟩
  exact ⟨g, cap, cur, rfl, q2, (h.block g (Array.getElem?_eq_some_iff.1 q3).1 (hT g rfl)).trans q3, q4⟩
section
variable (l : Nat) (T : Nat → Prop) (J Jx : List (List Nat) → World → Prop) (all : List (List Nat)) (W0 : World) (B0 : Nat)
/-- What visit leaves. -/
def VisPost (us : List Nat) (pre' : List (List Nat)) (uv : Value) (W : World) (e : Ending) (w' : World) : Prop :=
  (e = .returned (.bool true) ∧ Keeps (TU T uv) W w' ∧ J pre' w' ∧ w'.ownsRow W0.heap.size 3 1 uv us.length ((nI us).map iv)) ∨ (e = .returned (.bool false) ∧ Keeps T W0 w' ∧ ∃ pre, pre <+: all ∧ Jx pre w')
def VisSaid (n : Nat) : Prop :=
  ∀ (ps : List (List Nat)) (us : List Nat) (pre post : List (List Nat)) (uv : Value) (A : Option Addr) (c : Nat) (W : World), all = pre ++ uni us ps n ++ post → us.length + 1000 * n ≤ 5000 → (∀ p ∈ ps, 0 < p.length ∧ p.length ≤ 1000) → ps.length ≤ 1000 → ps.length ≤ c →
    PP W0 B0 A ps → Keeps T W0 W → J pre W → W.ownsRow W0.heap.size 3 1 uv us.length ((nI us).map iv) →
    Calls Tryz.prog 69 #[uv, .slice A ps.length c, .int .i64 (n : Int), .func (.yield l) #[] #[]] W (VisPost T J Jx all W0 us (pre ++ uni us ps n) uv W)
variable (hT : ∀ k, T k → B0 ≤ k ∧ k < W0.heap.size) (hB0 : B0 ≤ W0.heap.size) (hJ : Low W0.heap.size J)
  (hY : ∀ pre x args W1, pre ++ [x] <+: all → Keeps T W0 W1 → J pre W1 → RS W0.heap.size x args W1 → YieldAt Fence.wide 0 Tryz.prog l args W1 fun e W' =>
      (e = .returned (.bool true) ∧ Keeps T W1 W' ∧ J (pre ++ [x]) W') ∨ (e = .returned (.bool false) ∧ Keeps T W1 W' ∧ Jx (pre ++ [x]) W'))
include hT hB0 hJ hY
theorem visit_zero : VisSaid l T J Jx all W0 B0 0 := by
  intro ps us pre post uv A c W hall hus hps hpl hpc hPP hKW hJW hO
  have hu : uni us ps 0 = [us] := by cases ps <;> rfl
  rw [hu] at hall ⊢
  obtain ⟨U, cu, huv, _, _⟩ := own_form hO
  subst huv
  obtain ⟨fn, tmps, assign, body, hy, hR⟩ := hY pre us #[.slice U us.length cu] W ⟨post, hall.symm⟩ hKW hJW ⟨U, cu, rfl, Sl.of_own hO, fun a e => (hO.lt a.block (by rw [e]; rfl)).1⟩
  have HO := hideIt hO
  have HKW := hideIt hKW
  have HT := hideIt hT
  have HALL := hideIt (show pre ++ [us] <+: all from ⟨post, hall.symm⟩)
  clear hall hPP hKW hJW hO hY hps hT
  rw [show (((0 : Nat) : Int)) = 0 from rfl]
  refine (callsIn_wide (n := 0)).1 (callsIn_of_wp Tryz.func69 rfl trivial ?_)
  simp only [Tryz.ntmps69, List.size_toArray, List.length_cons, List.length_nil, Nat.reduceAdd, Nat.reduceSub, Array.replicate_succ, Array.replicate_zero, List.push_toArray, List.append_toArray, List.nil_append, List.cons_append]
  gi_wp2
  refine ⟨rfl, ?_⟩
  refine hR.mono ?_
  have hTb : ∀ k, (Value.slice U us.length cu).ownBlock = some k → ¬ T k := fun k hk h => by
    have h1 := (HO.out.lt k hk).1
    have h2 := (HT.out k h).2
    omega
  rintro e W3 (⟨rfl, hK3, hJ3⟩ | ⟨rfl, hK3, hJx3⟩)
  · gi_wp2
    go_ret
    exact .inl ⟨rfl, hK3.wide fun k hk => Or.inl hk, hJ3, hK3.own HO.out hTb⟩
  · gi_wp2
    go_ret
    exact .inr ⟨rfl, HKW.out.trans hK3, _, HALL.out, hJx3⟩
set_option maxRecDepth 100000 in
set_option maxHeartbeats 2000000 in
theorem visit_succ (n : Nat) (hn : n ≤ 3) (IH : VisSaid l T J Jx all W0 B0 n) : VisSaid l T J Jx all W0 B0 (n + 1) := by
  intro ps us pre post uv A c W hall hus hps hpl hpc hPP hKW hJW hO
  obtain ⟨U, cu, huv, _, _⟩ := own_form hO
  subst huv
  have hub : ∀ k, (Value.slice U us.length cu).ownBlock = some k → W0.heap.size ≤ k := fun k hk => (hO.lt k hk).1
  have hq := int_eqlF 3 (a := ((n + 1 : Nat) : Int)) (b := 0) (by omega)
  have hsub := sub_c1 3 n (by omega)
  have HUN := hideIt (show ∀ (p : List Nat) (rest : List (List Nat)), uni us (p :: rest) (n + 1) = uni (us ++ p) rest n ++ uni us rest (n + 1) from fun _ _ => rfl)
  have HUE := hideIt (show uni us [] (n + 1) = [] from rfl)
  have HIH := hideIt (fun (p : List Nat) (rest : List (List Nat)) (pre post : List (List Nat)) (uv : Value) (A : Option Addr) (c : Nat) (W : World) (h1 : all = pre ++ uni (us ++ p) rest n ++ post) (hp : p.length ≤ 1000) => IH rest (us ++ p) pre post uv A c W h1 (by rw [List.length_append]; omega))
  obtain ⟨n1, hn1⟩ : ∃ z, z = n + 1 := ⟨_, rfl⟩
  rw [← hn1] at hq hsub hall HUN HUE ⊢
  have HK0 := hideIt (fun (w4 : World) (h : Keeps (TU T (.slice U us.length cu)) W w4) => show Keeps T W0 w4 from hKW.trans' h hub)
  have HALL := hideIt hall
  have HPS := hideIt hps
  have HPP := hideIt hPP
  have HKW := hideIt hKW
  have HJW := hideIt hJW
  have HO := hideIt hO
  have HT := hideIt hT
  have HJ := hideIt hJ
  have HUB := hideIt hub
  clear hall hps hPP hKW hJW hO hT hJ hY IH hn1 hub
  go_enter Tryz.func69, Tryz.ntmps69
  go_wp2_with fail
  go_loopg [18] ps.length (fun gk s18 wr => ∃ (i : Nat) (prei : List (List Nat)), i + gk = ps.length ∧ s18 = .int .i64 (i : Int) ∧ Aside (all = prei ++ uni us (ps.drop i) n1 ++ post) ∧ Aside (Keeps (TU T (.slice U us.length cu)) W wr) ∧ Aside (J prei wr) ∧ Aside (wr.ownsRow W0.heap.size 3 1 (.slice U us.length cu) us.length ((nI us).map iv)))
  case atStart => exact ⟨0, pre, by omega, rfl, HALL.out, Keeps.refl _ W, HJW.out, HO.out⟩
  case round =>
    obtain ⟨i, prei, hi, rfl, HAI, HKI, HJI, HOI⟩ := hrel
    obtain ⟨w4, rfl⟩ : ∃ x, x = wr := ⟨wr, rfl⟩
    have hk0 := HK0.out _ HKI.out
    have HK4 := hideIt hk0
    by_cases hlt : i < ps.length
    · have hinc := inc_c 3 i (by omega)
      have hii : (i : Int) < (ps.length : Int) := by omega
      have HPP4 := hideIt (HPP.out.below (hk0.below hB0 (fun k hk h => by have := (HT.out k h).1; omega)))
      obtain ⟨vs, h1, h2⟩ := HPP4.out
      obtain ⟨ad, cp, h3, h4⟩ := h2 i hlt
      obtain ⟨b, o, u, hAe, hb, hu, hc⟩ := h1.at_ hlt
      rw [hu] at h3
      injection h3 with h3
      subst h3
      have hpp := HPS.out _ (List.getElem_mem hlt)
      have HDR := hideIt (List.drop_eq_getElem_cons hlt)
      have HP4 := hideIt h4
      change w4.cell? ⟨b, o + i, none⟩ = some (.slice (some ad) ps[i].length cp) at hc
      generalize ps[i] = p at *
      have hnews : ∀ j u, ((nI p).map iv)[j]? = some u → w4.cell? (ad.add j) = some u := fun j y hjy => by
        obtain ⟨b', o', e, _, hcc⟩ := HP4.out.2 (by rw [List.length_map, List.length_map]; exact hpp.1)
        injection e with e
        subst e
        rw [addr_add]
        exact hcc j y hjy
      have HNW := hideIt hnews
      have HPL := hideIt hpp
      subst hAe
      clear hk0 h1 h2 h4 hb hu hnews vs
      have hp1 := hpp.1
      have hp2 := hpp.2
      clear hpp
      have hi1 : (i : Int) + 1 ≤ (ps.length : Int) := by omega
      have hi2 : (0 : Int) ≤ (i : Int) + 1 := by omega
      have hi3 : (ps.length : Int) ≤ (c : Int) := by omega
      have hi4 : (i : Int) + 1 ≤ (c : Int) := by omega
      go_wp2_with fail
      refine loads_begin_n 12 [] rfl (by kernel_rfl) ?_
      try simp only [Act.put]
      try simp only [List.setIfInBounds_toArray]
      try simp only [List.set_cons_succ]
      try simp only [List.set_cons_zero]
      refine wpAnyL_move (oi := ⟨some 23, _, _, _, _, _⟩) 0 ?_ rfl (by kernel_rfl) (by kernel_rfl) (by kernel_rfl) (by kernel_rfl) (fun _ _ _ h => h) (by kernel_rfl) ?_ ((Hooks.nil _ _)) ?_
      rotate_left
      · intro W'; go_simp; first | done | with_reducible rfl
      try simp only [Act.put]
      try simp only [List.setIfInBounds_toArray]
      try simp only [List.set_cons_succ]
      try simp only [List.set_cons_zero]
      refine wpAnyL_move (oi := ⟨some 24, _, _, _, _, _⟩) 1 ?_ rfl (by kernel_rfl) (by kernel_rfl) (by kernel_rfl) (by kernel_rfl) (fun _ _ _ h => h) (by kernel_rfl) ?_ ((Hooks.nil _ _)) ?_
      rotate_left
      · intro W'; go_simp; first | done | with_reducible rfl
      try simp only [Act.put]
      try simp only [List.setIfInBounds_toArray]
      try simp only [List.set_cons_succ]
      try simp only [List.set_cons_zero]
      refine wpAnyL_move (oi := ⟨some 26, _, _, _, _, _⟩) 3 ?_ rfl (by kernel_rfl) (by kernel_rfl) (by kernel_rfl) (by kernel_rfl) (fun _ _ _ h => h) (by kernel_rfl) ?_ ((Hooks.nil _ _)) ?_
      rotate_left
      · intro W'; go_simp; first | done | with_reducible rfl
      try simp only [Act.put]
      try simp only [List.setIfInBounds_toArray]
      try simp only [List.set_cons_succ]
      try simp only [List.set_cons_zero]
      refine wpAnyL_move (oi := ⟨some 27, _, _, _, _, _⟩) 4 ?_ rfl (by kernel_rfl) (by kernel_rfl) (by kernel_rfl) (by kernel_rfl) (fun _ _ _ h => h) (by kernel_rfl) ?_ ((Hooks.nil _ _)) ?_
      rotate_left
      · intro W'; go_simp; first | done | with_reducible rfl
      try simp only [Act.put]
      try simp only [List.setIfInBounds_toArray]
      try simp only [List.set_cons_succ]
      try simp only [List.set_cons_zero]
      refine wpAnyL_move (oi := ⟨some 28, _, _, _, _, _⟩) 5 ?_ rfl (by kernel_rfl) (by kernel_rfl) (by kernel_rfl) (by kernel_rfl) (fun _ _ _ h => h) (by kernel_rfl) ?_ ((Hooks.nil _ _)) ?_
      rotate_left
      · intro W'; go_simp; first | done | with_reducible rfl
      try simp only [Act.put]
      try simp only [List.setIfInBounds_toArray]
      try simp only [List.set_cons_succ]
      try simp only [List.set_cons_zero]
      refine wpAnyL_move (oi := ⟨some 29, _, _, _, _, _⟩) 6 ?_ rfl (by kernel_rfl) (by kernel_rfl) (by kernel_rfl) (by kernel_rfl) (fun _ _ _ h => h) (by kernel_rfl) ?_ ((Hooks.nil _ _)) ?_
      rotate_left
      · intro W'; go_simp; first | done | with_reducible rfl
      try simp only [Act.put]
      try simp only [List.setIfInBounds_toArray]
      try simp only [List.set_cons_succ]
      try simp only [List.set_cons_zero]
      refine wpAnyL_move (oi := ⟨some 30, _, _, _, _, _⟩) 7 ?_ rfl (by kernel_rfl) (by kernel_rfl) (by kernel_rfl) (by kernel_rfl) (fun _ _ _ h => h) (by kernel_rfl) ?_ ((Hooks.nil _ _)) ?_
      rotate_left
      · intro W'; go_simp; first | done | with_reducible rfl
      try simp only [Act.put]
      try simp only [List.setIfInBounds_toArray]
      try simp only [List.set_cons_succ]
      try simp only [List.set_cons_zero]
      refine wpAnyL_move (oi := ⟨some 31, _, _, _, _, _⟩) 8 ?_ rfl (by kernel_rfl) (by kernel_rfl) (by kernel_rfl) (by kernel_rfl) (fun _ _ _ h => h) (by kernel_rfl) ?_ ((Hooks.nil _ _)) ?_
      rotate_left
      · intro W'; go_simp; first | done | with_reducible rfl
      try simp only [Act.put]
      try simp only [List.setIfInBounds_toArray]
      try simp only [List.set_cons_succ]
      try simp only [List.set_cons_zero]
      refine wpAnyL_move (oi := ⟨some 32, _, _, _, _, _⟩) 9 ?_ rfl (by kernel_rfl) (by kernel_rfl) (by kernel_rfl) (by kernel_rfl) (fun _ _ _ h => h) (by kernel_rfl) ?_ ((Hooks.nil _ _)) ?_
      rotate_left
      · intro W'; go_simp; first | done | with_reducible rfl
      try simp only [Act.put]
      try simp only [List.setIfInBounds_toArray]
      try simp only [List.set_cons_succ]
      try simp only [List.set_cons_zero]
      have HPD := hideIt (HPP.out.drop (k := i + 1) (cap := c) (by omega) hpc)
      obtain ⟨A', hA'⟩ : ∃ A' : Option Addr, A' = if c = i + 1 then some ⟨b, o, none⟩ else some ⟨b, o + (i + 1), none⟩ := ⟨_, rfl⟩
      rw [show (if c = i + 1 then some (⟨b, o, none⟩ : Addr) else (some (⟨b, o, none⟩ : Addr)).map (·.add (i + 1))) = A' by rw [hA', Option.map_some, addr_add]] at HPD
      rw [← hA']
      have HOD := hideIt (show w4.drew.ownsRow W0.heap.size 3 1 (.slice U us.length cu) us.length ((nI us).map iv) from HOI.out)
      have HND := hideIt (show ∀ j u, ((nI p).map iv)[j]? = some u → w4.drew.cell? (ad.add j) = some u from HNW.out)
      have HS0 := hideIt (show W0.heap.size ≤ w4.heap.size from HK4.out.size)
      clear hA' hc
      refine wpAnyL_one (o := ⟨some 25, _, _, _, _, _⟩) 2 (by kernel_rfl) rfl (fun K hK => ?_)
      go_wp2_with ((with_reducible refine at_append ?_); refine wpList_app2 (base := W0.heap.size) (n := us.length) (m := p.length) (xs := (nI us).map iv) (ys := (nI p).map iv) rfl (.tmp 23) (.tmp 24) rfl rfl HOD.out rfl (by rw [List.length_map, List.length_map]) HND.out (iv_one _) hp1 (by omega) HS0.out ?_; intro v6 w6 HO6 HG6 HP6 HT6)
      refine hK _ _ (Hooks.nil _ _) ?_
      clear hK K HOD HND
      try simp only [Act.put]
      try simp only [List.setIfInBounds_toArray]
      try simp only [List.set_cons_succ]
      try simp only [List.set_cons_zero]
      have HK6 := hideIt (show Keeps T W0 w6 from ⟨HG6.out.os.trans HK4.out.os, HG6.out.tape.trans HK4.out.tape, HG6.out.output.trans HK4.out.output, Nat.le_trans HK4.out.size HG6.out.size, fun k hk hn => (HG6.out.block k (Nat.lt_of_lt_of_le hk HS0.out) (fun e => by have := HUB.out k e.symm; omega)).trans (HK4.out.block k hk hn)⟩)
      have HJ6 := hideIt (show J prei w6 from HJ.out prei w4 w6 HJI.out ⟨HG6.out.os, HG6.out.tape, HG6.out.output, HG6.out.size, fun k hk => HG6.out.block k (Nat.lt_of_lt_of_le hk HS0.out) (fun e => by have := HUB.out k e.symm; omega)⟩)
      have HVC := hideIt (show Calls Tryz.prog 69 #[v6, .slice A' (ps.length - (i + 1)) (c - (i + 1)), .int .i64 (n : Int), .func (.yield l) #[] #[]] w6 (VisPost T J Jx all W0 (us ++ p) (prei ++ uni (us ++ p) (ps.drop (i + 1)) n) v6 w6) by
        have hh : all = prei ++ uni (us ++ p) (ps.drop (i + 1)) n ++ (uni us (ps.drop (i + 1)) n1 ++ post) := by rw [HAI.out, HDR.out, HUN.out]; simp only [List.append_assoc]
        have := HIH.out p (ps.drop (i + 1)) prei (uni us (ps.drop (i + 1)) n1 ++ post) v6 A' (c - (i + 1)) w6 hh hp2 (fun q hq => HPS.out q (List.mem_of_mem_drop hq)) (by rw [List.length_drop]; omega) (by rw [List.length_drop]; omega) HPD.out HK6.out HJ6.out (by rw [List.length_append, nI_app, List.map_append]; exact HO6.out)
        rw [List.length_drop] at this
        exact this)
      refine wpAnyL_one (o := ⟨some 33, _, _, _, _, _⟩) 10 (by kernel_rfl) rfl (fun K hK => ?_)
      go_wp2_with (go_at_call 69; refine HVC.out.mono ?_; rintro e w7 (⟨rfl, hk7, hj7, ho7⟩ | ⟨rfl, hk7, hx7⟩))
      · refine hK _ _ (Hooks.nil _ _) ?_
        have HK7 := hideIt hk7
        have HJ7 := hideIt hj7
        have HO7 := hideIt ho7
        clear hK K hk7 hj7 ho7
        try simp only [Act.put]
        try simp only [List.setIfInBounds_toArray]
        try simp only [List.set_cons_succ]
        try simp only [List.set_cons_zero]
        refine loads_tail 11 (by kernel_rfl) (by kernel_rfl) (by kernel_rfl) (by kernel_rfl) ?_
        simp only [List.drop_succ_cons, List.drop_zero]
        go_wp2_with fail
        go_roundg (gk - 1)
        case measure => omega
        case rel =>
          have hv6 : ∀ k, k < W.heap.size → ¬ TU T (.slice U us.length cu) k → v6.ownBlock ≠ some k := fun k hk hn e => by
            rcases HT6.out with ⟨h, _⟩ | h
            · exact hn (Or.inr (h.symm.trans e))
            · have h2 := h.symm.trans e
              injection h2 with h2
              have h3 : W.heap.size ≤ w4.heap.size := HKI.out.size
              have h4 : w4.drew.heap.size = w4.heap.size := rfl
              omega
          refine ⟨i + 1, prei ++ uni (us ++ p) (ps.drop (i + 1)) n, by omega, by go_num, ?_, ?_, HJ7.out, ?_⟩
          · show all = _
            rw [HAI.out, HDR.out, HUN.out]
            simp only [List.append_assoc]
          · refine ⟨HK7.out.os.trans (HG6.out.os.trans HKI.out.os), HK7.out.tape.trans (HG6.out.tape.trans HKI.out.tape), HK7.out.output.trans (HG6.out.output.trans HKI.out.output), Nat.le_trans HKI.out.size (Nat.le_trans HG6.out.size HK7.out.size), fun k hk hn => ?_⟩
            have h1 : k < w4.heap.size := Nat.lt_of_lt_of_le hk HKI.out.size
            refine (HK7.out.block k (Nat.lt_of_lt_of_le h1 HG6.out.size) (fun q => q.elim (fun q => hn (Or.inl q)) (hv6 k hk hn))).trans ((HG6.out.block k h1 (fun e => hn (Or.inr e.symm))).trans (HKI.out.block k hk hn))
          · rcases HT6.out with ⟨_, h⟩ | h
            · have := HO7.out
              rw [List.length_append, nI_app, List.map_append] at this
              exact h w7 this
            · refine HK7.out.own HP6.out fun k hk q => q.elim (fun q => ?_) fun q => ?_
              · have h1 := (HT.out k q).2
                have h2 := HUB.out k hk
                omega
              · have h2 := h.symm.trans q
                injection h2 with h2
                have h3 := (HOI.out.lt k hk).2
                have h4 : w4.drew.heap.size = w4.heap.size := rfl
                omega
      · refine hK _ _ (Hooks.nil _ _) ?_
        have HK7 := hideIt hk7
        have HX7 := hideIt hx7
        clear hK K hk7 hx7
        try simp only [Act.put]
        try simp only [List.setIfInBounds_toArray]
        try simp only [List.set_cons_succ]
        try simp only [List.set_cons_zero]
        refine loads_tail 11 (by kernel_rfl) (by kernel_rfl) (by kernel_rfl) (by kernel_rfl) ?_
        simp only [List.drop_succ_cons, List.drop_zero]
        go_wp2_with fail
        go_ret
        exact .inr ⟨rfl, HK7.out, HX7.out⟩
    · have hii : ¬ (i : Int) < (ps.length : Int) := by omega
      have HE := hideIt (show prei = pre ++ uni us ps n1 by
        have h1 := HAI.out
        rw [List.drop_of_length_le (by omega), HUE.out, List.append_nil, HALL.out] at h1
        exact (List.append_cancel_right h1).symm)
      clear hk0
      go_wp2_with fail
      go_ret
      exact .inl ⟨rfl, HKI.out, by rw [← HE.out]; exact HJI.out, HOI.out⟩
theorem visit_any (n : Nat) (hn : n ≤ 4) : VisSaid l T J Jx all W0 B0 n := by
  induction n with
  | zero => exact visit_zero l T J Jx all W0 B0 hT hB0 hJ hY
  | succ n ih => exact visit_succ l T J Jx all W0 B0 hT hB0 hJ hY n (by omega) (ih (by omega))
end
end Go.Proofs.YtkfahoaiialndaaGreatDoor
