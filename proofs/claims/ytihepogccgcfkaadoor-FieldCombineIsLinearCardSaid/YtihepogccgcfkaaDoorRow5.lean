/-
  What the law of linear combinations makes: a unit filled up with zeros, walked; five rows of the call's own, none in another one's place; the sums, as plain lists.
-/
import Derived.Test.YtihepogccgcfkaaDoorFldE
import Derived.Maps.AppendAt
namespace Go.Proofs.YtihepogccgcfkaaDoor
open Go.RowKit Go.Shelf
set_option linter.unusedVariables false

/-- A unit of n bytes that begins like s. -/
def rowL (s : List UInt8) (n : Nat) : List UInt8 := (List.range n).map fun i => s.getD i 0
theorem rowL_len (s : List UInt8) (n : Nat) : (rowL s n).length = n := by unfold rowL; simp
theorem rowL_next (s : List UInt8) (k : Nat) : rowL s (k + 1) = rowL s k ++ [s.getD k 0] := by
  unfold rowL; rw [List.range_succ, List.map_append]; rfl

set_option maxHeartbeats 1000000 in
set_option maxRecDepth 100000 in
theorem row_any (l : List UInt8) (n : Nat) (hn : n ≤ 1000) (w : World) :
    Calls Tryd.prog 30 #[.string (str l), .int .i64 (n : Int)] w fun e w' => e = .returned (.string (str (rowL l n))) ∧ Below w.heap.size w w' := by
  obtain ⟨i0, hi, hz0, hz1, hzb⟩ := info_parts (show (Tryd.prog.info? 5).map (fun i => (i.zero, i.size, i.bytes)) = some (some (Value.int .u8 0), 1, 1) by kernel_rfl)
  have hsz := str_size l
  have HIX := hideIt (fun i hi W => str_at (P := Tryd.prog) (T := 9) Tryd.underlying9 l i hi W)
  have HL := hideIt hn
  generalize str l = s at *
  obtain ⟨z, hz⟩ : ∃ z, z = str (rowL l n) := ⟨_, rfl⟩
  rw [← hz]
  have HZ := hideIt hz
  clear hz hn
  go_enter Tryd.func30, Tryd.ntmps30
  go_wp2_with fail
  go_loopg [5, 6] n (fun g s5 s6 wr => ∃ (k : Nat) (A : Option Addr) (ca : Nat), g + k = n ∧ s5 = .slice A k ca ∧ s6 = .int .i64 (k : Int) ∧
    Aside (wr.ownsRow w.heap.size 5 1 (.slice A k ca) k ((rowL l k).map bv) ∧ Below w.heap.size w wr))
  case atStart => exact ⟨0, none, 0, rfl, rfl, rfl, World.ownsRow_nil _ _ _ _, Below.refl _ _⟩
  case round =>
    obtain ⟨k, A, ca, hg, rfl, rfl, HA⟩ := hrel
    by_cases hk : k < n
    · have HNX := hideIt (rowL_next l k)
      have hinc := inc_c 3 k (by have := HL.out; omega)
      have hki : (k : Int) < (n : Int) := by omega
      have hk1 : k < 1000 := by have := HL.out; omega
      by_cases hkl : k < l.length
      · have hix := fun W => HIX.out k hkl W
        have hks : (k : Int) < (l.length : Int) := by omega
        have hgd : l.getD k 0 = l[k] := by rw [List.getD_eq_getElem?_getD, List.getElem?_eq_getElem hkl]; rfl
        rw [hgd] at HNX
        generalize l[k] = y at *
        clear hgd hkl
        go_wp2_with ((with_reducible refine at_append ?_); refine wpList_app rfl (.tmp 20) (.tmp 22) 51 rfl w.heap.size 5 i0 (.int .u8 0) 1 1 Tryd.underlying51 hi hz0 hz1 hzb rfl (by decide) _ k ((rowL l k).map bv) rfl (own_kept HA.out.1 (below_new wr _)) _ _ 1 _ [bv y] rfl (sl_one wr _ _) (ones_one rfl) (by unfold maxLen; omega) (by omega) (Nat.le_trans HA.out.2.size (below_new wr _).size) ?_; intro v3 w3 ho3 hb3; have HO3 := own_is (n' := k + 1) (xs' := (rowL l (k + 1)).map bv) ho3 rfl (by rw [HNX.out, List.map_append]; rfl); clear ho3; obtain ⟨A3, c3, rfl, q3, q4⟩ := own_form HO3.out; have HB3 := hideIt ((HA.out.2.trans ((below_new wr _).mono HA.out.2.size)).trans hb3); clear hb3)
        go_roundg (gk - 1)
        case measure => omega
        case rel => exact ⟨k + 1, A3, c3, by omega, rfl, by go_num, HO3.out, HB3.out⟩
      · have hks : ¬ (k : Int) < (l.length : Int) := by omega
        have hgd : l.getD k 0 = 0 := by rw [List.getD_eq_getElem?_getD, List.getElem?_eq_none (by omega)]; rfl
        rw [hgd] at HNX
        clear hgd hkl
        go_wp2_with ((with_reducible refine at_append ?_); refine wpList_app rfl (.tmp 20) (.tmp 22) 51 rfl w.heap.size 5 i0 (.int .u8 0) 1 1 Tryd.underlying51 hi hz0 hz1 hzb rfl (by decide) _ k ((rowL l k).map bv) rfl (own_kept HA.out.1 (below_new wr _)) _ _ 1 _ [.int .u8 0] rfl (sl_one wr _ _) (ones_one rfl) (by unfold maxLen; omega) (by omega) (Nat.le_trans HA.out.2.size (below_new wr _).size) ?_; intro v3 w3 ho3 hb3; have HO3 := own_is (n' := k + 1) (xs' := (rowL l (k + 1)).map bv) ho3 rfl (by rw [HNX.out, List.map_append]; rfl); clear ho3; obtain ⟨A3, c3, rfl, q3, q4⟩ := own_form HO3.out; have HB3 := hideIt ((HA.out.2.trans ((below_new wr _).mono HA.out.2.size)).trans hb3); clear hb3)
        go_roundg (gk - 1)
        case measure => omega
        case rel => exact ⟨k + 1, A3, c3, by omega, rfl, by go_num, HO3.out, HB3.out⟩
    · have hki : ¬ (k : Int) < (n : Int) := by omega
      obtain rfl : k = n := by omega
      have hcs := conv_own (rowL_len l k) HA.out.1
      rw [← HZ.out] at hcs
      clear hi hz0 hz1 hzb
      go_wp2_with fail
      go_ret
      exact ⟨rfl, HA.out.2⟩

/-- Two rows are not in one place. -/
def Apart (u v : Value) : Prop := ∀ k, u.ownBlock = some k → v.ownBlock ≠ some k
theorem Apart.symm {u v : Value} (h : Apart u v) : Apart v u := fun k h1 h2 => h k h2 h1
theorem Apart.kept {u v : Value} (h : Apart u v) : u.ownBlock = none ∨ u.ownBlock ≠ v.ownBlock := by
  cases hu : u.ownBlock with
  | none => exact .inl rfl
  | some k => exact .inr (fun e => h k hu e.symm)
def upd {α : Type} (f : Nat → α) (i : Nat) (x : α) (j : Nat) : α := if j = i then x else f j
/-- Rows of the call's own. -/
structure RN (N : Nat) (es : Nat → TypeId) (w : World) (B : Nat) (vs : Nat → Value) (ks : Nat → Nat) (ls : Nat → List Value) : Prop where
  own : ∀ i, i < N → w.ownsRow B (es i) 1 (vs i) (ks i) (ls i)
  apart : ∀ i j, i < N → j < N → i ≠ j → Apart (vs i) (vs j)
theorem RN.below {N : Nat} {es : Nat → TypeId} {w w' : World} {B : Nat} {vs : Nat → Value} {ks : Nat → Nat} {ls : Nat → List Value} (h : RN N es w B vs ks ls) (hb : Below w.heap.size w w') : RN N es w' B vs ks ls :=
  ⟨fun i hi => own_kept (h.own i hi) hb, h.apart⟩
theorem RN.step {N : Nat} {es : Nat → TypeId} {w w' : World} {B : Nat} {vs : Nat → Value} {ks : Nat → Nat} {ls : Nat → List Value} (h : RN N es w B vs ks ls) (i : Nat) (hi : i < N) {v' : Value} {k' : Nat} {l' : List Value}
    (hg : w.grownBy w' (vs i).ownBlock) (ho : w'.ownsRow B (es i) 1 v' k' l') (hat : v'.ownBlock = (vs i).ownBlock ∨ v'.ownBlock = some w.heap.size) : RN N es w' B (upd vs i v') (upd ks i k') (upd ls i l') := by
  have new : ∀ j, j < N → j ≠ i → Apart (vs j) v' := fun j hj hne k hk hk' => by
    rcases hat with e | e
    · rw [e] at hk'; exact h.apart j i hj hi hne k hk hk'
    · rw [e] at hk'
      have := (h.own j hj).lt k hk
      injection hk' with hk'
      omega
  refine ⟨fun j hj => ?_, fun a b ha hb hab => ?_⟩
  · unfold upd
    by_cases e : j = i
    · subst e
      rw [if_pos rfl, if_pos rfl, if_pos rfl]; exact ho
    · rw [if_neg e, if_neg e, if_neg e]
      exact (h.own j hj).kept hg (h.apart j i hj hi e).kept
  · unfold upd
    by_cases e1 : a = i
    · have e2 : b ≠ i := fun e2 => hab (e1.trans e2.symm)
      rw [if_pos e1, if_neg e2]
      exact (new b hb e2).symm
    · rw [if_neg e1]
      by_cases e2 : b = i
      · rw [if_pos e2]; exact new a ha e1
      · rw [if_neg e2]; exact h.apart a b ha hb hab

/-- The law's numbers, as plain lists. -/
def modQ (m : Nat) (cs : List Nat) : List Int := cs.map fun n => ((n % 2 ^ m : Nat) : Int)
def rows (us : List (List UInt8)) (N : Nat) : List (List UInt8) := us.map fun u => rowL u N
theorem zip_all (m : Nat) (cs : List Int) (us : List (List UInt8)) (h : cs.length = us.length) : cmbK m cs us us.length = cmbF m (List.replicate (ul us) 0) ((cs.map Int.toNat).zip us) := by
  unfold cmbK
  rw [List.take_of_length_le (by rw [prs_len cs us h]; omega)]
  rfl
theorem ul_same {us : List (List UInt8)} {N : Nat} (h : ∀ u ∈ us, u.length = N) (h0 : 0 < us.length) : ul us = N := by
  rw [← ul_zero us h0]
  exact h _ (List.getElem_mem h0)
theorem gd_of {m N : Nat} (hm : Fm m) (hN : N % (m / 8) = 0) {cs : List Int} {us : List (List UInt8)} (h0 : 0 < us.length) (hl : cs.length = us.length) (hc : ∀ c ∈ cs, vd (m : Int) c = true) (hu : ∀ u ∈ us, u.length = N) : Gd (m : Int) cs us :=
  ⟨by omega, hl, hc, fun u hu' => by rw [ul_same hu h0]; exact hu u hu', by rw [ul_same hu h0, Int.toNat_natCast]; exact hN⟩
theorem mem_zipWith_len {N : Nat} : ∀ {a b : List (List UInt8)}, (∀ u ∈ a, u.length = N) → (∀ u ∈ b, u.length = N) → ∀ u ∈ List.zipWith xr a b, u.length = N
  | [], _, _, _, u, h => by simp at h
  | _ :: _, [], _, _, u, h => by simp at h
  | x :: a, y :: b, ha, hb, u, h => by
    rw [List.zipWith_cons_cons] at h
    rcases List.mem_cons.1 h with h | h
    · rw [h, xr_len _ _ ((ha x (by simp)).trans (hb y (by simp)).symm)]
      exact ha x (by simp)
    · exact mem_zipWith_len (fun v hv => ha v (by simp [hv])) (fun v hv => hb v (by simp [hv])) u h
theorem lin_sum {m N : Nat} (hm : Fm m) (hN : N % (m / 8) = 0) (cs : List Int) (a b : List (List UInt8)) (h0 : 0 < a.length) (ha : cs.length = a.length) (hb : cs.length = b.length) (hla : ∀ u ∈ a, u.length = N) (hlb : ∀ u ∈ b, u.length = N) :
    cmbK m cs (List.zipWith xr a b) (List.zipWith xr a b).length = xr (cmbK m cs a a.length) (cmbK m cs b b.length) := by
  have hz : (List.zipWith xr a b).length = a.length := by rw [List.length_zipWith]; omega
  have hlz := mem_zipWith_len hla hlb
  rw [zip_all m cs _ (ha.trans hz.symm), zip_all m cs a ha, zip_all m cs b hb, ul_same hlz (by omega), ul_same hla h0, ul_same hlb (by omega)]
  have hr : (List.replicate N (0 : UInt8)).length = N := List.length_replicate
  have e := cmb_add hm N (cs.map Int.toNat) a b (List.replicate N 0) (List.replicate N 0) (by unfold whl; rw [hr]; exact hN) hr hr (by rw [List.length_map, ha]) (by rw [List.length_map, hb]) hla hlb
  have e2 := xr_zero (List.replicate N 0)
  rw [hr] at e2
  rw [e2] at e
  exact e
theorem lin_scale {m N : Nat} (hm : Fm m) (hN : N % (m / 8) = 0) (d : Nat) (cs : List Int) (a : List (List UInt8)) (h0 : 0 < a.length) (ha : cs.length = a.length) (hla : ∀ u ∈ a, u.length = N) :
    cmbK m cs (a.map (sc m d)) (a.map (sc m d)).length = sc m d (cmbK m cs a a.length) := by
  have hlz : ∀ u ∈ a.map (sc m d), u.length = N := fun u hu => by
    obtain ⟨x, hx, rfl⟩ := List.mem_map.1 hu
    rw [sc_len hm d x (by unfold whl; rw [hla x hx]; exact hN), hla x hx]
  rw [zip_all m cs _ (by rw [List.length_map]; exact ha), zip_all m cs a ha, ul_same hlz (by rw [List.length_map]; exact h0), ul_same hla h0]
  have hr : (List.replicate N (0 : UInt8)).length = N := List.length_replicate
  have hw : whl m (List.replicate N 0) := by unfold whl; rw [hr]; exact hN
  have e := cmb_scale hm N d (cs.map Int.toNat) a (List.replicate N 0) hw hr (by rw [List.length_map, ha]) hla
  rw [sc_zero hm d N hw] at e
  exact e

theorem at_min {P : Program} {ops : Array Oper} {rest : List Oper} {Q : Exit → Act → World → Prop} {a : Act} {w : World} {xs : Array Operand} {ts : Array TypeId} {d t p f g}
    (h : wpList P ops Q ({ dst := d, op := .call { callee := .builtin .min, args := xs, argTypes := ts }, type := t, pos := p, after := f, guard := g } :: rest) a w) :
    wpList P ops Q ({ dst := d, op := .call { callee := .builtin .min, args := xs, argTypes := ts }, type := t, pos := p, after := f, guard := g } :: rest) a w := h
/-- The least of three integers. -/
theorem wpList_min3 {P : Program} {w : World} {ops : Array Oper} {rest : List Oper} {o : Oper} {a : Act} {Q : Exit → Act → World → Prop} (hgd : o.guard = none) (x y z : Operand) (ts : Array TypeId)
    (ho : o.op = .call { callee := .builtin .min, args := #[x, y, z], argTypes := ts }) (a1 a2 a3 r : Int) (hx : a.eval x = .int .i64 a1) (hy : a.eval y = .int .i64 a2) (hz : a.eval z = .int .i64 a3)
    (hr : (if a3 < (if a2 < a1 then a2 else a1) then a3 else (if a2 < a1 then a2 else a1)) = r) (h : wpList P ops Q rest (a.put o.dst (.int .i64 r)) w) : wpList P ops Q (o :: rest) a w :=
  wpList_plain hgd fun _ hK' => by
    unfold Oper.wp execOp
    simp only [ho, resolve, invoke, builtin, Sem.run_bind, Sem.run_pure, Result.andThen_ok, List.map_toArray, List.map_cons, List.map_nil, hx, hy, hz, run_min_int3, hr]
    exact hK' _ _ h
theorem RN.same {N : Nat} {es : Nat → TypeId} {w : World} {B : Nat} {vs : Nat → Value} {ks ks' : Nat → Nat} {ls ls' : Nat → List Value} (h : RN N es w B vs ks ls) (hk : ∀ i, i < N → ks i = ks' i) (hl : ∀ i, i < N → ls i = ls' i) : RN N es w B vs ks' ls' :=
  ⟨fun i hi => by rw [← hk i hi, ← hl i hi]; exact h.own i hi, h.apart⟩
theorem RN.none (N : Nat) (es : Nat → TypeId) (w : World) (B : Nat) : RN N es w B (fun _ => .slice none 0 0) (fun _ => 0) (fun _ => []) :=
  ⟨fun i _ => World.ownsRow_nil _ _ _ _, fun i j _ _ _ k hk => by cases hk⟩

theorem scaleN {w W : World} (hT : Tabs w) (hW : Below w.heap.size w W) {m c : Nat} (hm : Fm m) (hc : c < 2 ^ m) (l : List UInt8) (hw : l.length % (m / 8) = 0) (hl : l.length ≤ 100000) :
    Calls Tryd.prog 24 #[.int .i64 (m : Int), .int .i64 (c : Int), .string (str l)] W fun e w' => e = .returned (.tuple #[.string (str (sc m c l)), .int .i64 0]) ∧ Below w.heap.size w w' := by
  have h := scale_b hT hW (m : Int) (c : Int) l hl
  rw [scR, scE, if_pos ⟨vd_true hm hc, by rw [Int.toNat_natCast]; exact hw⟩, if_pos ⟨vd_true hm hc, by rw [Int.toNat_natCast]; exact hw⟩] at h
  exact h
theorem xorN {w W : World} (hW : Below w.heap.size w W) (a b : List UInt8) (h : a.length = b.length) (hl : a.length ≤ 100000) :
    Calls Tryd.prog 26 #[.string (str a), .string (str b)] W fun e w' => e = .returned (.tuple #[.string (str (xr a b)), .int .i64 0]) ∧ Below w.heap.size w w' := by
  have h2 := xor_b hW a b hl
  rw [xrS, xrE, if_pos h, if_pos h] at h2
  exact h2
theorem combineN {w W : World} (hT : Tabs w) (hW : Below w.heap.size w W) {m N : Nat} (hm : Fm m) (hN : N % (m / 8) = 0) (hNl : N ≤ 1000) (A : Option Addr) (ca : Nat) (cs : List Int) (D : Option Addr) (cd : Nat) (us : List (List UInt8))
    (n : Nat) (h0 : 0 < n) (h8 : n ≤ 8) (hl : cs.length = n) (hlu : us.length = n) (hc : ∀ c ∈ cs, vd (m : Int) c = true) (hu : ∀ u ∈ us, u.length = N) (hS : Sl W W.heap.size A 1 n (cs.map iv)) (hU : Sl W W.heap.size D 1 n (us.map sv)) :
    Calls Tryd.prog 22 #[.int .i64 (m : Int), .slice A n ca, .slice D n cd] W fun e w' => e = .returned (.tuple #[.string (str (cmbK m cs us us.length)), .int .i64 0]) ∧ Below w.heap.size w w' := by
  have hg : Gd (m : Int) cs us := gd_of hm hN (by omega) (by omega) hc hu
  have h := combine_any (m : Int) A ca cs D cd us W (hT.keep hW) (by omega) (by rw [ul_same hu (by omega)]; omega) (by rw [hl]; exact hS) (by rw [hlu]; exact hU)
  rw [cbS, cbE, if_pos hg, if_pos hg, Int.toNat_natCast, hl] at h
  rw [hlu] at h ⊢
  exact h.mono fun e w' q => ⟨q.1, hW.trans (q.2.mono hW.size)⟩
theorem rowN {w W : World} (hW : Below w.heap.size w W) (l : List UInt8) (n : Nat) (hn : n ≤ 1000) :
    Calls Tryd.prog 30 #[.string (str l), .int .i64 (n : Int)] W fun e w' => e = .returned (.string (str (rowL l n))) ∧ Below w.heap.size w w' :=
  (row_any l n hn W).mono fun e w' q => ⟨q.1, hW.trans (q.2.mono hW.size)⟩
theorem rows_len (us : List (List UInt8)) (N : Nat) : ∀ u ∈ rows us N, u.length = N := fun u hu => by
  obtain ⟨x, _, rfl⟩ := List.mem_map.1 hu
  exact rowL_len x N
theorem modQ_ok {m : Nat} (hm : Fm m) (cs : List Nat) : ∀ c ∈ modQ m cs, vd (m : Int) c = true := fun c hc => by
  obtain ⟨x, _, rfl⟩ := List.mem_map.1 hc
  exact vd_true hm (Nat.mod_lt _ (Nat.two_pow_pos m))
theorem take_at {α : Type} (l : List α) (k : Nat) (x : α) (h : k < l.length) (hx : l[k] = x) : l.take (k + 1) = l.take k ++ [x] := by rw [take_snoc l k h, hx]

/-- The five rows of the law, and their elements' types. -/
def ES (i : Nat) : TypeId := if i = 0 then 3 else 9
def LS (m : Nat) (cs : List Nat) (us vs : List (List UInt8)) (N c k i : Nat) : List Value :=
  match i with
  | 0 => ((modQ m cs).take k).map iv
  | 1 => ((rows us N).take k).map sv
  | 2 => ((rows vs N).take k).map sv
  | 3 => ((List.zipWith xr (rows us N) (rows vs N)).take k).map sv
  | _ => (((rows us N).map (sc m c)).take k).map sv
section
variable (m : Nat) (cs : List Nat) (us vs : List (List UInt8)) (N c k : Nat) (h1 : k < cs.length) (h2 : k < us.length) (h3 : k < vs.length)
theorem LS_next0 : LS m cs us vs N c (k + 1) 0 = LS m cs us vs N c k 0 ++ [iv ((cs[k] % 2 ^ m : Nat) : Int)] := by
  show ((modQ m cs).take (k + 1)).map iv = _
  rw [take_at (modQ m cs) k ((cs[k] % 2 ^ m : Nat) : Int) (by unfold modQ; rw [List.length_map]; exact h1) (by unfold modQ; rw [List.getElem_map]), List.map_append]
  rfl
theorem LS_next1 : LS m cs us vs N c (k + 1) 1 = LS m cs us vs N c k 1 ++ [sv (rowL us[k] N)] := by
  show ((rows us N).take (k + 1)).map sv = _
  rw [take_at (rows us N) k (rowL us[k] N) (by unfold rows; rw [List.length_map]; exact h2) (by unfold rows; rw [List.getElem_map]), List.map_append]
  rfl
theorem LS_next2 : LS m cs us vs N c (k + 1) 2 = LS m cs us vs N c k 2 ++ [sv (rowL vs[k] N)] := by
  show ((rows vs N).take (k + 1)).map sv = _
  rw [take_at (rows vs N) k (rowL vs[k] N) (by unfold rows; rw [List.length_map]; exact h3) (by unfold rows; rw [List.getElem_map]), List.map_append]
  rfl
theorem LS_next3 : LS m cs us vs N c (k + 1) 3 = LS m cs us vs N c k 3 ++ [sv (xr (rowL us[k] N) (rowL vs[k] N))] := by
  show ((List.zipWith xr (rows us N) (rows vs N)).take (k + 1)).map sv = _
  rw [take_at (List.zipWith xr (rows us N) (rows vs N)) k (xr (rowL us[k] N) (rowL vs[k] N)) (by unfold rows; rw [List.length_zipWith, List.length_map, List.length_map]; omega) (by unfold rows; rw [List.getElem_zipWith, List.getElem_map, List.getElem_map]), List.map_append]
  rfl
theorem LS_next4 : LS m cs us vs N c (k + 1) 4 = LS m cs us vs N c k 4 ++ [sv (sc m c (rowL us[k] N))] := by
  show (((rows us N).map (sc m c)).take (k + 1)).map sv = _
  rw [take_at ((rows us N).map (sc m c)) k (sc m c (rowL us[k] N)) (by unfold rows; rw [List.length_map, List.length_map]; exact h2) (by unfold rows; rw [List.getElem_map, List.getElem_map]), List.map_append]
  rfl
end
theorem LS_zero (m : Nat) (cs : List Nat) (us vs : List (List UInt8)) (N c i : Nat) (h : i < 5) : [] = LS m cs us vs N c 0 i := by
  rcases (show i = 0 ∨ i = 1 ∨ i = 2 ∨ i = 3 ∨ i = 4 by omega) with rfl | rfl | rfl | rfl | rfl <;> rfl
theorem five {p : Nat → Prop} (h0 : p 0) (h1 : p 1) (h2 : p 2) (h3 : p 3) (h4 : p 4) : ∀ i, i < 5 → p i := fun i h => by
  rcases (show i = 0 ∨ i = 1 ∨ i = 2 ∨ i = 3 ∨ i = 4 by omega) with rfl | rfl | rfl | rfl | rfl
  · exact h0
  · exact h1
  · exact h2
  · exact h3
  · exact h4

end Go.Proofs.YtihepogccgcfkaaDoor
