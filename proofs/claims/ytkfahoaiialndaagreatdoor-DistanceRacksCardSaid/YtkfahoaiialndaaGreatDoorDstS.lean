/-
  The reference's valid and fatal, walked.
-/
import Derived.Laws.AppendOwnNone
import Derived.Test.YtkfahoaiialndaaGreatDoorD9a
import Derived.Test.YtkfahoaiialndaaGreatDoorD9b
import Derived.Test.YtkfahoaiialndaaGreatDoorD9c
import Derived.Test.YtkfahoaiialndaaGreatDoorD9d
import Derived.Test.YtkfahoaiialndaaGreatDoorD9f
import Derived.Test.YtkfahoaiialndaaGreatDoorD9g
import Derived.Test.YtkfahoaiialndaaGreatDoorD9h
import Derived.Test.YtkfahoaiialndaaGreatDoorD9i
import Derived.Test.YtkfahoaiialndaaGreatDoorDstA
import Derived.Test.YtkfahoaiialndaaGreatDoorDstB
import Derived.Test.YtkfahoaiialndaaGreatDoorDstR
namespace Go.Proofs.YtkfahoaiialndaaGreatDoor
open Go.RowKit
set_option linter.unusedVariables false
set_option linter.unusedSimpArgs false

theorem add_sm9 {x : Cd} (h : Sm9 x) (T : TypeId) : binOp .add T (.int .i64 x.data) (.int .i64 (x.par.length : Int)) = pure (.int .i64 (x.data + x.par.length)) := by
  have := h.lo
  have := h.hi
  have := h.par
  rw [binOp_add]
  simp only [Op.intArith]
  rw [IntWalk.i64_in _ (by omega)]
theorem sub_one (T : TypeId) (n : Nat) : binOp .sub T (.int .i64 ((n + 1 : Nat) : Int)) (.int .i64 1) = pure (.int .i64 (IntKind.i64.wrap ((n + 1 : Nat) - 1 : Int))) := rfl
theorem sub_c1 (T : TypeId) (n : Nat) (h : n ≤ 1000) : binOp .sub T (.int .i64 ((n + 1 : Nat) : Int)) (.int .i64 1) = pure (.int .i64 (n : Int)) := by
  rw [sub_one, show (((n + 1 : Nat) : Int) - 1) = (n : Int) by omega, IntWalk.i64_in _ (by omega)]
set_option maxHeartbeats 1000000 in
theorem rvalid9_any (x : Cd) (A : Option Addr) (c : Nat) (w : World) (hx : CIn w x A) (hnm : x.name.length ≤ 9223372036854775807) (hs9 : Sm9 x) (n : Nat) :
    Calls Tryz.prog 27 #[x.v A c, .int .i64 (n : Int)] w fun e w' => e = .returned (.bool (okX x n)) ∧ Below w.heap.size w w' := by
  obtain ⟨W, hW⟩ : ∃ W, W = w.alloc (.cells (x.cs A c).toArray 24) := ⟨_, rfl⟩
  have hbw : Below w.heap.size w W := by rw [hW]; exact below_new w _
  have HB := hideIt hbw
  have HBC := hideIt (show BC W w.heap.size x A c by rw [hW]; exact BC.new c hx)
  have HV := hideIt (show Calls Tryz.prog 41 #[x.v A c] W fun e w' => e = .returned (.int .i64 (checkX x)) ∧ Below W.heap.size W w' from rcheck_any x A c W HBC.out.cin hnm)
  have hq0 := i_eql 58 .i64 (checkX x) 0
  have HWE := hideIt hW
  have hadd := add_sm9 hs9 3
  have hq1 := i_eql 3 .i64 (n : Int) (x.data + x.par.length)
  have HOK := hideIt (show okX x n = (decide (checkX x = 0) && decide ((n : Int) = x.data + x.par.length)) from rfl)
  clear hbw hx hW hs9
  generalize okX x n = r at *
  generalize hz : x.data + x.par.length = z at *
  clear hz
  by_cases h0 : checkX x = 0
  · rw [decide_eq_true h0] at hq0 HOK
    rw [Bool.true_and] at HOK
    rw [← HOK.out] at hq1
    have HZ := hideIt h0
    clear h0
    generalize checkX x = ec at *
    go_enter Tryz.func27, Tryz.ntmps27
    go_wp2_with (first
      | ((with_reducible refine at_load ?_); refine wpList_ldC (by kernel_rfl) (.tmp 2) rfl (p := w.heap.size) (c := c) rfl (by rw [← HWE.out]; exact HBC.out.box) ?_)
      | (go_at_call 41; rw [← HWE.out]; refine HV.out.mono ?_; rintro e w1 ⟨rfl, hb1⟩; have HB1 := hideIt hb1; have c2 := (HBC.out.keep hb1).c2; have c3 := (HBC.out.keep hb1).box.cell 3; clear hb1 HV))
    go_ret
    exact ⟨rfl, HB.out.trans (HB1.out.mono HB.out.size)⟩
  · rw [decide_eq_false h0] at hq0 HOK
    rw [Bool.false_and] at HOK
    clear h0
    generalize checkX x = ec at *
    go_enter Tryz.func27, Tryz.ntmps27
    go_wp2_with (first
      | ((with_reducible refine at_load ?_); refine wpList_ldC (by kernel_rfl) (.tmp 2) rfl (p := w.heap.size) (c := c) rfl (by rw [← HWE.out]; exact HBC.out.box) ?_)
      | (go_at_call 41; rw [← HWE.out]; refine HV.out.mono ?_; rintro e w1 ⟨rfl, hb1⟩; have HB1 := hideIt hb1; clear hb1 HV))
    go_ret
    exact ⟨by rw [HOK.out]; rfl, HB.out.trans (HB1.out.mono HB.out.size)⟩

section
variable {ops : Array Oper} {rest : List Oper} {o : Oper} {a : Act} {Q : Exit → Act → World → Prop} {w : World}
/-- A row of numbers, appended to nothing. -/
theorem wpList_apE {S : List Nat} {E : Option Addr} {ce : Nat} (hgd : o.guard = none) (s x : Operand) (ho : o.op = .call { callee := .builtin .append, args := #[s, x], argTypes := #[26, 26] })
    (hs : a.eval s = .slice none 0 0) (hx : a.eval x = .slice E S.length ce) (hE : Sl w w.heap.size E 1 S.length ((nI S).map iv)) (hE0 : S = [] → Value.slice E S.length ce = .slice none 0 0) (hn : S.length ≤ 1000)
    (h : ∀ v' w', Hid (w'.ownsRow w.heap.size 3 1 v' S.length ((nI S).map iv)) → Hid (Below w.heap.size w w') → wpList Tryz.prog ops Q rest (a.put o.dst v') w') :
    wpList Tryz.prog ops Q (o :: rest) a w := by
  by_cases h0 : S = []
  · obtain ⟨i, h2, _⟩ := info_parts (P := Tryz.prog) (e := 3) (z := .int .i64 0) (size := 1) (bytes := 8) (by kernel_rfl)
    refine wpList_append_own_none hgd s x 26 ho w.heap.size 3 i 1 Tryz.underlying26 h2 _ 0 [] hs (World.ownsRow_nil w _ _ 1) (by rw [hx, hE0 h0]) (h _ _ ?_ (Below.refl _ _))
    rw [h0]
    exact World.ownsRow_nil w _ _ 1
  · obtain ⟨b, off, rfl, hb, hc⟩ := hE.2 (by rw [List.length_map, nI_len]; exact List.length_pos_iff.2 h0)
    refine wpList_apG (base := w.heap.size) (z := .int .i64 0) (size := 1) (bytes := 8) (n := 0) (m := S.length) (xs := []) (news := (nI S).map iv) Tryz.underlying26 (by kernel_rfl) rfl (by decide) (by decide) hgd s x ho hs (World.ownsRow_nil w _ _ 1) hx (by simp) (fun j u hu => by rw [addr_add]; exact hc j u hu) (iv_one _) (by omega) (Nat.le_refl _) fun v' w' q1 _ _ q2 => h v' w' (by rw [Nat.zero_add] at q1; exact q1) q2
end
theorem rg_next {i N : Nat} (h : i < N) (f : Nat → Option (List Nat)) : (List.range' i (N - i)).findSome? f = match f i with | some l => some l | none => (List.range' (i + 1) (N - (i + 1))).findSome? f := by
  rw [show N - i = (N - (i + 1)) + 1 by omega, List.range'_succ, List.findSome?_cons]
  cases f i <;> rfl
/-- What fatal answers. -/
def FtRes (w : World) (r : Option (List Nat)) (e : Ending) (w' : World) : Prop :=
  ∃ F k cf, e = .returned (.tuple #[.slice F k cf, .bool r.isSome]) ∧ (∀ l, r = some l → k = l.length ∧ Sl w' w'.heap.size F 1 l.length ((nI l).map iv)) ∧ Below w.heap.size w w'
set_option maxHeartbeats 4000000 in
theorem fatal_any (x : Cd) (A : Option Addr) (c : Nat) (hs9 : Sm9 x) {m n0 : Nat} (hvc : VC x m n0) (hs : List Bool) (hl : hs.length ≤ 9) (h0 : 0 < hs.length) (D : Option Addr) (cd : Nat) :
    ∀ (n : Nat) (S : List Nat) (fr : Nat) (w : World) (E : Option Addr) (ce : Nat), n ≤ 5 → S.length + n ≤ 10 → (∀ i ∈ S, i < hs.length) → fr ≤ hs.length → CIn w x A → Sl w w.heap.size D 1 hs.length (hs.map bl) → Sl w w.heap.size E 1 S.length ((nI S).map iv) → (S = [] → Value.slice E S.length ce = .slice none 0 0) →
      Calls Tryz.prog 30 #[x.v A c, .slice D hs.length cd, .slice E S.length ce, .int .i64 (fr : Int), .int .i64 (n : Int)] w (FtRes w (ftl (dcX x) hs n S fr)) := by
  intro n
  induction n with
  | zero =>
    intro S fr w E ce hn hSn hin hfr hx hD hE hE0
    obtain ⟨W, hW⟩ : ∃ W, W = w.alloc (.cells (x.cs A c).toArray 24) := ⟨_, rfl⟩
    have hbw : Below w.heap.size w W := by rw [hW]; exact below_new w _
    have HB := hideIt hbw
    have HBC := hideIt (show BC W w.heap.size x A c by rw [hW]; exact BC.new c hx)
    have HBX := hideIt HBC.out.box
    have HD := hideIt ((hD.below hbw).wide hbw.size)
    have HE := hideIt ((hE.below hbw).wide hbw.size)
    have HWO := hideIt (fun (W2 : World) (h : Below W.heap.size W W2) => without_any hs S (by omega) h0 (by omega) hin D cd E ce W2 ((HD.out.below h).wide h.size) ((HE.out.below h).wide h.size))
    have hwl : (wo hs S).length = hs.length := wo_len S hs
    have HDC := hideIt (fun (W2 : World) (h : Below W.heap.size W W2) (G : Option Addr) (cg : Nat) (hG : Sl W2 W2.heap.size G 1 hs.length ((wo hs S).map bl)) =>
      show Calls Tryz.prog 28 #[x.v A c, .slice G hs.length cg] W2 (fun e w' => e = .returned (.bool (dcX x (wo hs S))) ∧ Below W2.heap.size W2 w') by
        have := rdecodable_any x A c W2 (HBC.out.keep h).cin (hvc.sm hs9) (wo hs S) G cg (by rw [hwl]; exact hG)
        rw [hwl] at this
        exact this)
    have HWE := hideIt hW
    have HR := hideIt (show ftl (dcX x) hs 0 S fr = if dcX x (wo hs S) = true then none else some S from rfl)
    have hnot := not_b
    clear hbw hx hW hD hE
    generalize dcX x (wo hs S) = q at *
    generalize ftl (dcX x) hs 0 S fr = r at *
    go_enter Tryz.func30, Tryz.ntmps30
    go_wp2_with fail
    rw [← HWE.out]
    refine loads_begin_n 6 [(4, fun W => Blk W w.heap.size 24 (x.cs A c))] rfl (by kernel_rfl) ?_
    try simp only [Act.put]
    try simp only [List.setIfInBounds_toArray]
    try simp only [List.set_cons_succ]
    try simp only [List.set_cons_zero]
    refine wpAnyL_take (oi := ⟨some 19, _, _, _, _, _⟩) 0 4 (x.v A c) _ rfl (by kernel_rfl) (by kernel_rfl) (by kernel_rfl) (by kernel_rfl) (by kernel_rfl) (by kernel_rfl) (.head _) (fun _ _ _ h => h) (by kernel_rfl) (fun W' hW' => exec_load_blk (cs := x.cs A c) rfl rfl hW' _ Tryz.underlying24 rfl isz5) (Hooks.add HBX.out (Hooks.nil _ _)) ?_
    try simp only [Act.put]
    try simp only [List.setIfInBounds_toArray]
    try simp only [List.set_cons_succ]
    try simp only [List.set_cons_zero]
    refine wpAnyL_move (oi := ⟨some 20, _, _, _, _, _⟩) 1 ?_ rfl (by kernel_rfl) (by kernel_rfl) (by kernel_rfl) (by kernel_rfl) (fun _ _ _ h => h) (by kernel_rfl) ?_ ((Hooks.add HBX.out (Hooks.nil _ _))) ?_
    rotate_left
    · intro W'; go_simp; first | done | with_reducible rfl
    try simp only [Act.put]
    try simp only [List.setIfInBounds_toArray]
    try simp only [List.set_cons_succ]
    try simp only [List.set_cons_zero]
    refine wpAnyL_move (oi := ⟨some 21, _, _, _, _, _⟩) 2 ?_ rfl (by kernel_rfl) (by kernel_rfl) (by kernel_rfl) (by kernel_rfl) (fun _ _ _ h => h) (by kernel_rfl) ?_ ((Hooks.add HBX.out (Hooks.nil _ _))) ?_
    rotate_left
    · intro W'; go_simp; first | done | with_reducible rfl
    try simp only [Act.put]
    try simp only [List.setIfInBounds_toArray]
    try simp only [List.set_cons_succ]
    try simp only [List.set_cons_zero]
    refine wpAnyL_one (o := ⟨some 22, _, _, _, _, _⟩) 3 (by kernel_rfl) rfl (fun K hK => ?_)
    go_wp2_with (first
      | (go_at_call 44; refine (HWO.out _ (Below.refl W.heap.size W).drew).mono ?_; rintro e w5 ⟨A5, c5, rfl, ho5, hb5⟩))
    have hb45 : Below W.heap.size W w5 := (Below.refl W.heap.size W).drew.trans hb5
    have HL5 := hideIt hb45
    have HS5 := hideIt (Sl.of_own ho5)
    have HBX5 := hideIt (HBC.out.keep hb45).box
    refine hK _ _ (Hooks.add HBX5.out (Hooks.nil _ _)) ?_
    clear hK K ho5 hb5 hb45 HBX HWO
    try simp only [Act.put]
    try simp only [List.setIfInBounds_toArray]
    try simp only [List.set_cons_succ]
    try simp only [List.set_cons_zero]
    refine wpAnyL_one (o := ⟨some 23, _, _, _, _, _⟩) 4 (by kernel_rfl) rfl (fun K hK => ?_)
    go_wp2_with (first
      | (go_at_call 28; refine (HDC.out _ HL5.out _ _ HS5.out).mono ?_; rintro e w6 ⟨rfl, hb6⟩))
    have HL6 := hideIt (HL5.out.trans (hb6.mono HL5.out.size))
    refine hK _ _ (Hooks.skip (by kernel_rfl) (Hooks.nil _ _)) ?_
    clear hK K hb6 HDC HBX5
    try simp only [Act.put]
    try simp only [List.setIfInBounds_toArray]
    try simp only [List.set_cons_succ]
    try simp only [List.set_cons_zero]
    refine loads_tail 5 (by kernel_rfl) (by kernel_rfl) (by kernel_rfl) (by kernel_rfl) ?_
    simp only [List.drop_succ_cons, List.drop_zero]
    cases q with
    | true =>
      obtain rfl : r = none := HR.out.trans (if_pos rfl)
      go_wp2_with fail
      go_ret2
      exact ⟨_, _, _, rfl, fun l h => (by cases h), HB.out.trans (HL6.out.mono HB.out.size)⟩
    | false =>
      obtain rfl : r = some S := HR.out.trans (if_neg (by decide))
      go_wp2_with fail
      go_ret2
      exact ⟨_, _, _, rfl, fun l h => (by injection h with h; subst h; exact ⟨rfl, (HE.out.below HL6.out).wide HL6.out.size⟩), HB.out.trans (HL6.out.mono HB.out.size)⟩
  | succ n ih =>
    intro S fr w E ce hn hSn hin hfr hx hD hE hE0
    obtain ⟨W, hW⟩ : ∃ W, W = w.alloc (.cells (x.cs A c).toArray 24) := ⟨_, rfl⟩
    have hbw : Below w.heap.size w W := by rw [hW]; exact below_new w _
    have HB := hideIt hbw
    have HBC := hideIt (show BC W w.heap.size x A c by rw [hW]; exact BC.new c hx)
    have HD := hideIt ((hD.below hbw).wide hbw.size)
    have HE := hideIt ((hE.below hbw).wide hbw.size)
    have HWE := hideIt hW
    obtain ⟨F0, hF0⟩ : ∃ f : Nat → Option (List Nat), f = fun i => if hs.getD i false = true then ftl (dcX x) hs n (S ++ [i]) (i + 1) else none := ⟨_, rfl⟩
    have HR := hideIt (show ftl (dcX x) hs (n + 1) S fr = (List.range' fr (hs.length - fr)).findSome? F0 by rw [hF0]; rfl)
    have HF0 := hideIt (fun i (hp : hs.getD i false = false) => show F0 i = none by rw [hF0]; show (if hs.getD i false = true then _ else none) = none; rw [hp]; rfl)
    have HIH := hideIt (fun (W2 : World) (h : Below W.heap.size W W2) (i : Nat) (hi : i < hs.length) (hp : hs.getD i false = true) (G : Option Addr) (cg : Nat) (hG : Sl W2 W2.heap.size G 1 (S.length + 1) ((nI S ++ [(i : Int)]).map iv)) =>
      show Calls Tryz.prog 30 #[x.v A c, .slice D hs.length cd, .slice G (S.length + 1) cg, .int .i64 ((i + 1 : Nat) : Int), .int .i64 (n : Int)] W2 (FtRes W2 (F0 i)) by
        have h1 : (S ++ [i]).length = S.length + 1 := by rw [List.length_append]; rfl
        have := ih (S ++ [i]) (i + 1) W2 G cg (by omega) (by rw [h1]; omega) (fun j hj => by
          rcases List.mem_append.1 hj with hj | hj
          · exact hin j hj
          · rw [List.mem_singleton.1 hj]; exact hi) (by omega) (HBC.out.keep h).cin ((HD.out.below h).wide h.size) (by rw [h1, show nI (S ++ [i]) = nI S ++ [(i : Int)] from List.map_append]; exact hG) (fun q => by simp at q)
        rw [h1] at this
        rw [show F0 i = ftl (dcX x) hs n (S ++ [i]) (i + 1) by rw [hF0]; exact if_pos hp]
        exact this)
    have hsub := sub_c1 3 n (by omega)
    have hq0 := i_eql 3 .i64 ((n + 1 : Nat) : Int) 0
    rw [decide_eq_false (by omega)] at hq0
    have hnot := not_b
    have hSl : S.length ≤ 1000 := by omega
    clear hbw hx hW hD hE hF0 ih hn hSn hin
    generalize ftl (dcX x) hs (n + 1) S fr = r at *
    generalize ((n + 1 : Nat) : Int) = n1 at *
    go_enter Tryz.func30, Tryz.ntmps30
    go_wp2_with fail
    rw [← HWE.out]
    go_loopg [13] (hs.length - fr) (fun gk s13 wr => ∃ i : Nat, i + gk = hs.length ∧ s13 = .int .i64 (i : Int) ∧ Aside (r = (List.range' i (hs.length - i)).findSome? F0) ∧ Aside (Below W.heap.size W wr))
    case atStart => exact ⟨fr, by omega, rfl, HR.out, Below.refl _ _⟩
    case round =>
      obtain ⟨i, hi, rfl, HRI, HL⟩ := hrel
      obtain ⟨w4, rfl⟩ : ∃ x, x = wr := ⟨wr, rfl⟩
      by_cases hlt : i < hs.length
      · obtain ⟨b, o, v, rfl, hb, hv, hc⟩ := (HD.out.below HL.out).at_ hlt
        rw [List.getElem?_map, List.getElem?_eq_getElem hlt] at hv
        injection hv with hv
        subst hv
        change w4.cell? ⟨b, o + i, none⟩ = some (.bool hs[i]) at hc
        have hinc := inc_c 3 i (by omega)
        have hki : (i : Int) < (hs.length : Int) := by omega
        have HRN := hideIt (rg_next hlt F0)
        have HBX := hideIt (HBC.out.keep HL.out).box
        have HE4 := hideIt ((HE.out.below HL.out).wide HL.out.size)
        have HLT := hideIt hlt
        obtain ⟨bk, hbk⟩ : ∃ q, q = hs[i] := ⟨_, rfl⟩
        have hgd : hs.getD i false = bk := (gD hlt).trans hbk.symm
        replace hc : w4.cell? ⟨b, o + i, none⟩ = some (.bool bk) := by rw [hbk]; exact hc
        clear hbk
        cases bk with
        | false =>
          have HNX := hideIt (show r = (List.range' (i + 1) (hs.length - (i + 1))).findSome? F0 by rw [HRI.out, HRN.out, HF0.out i hgd])
          clear hgd hb hlt
          go_wp2_with fail
          go_roundg (gk - 1)
          case measure => omega
          case rel => exact ⟨i + 1, by omega, by go_num, HNX.out, HL.out⟩
        | true =>
          have HI4 := hideIt (fun (W2 : World) (h : Below W.heap.size W W2) => HIH.out W2 h i hlt hgd)
          clear hgd hb hlt
          cases hq : F0 i with
          | none =>
            rw [hq] at HRN HI4
            have HNX := hideIt (show r = (List.range' (i + 1) (hs.length - (i + 1))).findSome? F0 by rw [HRI.out, HRN.out])
            clear hq
            go_wp2_with (first | ((with_reducible refine at_append ?_); refine wpList_apE rfl (.tmp 39) (.tmp 40) rfl rfl rfl HE4.out hE0 hSl ?_; intro v5 w5 HO5 HB5) | ((with_reducible refine at_append ?_); refine wpList_apI (y := (i : Int)) (n := S.length) (us := nI S) rfl (.tmp 42) (.tmp 44) rfl rfl HO5.out rfl (by omega) HB5.out.size ?_; intro v6 w6 HO6 HG6 HA6 HB6; obtain ⟨G6, c6, rfl, _, _⟩ := own_form HO6.out; have HL6 := hideIt (HL.out.trans ((HB5.out.trans HB6.out).mono HL.out.size)); have HS6 := hideIt (Sl.of_own HO6.out); have HBX6 := hideIt (HBC.out.keep HL6.out).box) | ((with_reducible refine at_load ?_); refine wpList_ldC (by kernel_rfl) (.tmp 5) rfl (p := w.heap.size) (c := c) rfl HBX6.out ?_) | (go_at_call 30; refine (HI4.out _ HL6.out _ _ HS6.out).mono ?_; rintro e w7 ⟨F7, k7, cf7, rfl, hF7, hb7⟩; have HF7 := hideIt hF7; have HL7 := hideIt (HL6.out.trans (hb7.mono HL6.out.size)); clear hF7 hb7))
            go_roundg (gk - 1)
            case measure => omega
            case rel => exact ⟨i + 1, by omega, by go_num, HNX.out, HL7.out⟩
          | some l =>
            rw [hq] at HRN HI4
            obtain rfl : r = some l := by rw [HRI.out, HRN.out]
            clear hq
            go_wp2_with (first | ((with_reducible refine at_append ?_); refine wpList_apE rfl (.tmp 39) (.tmp 40) rfl rfl rfl HE4.out hE0 hSl ?_; intro v5 w5 HO5 HB5) | ((with_reducible refine at_append ?_); refine wpList_apI (y := (i : Int)) (n := S.length) (us := nI S) rfl (.tmp 42) (.tmp 44) rfl rfl HO5.out rfl (by omega) HB5.out.size ?_; intro v6 w6 HO6 HG6 HA6 HB6; obtain ⟨G6, c6, rfl, _, _⟩ := own_form HO6.out; have HL6 := hideIt (HL.out.trans ((HB5.out.trans HB6.out).mono HL.out.size)); have HS6 := hideIt (Sl.of_own HO6.out); have HBX6 := hideIt (HBC.out.keep HL6.out).box) | ((with_reducible refine at_load ?_); refine wpList_ldC (by kernel_rfl) (.tmp 5) rfl (p := w.heap.size) (c := c) rfl HBX6.out ?_) | (go_at_call 30; refine (HI4.out _ HL6.out _ _ HS6.out).mono ?_; rintro e w7 ⟨F7, k7, cf7, rfl, hF7, hb7⟩; have HF7 := hideIt hF7; have HL7 := hideIt (HL6.out.trans (hb7.mono HL6.out.size)); clear hF7 hb7))
            go_ret2
            exact ⟨_, _, _, rfl, fun l' h => (by injection h with h; subst h; exact HF7.out _ rfl), HB.out.trans (HL7.out.mono HB.out.size)⟩
      · have hki : ¬ (i : Int) < (hs.length : Int) := by omega
        obtain rfl : r = none := by rw [HRI.out, show hs.length - i = 0 by omega]; rfl
        go_wp2_with fail
        go_ret2
        exact ⟨_, _, _, rfl, fun l' h => (by cases h), HB.out.trans (HL.out.mono HB.out.size)⟩
end Go.Proofs.YtkfahoaiialndaaGreatDoor
