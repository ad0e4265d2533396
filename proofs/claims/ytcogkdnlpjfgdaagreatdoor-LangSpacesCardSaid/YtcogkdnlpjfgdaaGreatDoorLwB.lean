/-
  What the laws' walks want of the functions: a code in a box, results as codes that can be read.
  The laws' check, walked.
-/
import Derived.Test.YtcogkdnlpjfgdaaGreatDoorRlW
import Derived.Test.YtcogkdnlpjfgdaaGreatDoorRlF
import Derived.Test.YtcogkdnlpjfgdaaGreatDoorRlE
import Derived.Test.YtcogkdnlpjfgdaaGreatDoorLpC
namespace Go.Proofs.YtcogkdnlpjfgdaaGreatDoor
open Go.RowKit
set_option linter.unusedVariables false
set_option linter.unusedSimpArgs false

/-- The code that is handed back. -/
def fixC (r : Cd × Int × Int) : Cd := if r.2.2 = 0 then r.1 else cd0
theorem good_len {x : Cd} (h : Good x) : x.par.length ≤ 9223372036854775807 ∧ (∀ l ∈ x.par, l.length ≤ 9223372036854775807) ∧ x.name.length < 9223372036854775807 := by
  have h1 := h.width
  have h2 := h.d1
  have h3 := h.d2
  have h4 := h.len
  refine ⟨by omega, fun l hl => ?_, by omega⟩
  have h5 := h.rows l hl
  rw [rowOk_iff, Bool.and_eq_true, Bool.and_eq_true] at h5
  have h6 := of_decide_eq_true h5.1.1
  omega
theorem fix_len (t : Bs) : (fixC (parseC t)).par.length ≤ 9223372036854775807 ∧ (∀ l ∈ (fixC (parseC t)).par, l.length ≤ 9223372036854775807) ∧ (fixC (parseC t)).name.length < 9223372036854775807 := by
  unfold fixC
  split
  · rename_i h
    exact good_len (parse_good h)
  · exact ⟨by decide, fun l hl => by simp [cd0] at hl, by decide⟩
theorem code_out {C : Nat} {t : Bs} {e : Ending} {w' : World} (h : CodeF C (parseC t) e w') :
    ∃ A c, e = .returned (.tuple #[cdV (fixC (parseC t)).name (fixC (parseC t)).field (fixC (parseC t)).data (.slice A (fixC (parseC t)).par.length c) (fixC (parseC t)).dom, .int .i64 (parseC t).2.1, .int .i64 (parseC t).2.2]) ∧ CIn w' (fixC (parseC t)) A := by
  obtain ⟨l1, l2, _⟩ := fix_len t
  rcases h with ⟨h0, A, c, rfl, hp⟩ | ⟨h0, rfl⟩
  · have hf : fixC (parseC t) = (parseC t).1 := if_pos h0
    rw [hf] at l1 l2 ⊢
    exact ⟨A, c, rfl, hp.pm, l1, l2⟩
  · have hf : fixC (parseC t) = cd0 := if_neg h0
    rw [hf] at l1 l2 ⊢
    exact ⟨none, 0, rfl, PM.nil _ _ _, l1, l2⟩
/-- A code in its box. -/
structure BC (W : World) (p : Nat) (x : Cd) (A : Option Addr) (c : Nat) : Prop where
  box : Blk W p 24 [sv x.name, .int .i64 x.field, .int .i64 x.data, .slice A x.par.length c, .int .i64 x.dom]
  cin : CIn W x A
theorem BC.keep {W W' : World} {p : Nat} {x : Cd} {A : Option Addr} {c : Nat} (h : BC W p x A c) (hb : Below W.heap.size W W') : BC W' p x A c := ⟨h.box.kept hb h.box.lt, h.cin.keep hb⟩
theorem BC.new {W : World} {x : Cd} {A : Option Addr} (c : Nat) (h : CIn W x A) : BC (W.alloc (.cells #[sv x.name, .int .i64 x.field, .int .i64 x.data, .slice A x.par.length c, .int .i64 x.dom] 24)) W.heap.size x A c :=
  ⟨Blk.new W 24 [sv x.name, .int .i64 x.field, .int .i64 x.data, .slice A x.par.length c, .int .i64 x.dom], h.keep (below_new W _)⟩
theorem la7 {w0 W : World} {o : Obj} (h : Below w0.heap.size w0 W) : Below w0.heap.size w0 (W.alloc o) := h.alloc h.size _
theorem ls7 {w0 P W : World} (h : Below w0.heap.size w0 P) (k : Below P.heap.size P W) : Below w0.heap.size w0 W := h.trans (k.mono h.size)
theorem sameB_self (x : Cd) : sameB x x = true := (sameB_iff x x).2 rfl

theorem PR.bounds {w : World} {C : Nat} {v : Value} {par : List (List Int)} (h : PR w C v par) : par.length ≤ 9223372036854775807 ∧ ∀ l ∈ par, l.length ≤ 9223372036854775807 := by
  obtain ⟨vs, h1, h2⟩ := h
  have big : maxLen ≤ 9223372036854775807 := by decide
  obtain ⟨_, _, _, hl⟩ := own_form h1
  refine ⟨by omega, fun l hl => ?_⟩
  obtain ⟨j, hj, rfl⟩ := List.mem_iff_getElem.1 hl
  obtain ⟨u, hu, A, c, _, h4⟩ := All2.at_ h2 (List.getElem?_eq_getElem hj)
  obtain ⟨_, _, _, hl4⟩ := own_form h4
  omega
theorem CdsR.csin {w : World} {C : Nat} {A : Option Addr} {n c : Nat} {xs : List Cd} (h : CdsR w C (.slice A n c) xs) : CsIn w xs A := by
  have hall : ∀ x ∈ xs, x.par.length ≤ 9223372036854775807 ∧ ∀ l ∈ x.par, l.length ≤ 9223372036854775807 := by
    intro x hx
    obtain ⟨css, _, h2⟩ := h
    obtain ⟨j, hj, rfl⟩ := List.mem_iff_getElem.1 hx
    obtain ⟨u, hu, A', c', _, h4⟩ := All2.at_ h2 (List.getElem?_eq_getElem hj)
    exact h4.bounds
  have hlen : xs.length ≤ 9223372036854775807 := by
    have big : maxLen ≤ 9223372036854775807 := by decide
    obtain ⟨css, h1, _⟩ := h
    obtain ⟨_, _, _, hl⟩ := own_form h1
    omega
  exact ⟨h.cm, hlen, fun x hx => (hall x hx).1, fun x hx => (hall x hx).2⟩
theorem CsIn.keep {w w' : World} {xs : List Cd} {A : Option Addr} (h : CsIn w xs A) (hb : Below w.heap.size w w') : CsIn w' xs A := ⟨(h.cm.below hb).wide hb.size, h.len, h.par, h.row⟩

/-- The example. -/
def exX : Cd := ⟨[97], 8, 3, [[1, 0, 7]], 2⟩
def exT : Bs := [99, 111, 100, 101, 32, 97, 32, 123, 10, 9, 102, 105, 101, 108, 100, 32, 56, 59, 10, 9, 100, 97, 116, 97, 32, 51, 59, 10, 9, 108, 111, 99, 97, 108, 32, 48, 32, 50, 58, 32, 49, 32, 55, 59, 10, 9, 100, 111, 109, 97, 105, 110, 32, 50, 59, 10, 125, 10]
def exU : Bs := [99, 111, 100, 101, 32, 97, 32, 123, 32, 102, 105, 101, 108, 100, 32, 56, 59, 32, 100, 97, 116, 97, 32, 50, 59, 32, 112, 97, 114, 105, 116, 121, 32, 49, 59, 32, 125]
def exV : Bs := [99, 111, 100, 101, 32, 97, 32, 123]
def exW : Bs := [99, 111, 100, 101, 32, 98, 32, 123, 32, 102, 105, 101, 108, 100, 32, 56, 59, 32, 100, 97, 116, 97, 32, 49, 59, 32, 112, 97, 114, 105, 116, 121, 32, 57, 59, 32, 125]
theorem num1 {n : Nat} (h : n < 10) : numS n = [UInt8.ofNat (48 + n)] := numS_lt h
theorem ex_good : Good exX := (checkC_good _).1 (by decide +kernel)
theorem ex_check : checkX exX = 0 := by decide +kernel
theorem cd0_check : checkX cd0 = 4 := by decide +kernel
theorem ex_printS : printS exX = exT := by
  unfold printS
  simp [exX, exT, numS_lt, rowS]
  decide +kernel
theorem ex_print : printX exX = (exT, 0) := by
  unfold printX
  rw [ex_printS, if_neg (by rw [ex_check]; simp), if_neg (by decide)]
theorem ex_parse : parseC exT = (exX, 0, 0) := by
  rw [← ex_printS]
  exact parse_print ex_good (by rw [ex_printS]; decide)
theorem ex_parseU : ((parseC exU).2.1, (parseC exU).2.2) = ((26 : Int), (1 : Int)) := by decide +kernel
theorem ex_parseV : ((parseC exV).2.1, (parseC exV).2.2) = ((8 : Int), (3 : Int)) := by decide +kernel
theorem ex_all : ((parseAllC (exT ++ exW)).1.length, (parseAllC (exT ++ exW)).2.1, (parseAllC (exT ++ exW)).2.2) = (2, (0 : Int), (0 : Int)) := by decide +kernel
theorem ex_all2 : ((parseAllC (exT ++ exT)).2.1, (parseAllC (exT ++ exT)).2.2) = ((63 : Int), (4 : Int)) := by decide +kernel
theorem ex_dom : (parseAllC (exT ++ exW)).1.map (fun x => x.dom) = [2, 2] := by decide +kernel

theorem BC.al {W : World} {p : Nat} {x : Cd} {A : Option Addr} {c : Nat} (h : BC W p x A c) (o : Obj) : BC (W.alloc o) p x A c := h.keep (below_new W o)
theorem own_cell {W : World} {xs : List Cd} {A : Option Addr} (h : CsIn W xs A) (hl : xs.length = 2) (hd : xs.map (fun x => x.dom) = [2, 2]) : ∃ b o, A = some ⟨b, o, none⟩ ∧ b < W.heap.size ∧ W.cell? ⟨b, o + 5 + 4, none⟩ = some (.int .i64 2) := by
  obtain ⟨b, o, A', c', hA, hb, hc, _⟩ := h.cm.code (j := 1) (by omega)
  refine ⟨b, o, hA, hb, ?_⟩
  have h4 := hc 4 _ rfl
  have h5 : (xs.map (fun x => x.dom))[1]? = some (xs[1]'(by omega)).dom := by rw [List.getElem?_map, List.getElem?_eq_getElem (by omega)]; rfl
  rw [hd] at h5
  injection h5 with h5
  rw [← h5] at h4
  exact h4

set_option maxHeartbeats 4000000 in
set_option maxRecDepth 100000 in
theorem sanity_any (w : World) (hT : TabW w) : Calls Tryz.prog 13 #[] w fun e w' => e = .returned (.bool true) ∧ Below w.heap.size w w' := by
  have HPR := hideIt (fun A c W (hW : Below w.heap.size w W) (h : CIn W exX A) => show Calls Tryz.prog 11 #[cdV [97] 8 3 (.slice A 1 c) 2] W (fun e w' => e = .returned (.tuple #[.string ⟨#[99, 111, 100, 101, 32, 97, 32, 123, 10, 9, 102, 105, 101, 108, 100, 32, 56, 59, 10, 9, 100, 97, 116, 97, 32, 51, 59, 10, 9, 108, 111, 99, 97, 108, 32, 48, 32, 50, 58, 32, 49, 32, 55, 59, 10, 9, 100, 111, 109, 97, 105, 110, 32, 50, 59, 10, 125, 10]⟩, .int .i64 0]) ∧ Below W.heap.size W w') by
    have h := print_any exX A c W h (hT.keep hW)
    rw [ex_print] at h
    exact h)
  have HP1 := hideIt (fun W => show Calls Tryz.prog 18 #[.string ⟨#[99, 111, 100, 101, 32, 97, 32, 123, 10, 9, 102, 105, 101, 108, 100, 32, 56, 59, 10, 9, 100, 97, 116, 97, 32, 51, 59, 10, 9, 108, 111, 99, 97, 108, 32, 48, 32, 50, 58, 32, 49, 32, 55, 59, 10, 9, 100, 111, 109, 97, 105, 110, 32, 50, 59, 10, 125, 10]⟩] W (fun e w' => (∃ A c, e = .returned (.tuple #[cdV [97] 8 3 (.slice A 1 c) 2, .int .i64 0, .int .i64 0]) ∧ CIn w' exX A) ∧ Below W.heap.size W w') from
    (parse_any exT W).mono (fun e w' h => ⟨by
      have h1 := code_out h.1
      rw [ex_parse] at h1
      exact h1, h.2⟩))
  have HP2 := hideIt (fun W => show Calls Tryz.prog 18 #[.string ⟨#[99, 111, 100, 101, 32, 97, 32, 123, 32, 102, 105, 101, 108, 100, 32, 56, 59, 32, 100, 97, 116, 97, 32, 50, 59, 32, 112, 97, 114, 105, 116, 121, 32, 49, 59, 32, 125]⟩] W (fun e w' => (∃ (x : Cd) (A : Option Addr) (c : Nat), e = .returned (.tuple #[cdV x.name x.field x.data (.slice A x.par.length c) x.dom, .int .i64 26, .int .i64 1])) ∧ Below W.heap.size W w') from
    (parse_any exU W).mono (fun e w' h => ⟨by
      obtain ⟨A, c, he, _⟩ := code_out h.1
      have e1 := (Prod.mk.inj ex_parseU).1
      have e2 := (Prod.mk.inj ex_parseU).2
      rw [e1, e2] at he
      exact ⟨_, _, _, he⟩, h.2⟩))
  have HP3 := hideIt (fun W => show Calls Tryz.prog 18 #[.string ⟨#[99, 111, 100, 101, 32, 97, 32, 123]⟩] W (fun e w' => (∃ (x : Cd) (A : Option Addr) (c : Nat), e = .returned (.tuple #[cdV x.name x.field x.data (.slice A x.par.length c) x.dom, .int .i64 8, .int .i64 3])) ∧ Below W.heap.size W w') from
    (parse_any exV W).mono (fun e w' h => ⟨by
      obtain ⟨A, c, he, _⟩ := code_out h.1
      have e1 := (Prod.mk.inj ex_parseV).1
      have e2 := (Prod.mk.inj ex_parseV).2
      rw [e1, e2] at he
      exact ⟨_, _, _, he⟩, h.2⟩))
  have HA1 := hideIt (fun W => show Calls Tryz.prog 20 #[sv (exT ++ exW)] W (fun e w' => (∃ b o c, e = .returned (.tuple #[.slice (some ⟨b, o, none⟩) 2 c, .int .i64 0, .int .i64 0]) ∧ b < w'.heap.size ∧ w'.cell? ⟨b, o + 5 + 4, none⟩ = some (.int .i64 2)) ∧ Below W.heap.size W w') from
    (parseAll_any (exT ++ exW) W).mono (fun e w' h => ⟨by
      obtain ⟨A, c, he, hc⟩ := h.1
      have e0 := (Prod.mk.inj ex_all).1
      have e1 := (Prod.mk.inj (Prod.mk.inj ex_all).2).1
      have e2 := (Prod.mk.inj (Prod.mk.inj ex_all).2).2
      obtain ⟨b, o, rfl, hb, hcell⟩ := own_cell hc.csin e0 ex_dom
      rw [e0, e1, e2] at he
      exact ⟨b, o, c, he, hb, hcell⟩, h.2⟩))
  have HA2 := hideIt (fun W => show Calls Tryz.prog 20 #[sv (exT ++ exT)] W (fun e w' => (∃ A n c, e = .returned (.tuple #[.slice A n c, .int .i64 63, .int .i64 4])) ∧ Below W.heap.size W w') from
    (parseAll_any (exT ++ exT) W).mono (fun e w' h => ⟨by
      obtain ⟨A, c, he, _⟩ := h.1
      have e1 := (Prod.mk.inj ex_all2).1
      have e2 := (Prod.mk.inj ex_all2).2
      rw [e1, e2] at he
      exact ⟨_, _, _, he⟩, h.2⟩))
  have HC1 := hideIt (fun A c W (h : CIn W exX A) => show Calls Tryz.prog 14 #[cdV [97] 8 3 (.slice A 1 c) 2] W (fun e w' => e = .returned (.int .i64 0) ∧ Below W.heap.size W w') by
    have h := check_any exX A c W h
    rw [ex_check] at h
    exact h)
  have HC2 := hideIt (fun W => show Calls Tryz.prog 14 #[cdV [] 0 0 (.slice none 0 0) 0] W (fun e w' => e = .returned (.int .i64 4) ∧ Below W.heap.size W w') by
    have h := check_any cd0 none 0 W ⟨PM.nil _ _ _, by decide, fun l hl => by simp [cd0] at hl⟩
    rw [cd0_check] at h
    exact h)
  have HR1 := hideIt (fun A A' c c' W (h : CIn W exX A) (h' : CIn W exX A') => show Calls Tryz.prog 17 #[cdV [97] 8 3 (.slice A 1 c) 2, cdV [97] 8 3 (.slice A' 1 c') 2] W (fun e w' => e = .returned (.bool true) ∧ Below W.heap.size W w') by
    have h := rsame_any exX exX A A' c c' W h h'
    rw [sameB_self] at h
    exact h)
  have HS1 := hideIt (fun A A' c c' W (h : CIn W exX A) (h' : CIn W exX A') => show Calls Tryz.prog 16 #[cdV [97] 8 3 (.slice A 1 c) 2, cdV [97] 8 3 (.slice A' 1 c') 2] W (fun e w' => e = .returned (.bool true) ∧ Below W.heap.size W w') by
    have h := csame_any exX exX A A' c c' W h h'
    rw [sameB_self] at h
    exact h)
  have HS2 := hideIt (fun A c W (h : CIn W exX A) => show Calls Tryz.prog 16 #[cdV [97] 8 3 (.slice A 1 c) 2, cdV [] 0 0 (.slice none 0 0) 0] W (fun e w' => e = .returned (.bool false) ∧ Below W.heap.size W w') by
    have h := csame_any exX cd0 A none c 0 W h ⟨PM.nil _ _ _, by decide, fun l hl => by simp [cd0] at hl⟩
    rw [show sameB exX cd0 = false by decide +kernel] at h
    exact h)
  obtain ⟨W0, hW0⟩ : ∃ W0, W0 = ((w.alloc (.cells #[.int .i64 1, .int .i64 0, .int .i64 7] 3)).alloc (.cells #[.slice (some ⟨w.heap.size, 0, none⟩) 3 3] 61)) := ⟨_, rfl⟩
  have hbl : Below w.heap.size w W0 := by rw [hW0]; exact la7 (below_new w _)
  have hsz : W0.heap.size = w.heap.size + 1 + 1 := by rw [hW0]; simp
  have hci : CIn W0 exX (some ⟨w.heap.size + 1, 0, none⟩) := by
    refine ⟨⟨[.slice (some ⟨w.heap.size, 0, none⟩) 3 3], ?_, ⟨⟨some ⟨w.heap.size, 0, none⟩, 3, rfl, ?_⟩, trivial⟩⟩, by decide, fun l hl => by simp [exX] at hl; subst hl; decide⟩
    · rw [hsz, hW0]
      have := sl_cells2 w (.cells #[.int .i64 1, .int .i64 0, .int .i64 7] 3) 61 [.slice (some ⟨w.heap.size, 0, none⟩) 3 3] 1 rfl
      exact this
    · have h1 := sl_cells w 3 [.int .i64 1, .int .i64 0, .int .i64 7] 3 rfl
      rw [hsz, hW0]
      exact ((h1.wide (Nat.le_refl _)).below (by have := below_new (w.alloc (.cells #[.int .i64 1, .int .i64 0, .int .i64 7] 3)) (.cells #[.slice (some ⟨w.heap.size, 0, none⟩) 3 3] 61); simpa using this)).wide (by omega)
  have HBX := hideIt (BC.new 1 hci)
  have HB0 := hideIt (la7 (o := .cells #[sv [97], .int .i64 8, .int .i64 3, .slice (some ⟨w.heap.size + 1, 0, none⟩) 1 1, .int .i64 2] 24) hbl)
  rw [hsz] at HBX
  have ad1 : binOp .add 9 (.string ⟨#[99, 111, 100, 101, 32, 97, 32, 123, 10, 9, 102, 105, 101, 108, 100, 32, 56, 59, 10, 9, 100, 97, 116, 97, 32, 51, 59, 10, 9, 108, 111, 99, 97, 108, 32, 48, 32, 50, 58, 32, 49, 32, 55, 59, 10, 9, 100, 111, 109, 97, 105, 110, 32, 50, 59, 10, 125, 10]⟩) (.string ⟨#[99, 111, 100, 101, 32, 98, 32, 123, 32, 102, 105, 101, 108, 100, 32, 56, 59, 32, 100, 97, 116, 97, 32, 49, 59, 32, 112, 97, 114, 105, 116, 121, 32, 57, 59, 32, 125]⟩) = pure (sv (exT ++ exW)) := s_add 9 exT exW (by decide)
  have ad2 : binOp .add 9 (.string ⟨#[99, 111, 100, 101, 32, 97, 32, 123, 10, 9, 102, 105, 101, 108, 100, 32, 56, 59, 10, 9, 100, 97, 116, 97, 32, 51, 59, 10, 9, 108, 111, 99, 97, 108, 32, 48, 32, 50, 58, 32, 49, 32, 55, 59, 10, 9, 100, 111, 109, 97, 105, 110, 32, 50, 59, 10, 125, 10]⟩) (.string ⟨#[99, 111, 100, 101, 32, 97, 32, 123, 10, 9, 102, 105, 101, 108, 100, 32, 56, 59, 10, 9, 100, 97, 116, 97, 32, 51, 59, 10, 9, 108, 111, 99, 97, 108, 32, 48, 32, 50, 58, 32, 49, 32, 55, 59, 10, 9, 100, 111, 109, 97, 105, 110, 32, 50, 59, 10, 125, 10]⟩) = pure (sv (exT ++ exT)) := s_add 9 exT exT (by decide)
  have eq1 : binOp .eql 9 (.string ⟨#[99, 111, 100, 101, 32, 97, 32, 123, 10, 9, 102, 105, 101, 108, 100, 32, 56, 59, 10, 9, 100, 97, 116, 97, 32, 51, 59, 10, 9, 108, 111, 99, 97, 108, 32, 48, 32, 50, 58, 32, 49, 32, 55, 59, 10, 9, 100, 111, 109, 97, 105, 110, 32, 50, 59, 10, 125, 10]⟩) (.string ⟨#[99, 111, 100, 101, 32, 97, 32, 123, 10, 9, 102, 105, 101, 108, 100, 32, 56, 59, 10, 9, 100, 97, 116, 97, 32, 51, 59, 10, 9, 108, 111, 99, 97, 108, 32, 48, 32, 50, 58, 32, 49, 32, 55, 59, 10, 9, 100, 111, 109, 97, 105, 110, 32, 50, 59, 10, 125, 10]⟩) = pure (.bool true) := by have := s_eql 9 exT exT; rwa [decide_eq_true rfl] at this
  have szT : (⟨#[99, 111, 100, 101, 32, 97, 32, 123, 10, 9, 102, 105, 101, 108, 100, 32, 56, 59, 10, 9, 100, 97, 116, 97, 32, 51, 59, 10, 9, 108, 111, 99, 97, 108, 32, 48, 32, 50, 58, 32, 49, 32, 55, 59, 10, 9, 100, 111, 109, 97, 105, 110, 32, 50, 59, 10, 125, 10]⟩ : ByteArray).size = 58 := rfl
  clear hbl hci
  subst hW0
  clear hsz
  go_enter Tryz.func13, Tryz.ntmps13
  go_wp2_with (first
    | (go_at_call 11; refine (HPR.out _ _ _ HB0.out HBX.out.cin).mono ?_; rintro e w1 ⟨rfl, hb⟩; have HBX1 := hideIt (HBX.out.keep hb); have HB1 := hideIt (ls7 HB0.out hb); clear hb HPR HBX HB0)
    | (go_at_call 18; refine (HP1.out _).mono ?_; rintro e w2 ⟨⟨A2, c2, rfl, hc⟩, hb⟩; have HY2 := hideIt (BC.new c2 hc); have HBX2 := hideIt ((HBX1.out.keep hb).al (.cells #[sv exX.name, .int .i64 exX.field, .int .i64 exX.data, .slice A2 exX.par.length c2, .int .i64 exX.dom] 24)); have HB2 := hideIt (la7 (o := .cells #[sv exX.name, .int .i64 exX.field, .int .i64 exX.data, .slice A2 exX.par.length c2, .int .i64 exX.dom] 24) (ls7 HB1.out hb)); clear hb hc HP1 HBX1 HB1)
    | (go_at_call 18; refine (HP2.out _).mono ?_; rintro e w3 ⟨⟨x3, A3, c3, rfl⟩, hb⟩; have HY3 := hideIt ((HY2.out.keep hb).al (.cells #[sv x3.name, .int .i64 x3.field, .int .i64 x3.data, .slice A3 x3.par.length c3, .int .i64 x3.dom] 24)); have HBX3 := hideIt ((HBX2.out.keep hb).al (.cells #[sv x3.name, .int .i64 x3.field, .int .i64 x3.data, .slice A3 x3.par.length c3, .int .i64 x3.dom] 24)); have HB3 := hideIt (la7 (o := (.cells #[sv x3.name, .int .i64 x3.field, .int .i64 x3.data, .slice A3 x3.par.length c3, .int .i64 x3.dom] 24)) (ls7 HB2.out hb)); clear hb HP2 HY2 HBX2 HB2)
    | (go_at_call 18; refine (HP3.out _).mono ?_; rintro e w4 ⟨⟨x4, A4, c4, rfl⟩, hb⟩; have HY4 := hideIt ((HY3.out.keep hb).al (.cells #[sv x4.name, .int .i64 x4.field, .int .i64 x4.data, .slice A4 x4.par.length c4, .int .i64 x4.dom] 24)); have HBX4 := hideIt ((HBX3.out.keep hb).al (.cells #[sv x4.name, .int .i64 x4.field, .int .i64 x4.data, .slice A4 x4.par.length c4, .int .i64 x4.dom] 24)); have HB4 := hideIt (la7 (o := (.cells #[sv x4.name, .int .i64 x4.field, .int .i64 x4.data, .slice A4 x4.par.length c4, .int .i64 x4.dom] 24)) (ls7 HB3.out hb)); clear hb HP3 HY3 HBX3 HB3)
    | (go_at_call 20; refine (HA1.out _).mono ?_; rintro e w5 ⟨⟨b, o, c5, rfl, hlt, hcell⟩, hb⟩; have HY5 := hideIt (HY4.out.keep hb); have HBX5 := hideIt (HBX4.out.keep hb); have HB5 := hideIt (ls7 HB4.out hb); clear HY4 HBX4 HB4; have HD5 := hideIt (And.intro hlt hcell); clear hb hlt hcell HA1)
    | (go_at_call 20; refine (HA2.out _).mono ?_; rintro e w6 ⟨⟨A6, n6, c6, rfl⟩, hb⟩; have HY6 := hideIt (HY5.out.keep hb); have HBX6 := hideIt (HBX5.out.keep hb); have HB6 := hideIt (ls7 HB5.out hb); clear HY5 HBX5 HB5; have HD6 := hideIt (And.intro (Nat.lt_of_lt_of_le HD5.out.1 hb.size) ((hb.cell (p := ⟨b, o + 5 + 4, none⟩) HD5.out.1).trans HD5.out.2)); clear HD5; have x0 := HBX6.out.box.cell 0; have x1 := HBX6.out.box.cell 1; have x2 := HBX6.out.box.cell 2; have x3 := HBX6.out.box.cell 3; have x4 := HBX6.out.box.cell 4; clear hb HA2)
    | (go_at_call 14; refine (HC1.out _ _ _ HBX6.out.cin).mono ?_; rintro e w7 ⟨rfl, hb⟩; have HY7 := hideIt (HY6.out.keep hb); have HBX7 := hideIt (HBX6.out.keep hb); have HB7 := hideIt (ls7 HB6.out hb); clear HY6 HBX6 HB6; have HD7 := hideIt (And.intro (Nat.lt_of_lt_of_le HD6.out.1 hb.size) ((hb.cell (p := ⟨b, o + 5 + 4, none⟩) HD6.out.1).trans HD6.out.2)); clear HD6; clear x0 x1 x2 x3 x4; clear hb HC1)
    | (go_at_call 14; refine (HC2.out _).mono ?_; rintro e w8 ⟨rfl, hb⟩; have HY8 := hideIt (HY7.out.keep hb); have HBX8 := hideIt (HBX7.out.keep hb); have HB8 := hideIt (ls7 HB7.out hb); clear HY7 HBX7 HB7; have HD8 := hideIt (And.intro (Nat.lt_of_lt_of_le HD7.out.1 hb.size) ((hb.cell (p := ⟨b, o + 5 + 4, none⟩) HD7.out.1).trans HD7.out.2)); clear HD7; have x0 := HBX8.out.box.cell 0; have x1 := HBX8.out.box.cell 1; have x2 := HBX8.out.box.cell 2; have x3 := HBX8.out.box.cell 3; have x4 := HBX8.out.box.cell 4; have y0 := HY8.out.box.cell 0; have y1 := HY8.out.box.cell 1; have y2 := HY8.out.box.cell 2; have y3 := HY8.out.box.cell 3; have y4 := HY8.out.box.cell 4; clear hb HC2)
    | (go_at_call 17; refine (HR1.out _ _ _ _ _ HBX8.out.cin HY8.out.cin).mono ?_; rintro e w9 ⟨rfl, hb⟩; have HY9 := hideIt (HY8.out.keep hb); have HBX9 := hideIt (HBX8.out.keep hb); have HB9 := hideIt (ls7 HB8.out hb); clear HY8 HBX8 HB8; have HD9 := hideIt (And.intro (Nat.lt_of_lt_of_le HD8.out.1 hb.size) ((hb.cell (p := ⟨b, o + 5 + 4, none⟩) HD8.out.1).trans HD8.out.2)); clear HD8; clear x0 x1 x2 x3 x4; clear y0 y1 y2 y3 y4; have x0 := HBX9.out.box.cell 0; have x1 := HBX9.out.box.cell 1; have x2 := HBX9.out.box.cell 2; have x3 := HBX9.out.box.cell 3; have x4 := HBX9.out.box.cell 4; have y0 := HY9.out.box.cell 0; have y1 := HY9.out.box.cell 1; have y2 := HY9.out.box.cell 2; have y3 := HY9.out.box.cell 3; have y4 := HY9.out.box.cell 4; have d9 := HD9.out.2; clear hb HR1)
    | (go_at_call 16; refine (HS1.out _ _ _ _ _ HBX9.out.cin HY9.out.cin).mono ?_; rintro e w10 ⟨rfl, hb⟩; have HY10 := hideIt (HY9.out.keep hb); have HBX10 := hideIt (HBX9.out.keep hb); have HB10 := hideIt (ls7 HB9.out hb); clear HY9 HBX9 HB9; clear x0 x1 x2 x3 x4; clear y0 y1 y2 y3 y4 d9; have x0 := HBX10.out.box.cell 0; have x1 := HBX10.out.box.cell 1; have x2 := HBX10.out.box.cell 2; have x3 := HBX10.out.box.cell 3; have x4 := HBX10.out.box.cell 4; clear hb HS1)
    | (go_at_call 16; refine (HS2.out _ _ _ HBX10.out.cin).mono ?_; rintro e w11 ⟨rfl, hb⟩; have HY11 := hideIt (HY10.out.keep hb); have HBX11 := hideIt (HBX10.out.keep hb); have HB11 := hideIt (ls7 HB10.out hb); clear HY10 HBX10 HB10; clear hb HS2))
  go_ret
  exact ⟨rfl, HB11.out⟩

end Go.Proofs.YtcogkdnlpjfgdaaGreatDoor
