/-
  Rows of plans in memory; the program's candidates with its closure, the library's IndexFunc and ContainsFunc, walked.
-/
import Derived.Test.YtklngodlijiccaaDoorRepB
import Derived.Test.YtklngodlijiccaaDoorRepE
namespace Go.Proofs.YtklngodlijiccaaDoor
open Go.RowKit
set_option linter.unusedVariables false
set_option linter.unusedSimpArgs false

theorem Sl.tr {w : World} {B : Nat} {A : Option Addr} {l : TL} (h : Sl w B A 2 l.length (tcs l)) {k : Nat} (hk : k < l.length) : ∃ b off, A = some ⟨b, off, none⟩ ∧ b < B ∧ w.rangeAt b (off + k * 2) (zc ((l[k].1 : Int), (l[k].2 : Int))) := by
  obtain ⟨b, off, e, hb, h0, h1⟩ := h.tt hk
  refine ⟨b, off, e, hb, fun j u hj => ?_⟩
  match j, hj with
  | 0, hj => injection hj with hj; subst hj; exact h0
  | 1, hj => injection hj with hj; subst hj; exact h1
section
variable {ops : Array Oper} {rest : List Oper} {o : Oper} {a : Act} {Q : Exit → Act → World → Prop} {w : World}
theorem wpList_apP {u : Int} {A : Option Addr} {k c : Nat} (hgd : o.guard = none) (hs0 : Operand) (hx0 : Operand) (ho : o.op = .call { callee := .builtin .append, args := #[hs0, hx0], argTypes := #[40, 40] })
    {base : Nat} {v : Value} {n : Nat} {us : List Value} (hs : a.eval hs0 = v) (hown : w.ownsRow base 30 2 v n us) (hx : a.eval hx0 = .slice (some ⟨w.heap.size, 0, none⟩) 1 1) (hn : n + 1 ≤ 100000) (hbase : base ≤ w.heap.size)
    (h : ∀ v' w', Hid (w'.ownsRow base 30 2 v' (n + 1) (us ++ [.int .i64 u, .slice A k c])) → Hid ((w.alloc (.cells #[.int .i64 u, .slice A k c] 30)).grownBy w' v.ownBlock) → Hid (v'.ownBlock = v.ownBlock ∨ v'.ownBlock = some (w.alloc (.cells #[.int .i64 u, .slice A k c] 30)).heap.size) → Hid (Below base w w') → wpList Tryd.prog ops Q rest (a.put o.dst v') w') :
    wpList Tryd.prog ops Q (o :: rest) a (w.alloc (.cells #[.int .i64 u, .slice A k c] 30)) :=
  wpList_ap1 (z := .agg #[.int .i64 0, .slice none 0 0]) (size := 2) (bytes := 32) Tryd.underlying40 (by kernel_rfl) rfl (by decide) (by decide) hgd hs0 hx0 ho hs hown hx rfl (fun u hu => by
    rcases List.mem_cons.1 hu with rfl | hu
    · rfl
    · rcases List.mem_cons.1 hu with rfl | hu
      · rfl
      · cases hu) hn hbase h
end
/-- A plan as it is handed over, its terms in memory at or above B, beside the block of v. -/
def PC (W : World) (B : Nat) (v : Value) (q : Int × TL) (p : Value × Value) : Prop :=
  p.1 = .int .i64 q.1 ∧ ∃ A c, p.2 = .slice A q.2.length c ∧ Sl W W.heap.size A 2 q.2.length (tcs q.2) ∧ (0 < q.2.length → ∀ b o, A = some ⟨b, o, none⟩ → B ≤ b ∧ v.ownBlock ≠ some b)
abbrev pcells (ws : List (Value × Value)) : List Value := ws.flatMap fun p => [p.1, p.2]
/-- Plans under construction. -/
def PJ (W : World) (B : Nat) (v : Value) (ps : List (Int × TL)) : Prop := ∃ ws, W.ownsRow B 30 2 v ps.length (pcells ws) ∧ All2 (PC W B v) ps ws
theorem PJ.nil (W : World) (B : Nat) : PJ W B (.slice none 0 0) [] := ⟨[], World.ownsRow_nil _ _ _ _, trivial⟩
theorem PC.keep {W W' : World} {B : Nat} {v : Value} {q : Int × TL} {p : Value × Value} (h : PC W B v q p) (hb : Below W.heap.size W W') : PC W' B v q p := by
  obtain ⟨e, A, c, e2, hs, hl⟩ := h
  exact ⟨e, A, c, e2, (hs.below hb).wide hb.size, hl⟩
theorem PJ.keep {W W' : World} {B : Nat} {v : Value} {ps : List (Int × TL)} (h : PJ W B v ps) (hb : Below W.heap.size W W') : PJ W' B v ps := by
  obtain ⟨ws, h1, h2⟩ := h
  exact ⟨ws, own_kept h1 hb, All2.imp (fun q p h => h.keep hb) h2⟩
theorem PJ.low {W : World} {B B' : Nat} {v : Value} {ps : List (Int × TL)} (h : PJ W B v ps) (hB : B' ≤ B) : PJ W B' v ps := by
  obtain ⟨ws, h1, h2⟩ := h
  exact ⟨ws, own_base h1 hB, All2.imp (fun q p ⟨e, A, c, e2, hs, hl⟩ => ⟨e, A, c, e2, hs, fun h0 b o hA => ⟨Nat.le_trans hB (hl h0 b o hA).1, (hl h0 b o hA).2⟩⟩) h2⟩
theorem PJ.form {W : World} {B : Nat} {v : Value} {ps : List (Int × TL)} (h : PJ W B v ps) : ∃ A c, v = .slice A ps.length c ∧ ps.length ≤ c := by
  obtain ⟨ws, h1, _⟩ := h
  obtain ⟨A, c, e, hc, _⟩ := own_form h1
  exact ⟨A, c, e, hc⟩
theorem cell_grown2 {W w' : World} {o : Obj} {r : Option Nat} (hg : (W.alloc o).grownBy w' r) {b : Nat} (hb : b < W.heap.size) (hn : r ≠ some b) (i : Nat) : w'.cell? ⟨b, i, none⟩ = W.cell? ⟨b, i, none⟩ :=
  World.cell?_of_block (a := ⟨b, i, none⟩) ((hg.block b (by simp; omega) (fun e => hn e.symm)).trans (Below.heap_alloc _ _ _ hb))
theorem PJ.snoc {W w' : World} {B : Nat} {v v' : Value} {ws : List (Value × Value)} {ps : List (Int × TL)} {u : Int} {L : TL} {A : Option Addr} {c : Nat} {o : Obj} (hO : W.ownsRow B 30 2 v ps.length (pcells ws)) (h2 : All2 (PC W B v) ps ws)
    (hs : Sl W W.heap.size A 2 L.length (tcs L)) (hl : 0 < L.length → ∀ b o, A = some ⟨b, o, none⟩ → B ≤ b ∧ v.ownBlock ≠ some b)
    (h1 : w'.ownsRow B 30 2 v' (ps.length + 1) (pcells ws ++ [.int .i64 u, .slice A L.length c])) (hg : (W.alloc o).grownBy w' v.ownBlock) (hv : v'.ownBlock = v.ownBlock ∨ v'.ownBlock = some (W.alloc o).heap.size) (hz : W.heap.size ≤ w'.heap.size) : PJ w' B v' (ps ++ [(u, L)]) := by
  have key : ∀ (L : TL) (A : Option Addr), Sl W W.heap.size A 2 L.length (tcs L) → (0 < L.length → ∀ b o, A = some ⟨b, o, none⟩ → B ≤ b ∧ v.ownBlock ≠ some b) → Sl w' w'.heap.size A 2 L.length (tcs L) ∧ (0 < L.length → ∀ b o, A = some ⟨b, o, none⟩ → B ≤ b ∧ v'.ownBlock ≠ some b) := fun L A hs hl => by
    refine ⟨⟨hs.1, fun h0 => ?_⟩, fun h0 b i hA => ⟨(hl h0 b i hA).1, fun e => ?_⟩⟩
    · obtain ⟨b, i, hA, hb, hc⟩ := hs.2 h0
      exact ⟨b, i, hA, Nat.lt_of_lt_of_le hb hz, fun j y hj => by rw [cell_grown2 hg hb (hl (by rw [tcs_len] at h0; omega) b i hA).2]; exact hc j y hj⟩
    · obtain ⟨b2, i2, hA2, hb, _⟩ := hs.2 (by rw [tcs_len]; omega)
      rw [hA] at hA2
      injection hA2 with hA2
      injection hA2 with hA2
      subst hA2
      rcases hv with hv | hv
      · exact (hl h0 b i hA).2 (hv.symm.trans e)
      · rw [hv] at e
        injection e with e
        simp at e
        omega
  refine ⟨ws ++ [(.int .i64 u, .slice A L.length c)], by rw [List.length_append]; simpa [pcells] using h1, All2.snoc ⟨rfl, A, c, rfl, (key L A hs hl).1, (key L A hs hl).2⟩ (All2.imp (fun q p h => ?_) h2)⟩
  obtain ⟨e, A, c, e2, hs, hl⟩ := h
  exact ⟨e, A, c, e2, (key q.2 A hs hl).1, (key q.2 A hs hl).2⟩
theorem pcells_at : ∀ (ws : List (Value × Value)) (k : Nat) (h : k < ws.length), (pcells ws)[k * 2]? = some ws[k].1 ∧ (pcells ws)[k * 2 + 1]? = some ws[k].2
  | t :: r, 0, _ => ⟨rfl, rfl⟩
  | t :: r, k + 1, h => by
    have := pcells_at r k (by simp only [List.length_cons] at h; omega)
    rw [show (k + 1) * 2 = k * 2 + 2 by omega]
    exact this
theorem pcells_len (ws : List (Value × Value)) : (pcells ws).length = ws.length * 2 := by
  induction ws with
  | nil => rfl
  | cons t r ih => rw [show pcells (t :: r) = [t.1, t.2] ++ pcells r from rfl, List.length_append, ih]; simp only [List.length_cons, List.length_nil]; omega
/-- A plan of the row, as it is read. -/
theorem PJ.at_ {W : World} {B : Nat} {A : Option Addr} {c : Nat} {ps : List (Int × TL)} (h : PJ W B (.slice A ps.length c) ps) {k : Nat} (hk : k < ps.length) :
    ∃ g o A' c', A = some ⟨g, o, none⟩ ∧ g < W.heap.size ∧ W.rangeAt g (o + k * 2) [.int .i64 ps[k].1, .slice A' ps[k].2.length c'] ∧ Sl W W.heap.size A' 2 ps[k].2.length (tcs ps[k].2) ∧ (0 < ps[k].2.length → ∀ b o, A' = some ⟨b, o, none⟩ → B ≤ b) := by
  obtain ⟨ws, h1, h2⟩ := h
  obtain ⟨p, hp, e1, A', c', e2, hs, hl⟩ := All2.at_ h2 (List.getElem?_eq_getElem hk)
  have hw : k < ws.length := by rcases Nat.lt_or_ge k ws.length with h | h; exact h; rw [List.getElem?_eq_none h] at hp; cases hp
  rw [List.getElem?_eq_getElem hw] at hp
  injection hp with hp
  obtain ⟨h3, h4⟩ := pcells_at ws k hw
  rw [hp] at h3 h4
  obtain ⟨g, o, hA, hg, hc⟩ := (Sl.of_own h1).2 (by rw [pcells_len]; omega)
  refine ⟨g, o, A', c', hA, hg, fun j u hj => ?_, hs, fun h0 b o hA => (hl h0 b o hA).1⟩
  match j, hj with
  | 0, hj => injection hj with hj; subst hj; rw [← e1]; exact hc _ _ h3
  | 1, hj => injection hj with hj; subst hj; rw [← e2, Nat.add_assoc]; exact hc _ _ h4
/-- Is the unit of a term missing? -/
def msT (os : List Bool) (t : Nat × Nat) : Bool := !os.getD t.1 false
set_option maxHeartbeats 1000000 in
theorem missing_any (os : List Bool) (D : Option Addr) (cd B : Nat) (w : World) (hB : w.cell? ⟨B, 0, none⟩ = some (.slice D os.length cd)) (hBl : B < w.heap.size) (hD : Sl w w.heap.size D 1 os.length (os.map bl)) (t : Nat × Nat) (ht : t.1 < os.length) :
    Calls Tryd.prog 54 #[.agg (zc ((t.1 : Int), (t.2 : Int))).toArray, .pointer (some ⟨B, 0, none⟩)] w fun e w' => e = .returned (.bool (msT os t)) ∧ Below w.heap.size w w' := by
  obtain ⟨b, o, v, hDe, hb, hv, hc⟩ := hD.at_ ht
  have hv' : v = .bool (os.getD t.1 false) := by
    rw [List.getElem?_map, List.getElem?_eq_getElem ht] at hv
    injection hv with hv
    rw [gDb ht]
    exact hv.symm
  subst hv' hDe
  have HR := hideIt (show msT os t = !os.getD t.1 false from rfl)
  have h1 : ((t.1 : Nat) : Int) < (os.length : Int) := by omega
  obtain ⟨u, cf⟩ := t
  have HBW := hideIt (below_new w (.cells (zc ((u : Int), (cf : Int))).toArray 54))
  have c1 := (HBW.out.cell (p := ⟨B, 0, none⟩) hBl).trans hB
  have c2 := (HBW.out.cell (p := ⟨b, o + u, none⟩) hb).trans hc
  have c3 : (w.alloc (.cells (zc ((u : Int), (cf : Int))).toArray 54)).cell? ⟨w.heap.size, 0, none⟩ = some (.int .i64 (u : Int)) := (Blk.new w 54 (zc ((u : Int), (cf : Int)))).cell 0
  have hnot := not_b
  rw [HR.out]
  generalize os.getD u false = r at *
  clear hB hD hb hv hc ht
  go_enter Tryd.func54, Tryd.ntmps54
  go_wp2_with fail
  go_ret
  exact ⟨rfl, HBW.out⟩
/-- Where the library's IndexFunc ends. -/
def IdxP (L : TL) (p : Nat × Nat → Bool) (r : Int) : Prop := decide (r ≥ 0) = L.any p
set_option maxHeartbeats 1000000 in
set_option maxRecDepth 100000 in
theorem idxf_any (L : TL) (hn : L.length ≤ 100000) (p : Nat × Nat → Bool) (D : Option Addr) (cd B : Nat) (w : World) (hD : Sl w w.heap.size D 2 L.length (tcs L))
    (hP : ∀ W2, Below w.heap.size w W2 → ∀ t ∈ L, Calls Tryd.prog 54 #[.agg (zc ((t.1 : Int), (t.2 : Int))).toArray, .pointer (some ⟨B, 0, none⟩)] W2 fun e w' => e = .returned (.bool (p t)) ∧ Below W2.heap.size W2 w') :
    Calls Tryd.prog 74 #[.slice D L.length cd, .func (.func 54) #[] #[.pointer (some ⟨B, 0, none⟩)]] w fun e w' => (∃ r : Int, e = .returned (.int .i64 r) ∧ IdxP L p r) ∧ Below w.heap.size w w' := by
  have HS := hideIt hD
  have HP := hideIt hP
  clear hD hP
  go_enter Tryd.func74, Tryd.ntmps74
  go_wp2_with fail
  go_loopg [8] L.length (fun gk s8 wr => ∃ k : Nat, k + gk = L.length ∧ s8 = .int .i64 (k : Int) ∧ Aside (Below w.heap.size w wr) ∧ Aside ((L.take k).any p = false))
  case atStart => exact ⟨0, by omega, rfl, Below.refl _ _, by simp [Aside]⟩
  case round =>
    obtain ⟨k, hk, rfl, HL, HA⟩ := hrel
    obtain ⟨w4, rfl⟩ : ∃ x, x = wr := ⟨wr, rfl⟩
    by_cases hlt : k < L.length
    · obtain ⟨b, o, rfl, hb, hrg⟩ := (HS.out.below HL.out).tr hlt
      have HRG := hideIt hrg
      have hinc := inc_c 3 k (by omega)
      have hki : (k : Int) < (L.length : Int) := by omega
      have HT := hideIt (take_snoc L k hlt)
      have HC := hideIt (HP.out w4 HL.out _ (List.getElem_mem hlt))
      have HAN := hideIt (fun h : p L[k] = true => show L.any p = true from List.any_eq_true.2 ⟨_, List.getElem_mem hlt, h⟩)
      generalize L[k] = q at *
      clear hb hrg
      cases hp : p q with
      | true =>
        rw [hp] at HC
        have HE := hideIt (show IdxP L p (k : Int) by unfold IdxP; rw [HAN.out hp, decide_eq_true (by omega)])
        clear hp HT HAN
        go_wp2_with (first
          | ((with_reducible refine at_load ?_); refine wpList_ldT (by kernel_rfl) (.tmp 14) rfl (t := ((q.1 : Int), (q.2 : Int))) rfl HRG.out ?_)
          | (go_at_call 54; refine HC.out.mono ?_; rintro e w7 ⟨rfl, hb7⟩; have HB7 := hideIt hb7; clear hb7 HC))
        go_ret
        exact ⟨⟨_, rfl, HE.out⟩, HL.out.trans (HB7.out.mono HL.out.size)⟩
      | false =>
        rw [hp] at HC
        have HE := hideIt (show (L.take (k + 1)).any p = false by rw [HT.out, List.any_append, HA.out]; simp [hp])
        clear hp HT HAN
        go_wp2_with (first
          | ((with_reducible refine at_load ?_); refine wpList_ldT (by kernel_rfl) (.tmp 14) rfl (t := ((q.1 : Int), (q.2 : Int))) rfl HRG.out ?_)
          | (go_at_call 54; refine HC.out.mono ?_; rintro e w7 ⟨rfl, hb7⟩; have HB7 := hideIt hb7; clear hb7 HC))
        go_roundg (gk - 1)
        case measure => omega
        case rel => exact ⟨k + 1, by omega, by go_num, HL.out.trans (HB7.out.mono HL.out.size), HE.out⟩
    · have hki : ¬ (k : Int) < (L.length : Int) := by omega
      have HE := hideIt (show IdxP L p (-1) by
        unfold IdxP
        rw [show L.any p = false by have := HA.out; rwa [List.take_of_length_le (by omega)] at this]; rfl)
      go_wp2_with fail
      go_ret
      exact ⟨⟨_, rfl, HE.out⟩, HL.out⟩
theorem containsf_any (L : TL) (hn : L.length ≤ 100000) (p : Nat × Nat → Bool) (D : Option Addr) (cd B : Nat) (w : World) (hD : Sl w w.heap.size D 2 L.length (tcs L))
    (hP : ∀ W2, Below w.heap.size w W2 → ∀ t ∈ L, Calls Tryd.prog 54 #[.agg (zc ((t.1 : Int), (t.2 : Int))).toArray, .pointer (some ⟨B, 0, none⟩)] W2 fun e w' => e = .returned (.bool (p t)) ∧ Below W2.heap.size W2 w') :
    Calls Tryd.prog 56 #[.slice D L.length cd, .func (.func 54) #[] #[.pointer (some ⟨B, 0, none⟩)]] w fun e w' => e = .returned (.bool (L.any p)) ∧ Below w.heap.size w w' := by
  have HI := hideIt (idxf_any L hn p D cd B w hD hP)
  clear hD hP
  obtain ⟨R, hR⟩ : ∃ R, R = L.any p := ⟨_, rfl⟩
  have HRR := hideIt hR
  rw [← hR]
  clear hR
  go_enter Tryd.func56, Tryd.ntmps56
  go_wp2_with (go_at_call 74; refine HI.out.mono ?_; rintro e w1 ⟨⟨r, rfl, hr⟩, hb1⟩; have HR := hideIt hr; have HB1 := hideIt hb1; clear HI hr hb1)
  go_ret
  refine ⟨?_, HB1.out⟩
  show Ending.returned (.bool (decide (0 ≤ r))) = _
  rw [show decide (0 ≤ r) = R from HR.out.trans HRR.out.symm]
end Go.Proofs.YtklngodlijiccaaDoor
