/-
  Rows of a matrix that is made; loads of boxes in a region that draws its order.
  copy between rows of integers. No program's text is walked here.
-/
import Derived.Test.YtodmcojcmihooaaDoorMatTr
import Derived.Laws.CopyOwn
namespace Go.Proofs.YtodmcojcmihooaaDoor
open Go.RowKit
set_option linter.unusedVariables false

theorem gl_ints {w : World} {g R C : Nat} {t : TypeId} {M : Mx} (h : Blk w g t ((nl (R * C) (gl C M)).map iv)) {i : Nat} (hi : i < R) : Ints w (rowA (some ⟨g, 0, none⟩) (R * C) (i * C)) g (i * C) C (M i) := by
  have h2 := (Ints.of_blk h).row hi (Nat.le_refl _)
  rw [Nat.zero_add] at h2
  exact h2
section
variable {w0 w6 : World} {pr p6 gp m R C : Nat} {w : World} {M : Mx}
theorem Mk.rowI (h : Mk w0 w6 pr p6 gp m R C w M) {i : Nat} (hi : i < R) (hR : R ≤ 40) (hC : C ≤ 40) : ∃ D, (∀ W, Calls Tryd.prog 36 #[mtV (m : Int) (R : Int) (C : Int) (.slice (some ⟨gp, 0, none⟩) (R * C) (R * C)), .int .i64 (i : Int)] W fun e w' => e = .returned (.slice D C (R * C - i * C)) ∧ Below W.heap.size W w') ∧ (∀ W, Below w.heap.size w W → Ints W D gp (i * C) C (M i)) :=
  ⟨_, fun W => row_any (m : Int) R C _ _ _ i hi hR hC (Nat.le_refl _) (Nat.le_refl _) W, fun W hW => gl_ints (h.below hW).cells hi⟩
/-- One row anew. -/
theorem Mk.rowset (h : Mk w0 w6 pr p6 gp m R C w M) {w' : World} {i : Nat} {D : Option Addr} {f : Nat → Nat} (hi : i < R) (hI : Ints w' D gp (i * C) C f) (hs : Sel (fun k q => k = gp ∧ i * C ≤ q ∧ q < i * C + C) w w') : Mk w0 w6 pr p6 gp m R C w' (fun r q => if r = i then f q else M r q) := by
  refine h.next (hs.wide fun k o q => q.1) (hs.cells h.cells (by rw [List.length_map, List.length_map, nl_len, nl_len]) fun k u hu => ?_)
  have hk : k < R * C := by
    have := (List.getElem?_eq_some_iff.1 hu).1
    rw [List.length_map, nl_len] at this
    exact this
  rw [iv_at hk] at hu
  have hu := (Option.some.inj hu).symm
  subst hu
  obtain ⟨h1, h2, h3⟩ := ix_of hk
  show w'.cell? ⟨gp, k, none⟩ = some (.int .i64 ((if k / C = i then f (k % C) else M (k / C) (k % C) : Nat) : Int))
  by_cases e : k / C = i
  · rw [if_pos e]
    have := hI.cell (k % C) h2
    rw [← e, ← h3] at this
    exact this
  · rw [if_neg e]
    have hle : k / C < i ∨ i < k / C := by omega
    refine (hs.cell gp k h.cells.lt (fun q => ?_)).trans ?_
    · rcases hle with hl | hl
      · have : (k / C + 1) * C ≤ i * C := Nat.mul_le_mul_right _ hl
        rw [Nat.add_mul, Nat.one_mul] at this
        omega
      · have : (i + 1) * C ≤ k / C * C := Nat.mul_le_mul_right _ hl
        rw [Nat.add_mul, Nat.one_mul] at this
        omega
    · have := (h.cell h1 h2).1
      rw [← h3] at this
      exact this
end
/-- A box loaded whole. -/
theorem ld_mt {w : World} {p : Nat} {F R C : Int} {s : Value} (h : Blk w p 24 (mtC F R C s)) : (Instr.loadAt 24 (.pointer (some ⟨p, 0, none⟩))).run Tryd.prog w = .ok (mtV F R C s) w :=
  run_load_blk h _ _ Tryd.underlying24 rfl isz4

theorem quiet_run {P : Program} {o : Oper} {a : Act} {C : World → Prop} {K : Act → Prop} (v : Value) (h : ∀ W, C W → (execOp a.eval o).run P W = .ok (.value v) W) (hk : K (a.put o.dst v)) : o.quiet P a C K :=
  ⟨v, fun W hW => by unfold Oper.quietAt; rw [h W hW]; exact ⟨rfl, rfl⟩, hk⟩
theorem quiet_ld {P : Program} {o : Oper} {a : Act} {C : World → Prop} {K : Act → Prop} (t : TypeId) (x : Operand) (ho : o.op = .load t x) (v : Value) (h : ∀ W, C W → (Instr.loadAt t (a.eval x)).run P W = .ok v W) (hk : K (a.put o.dst v)) : o.quiet P a C K :=
  quiet_run v (fun W hW => by unfold execOp; simp only [ho, Sem.run_bind, h W hW, Result.andThen_ok, Sem.run_pure]) hk

theorem splice_at {α : Type} (L : List α) (off : Nat) (cs : List α) (h : off + cs.length ≤ L.length) (k : Nat) : (splice L off cs)[k]? = if off ≤ k ∧ k < off + cs.length then cs[k - off]? else L[k]? := by
  unfold splice
  have hl : (L.take off).length = off := by rw [List.length_take]; omega
  by_cases h1 : k < off
  · rw [List.getElem?_append_left (by omega), if_neg (by omega), List.getElem?_take, if_pos h1]
  · rw [List.getElem?_append_right (by omega), hl]
    by_cases h2 : k < off + cs.length
    · rw [if_pos (by omega), List.getElem?_append_left (by omega)]
    · rw [if_neg (by omega), List.getElem?_append_right (by omega), List.getElem?_drop]
      congr 1
      omega
theorem Turned.sel {g : Nat} {w w' : World} (h : Turned g w w') {t : TypeId} {cs ds : List Value} (h1 : Blk w g t cs) (h2 : Blk w' g t ds) (hl : ds.length = cs.length) {S : Nat → Nat → Prop} (hs : ∀ j, ¬ S g j → ds[j]? = cs[j]?) (hg : ∃ j, S g j) : Sel S w w' := by
  refine ⟨h.os, h.tape, h.output, by rw [h.size]; exact Nat.le_refl _, fun k o hk hn => ?_, fun k o hk => ?_, fun k hk hn => ?_, fun k t' cs' hb => ?_⟩
  · by_cases e : k = g
    · subst e; rw [h1.cell, h2.cell]; exact hs o hn
    · exact h.cell e
  · by_cases e : k = g
    · subst e; rw [h1.free, h2.free]
    · unfold World.frozen?; rw [h.block k e]
  · by_cases e : k = g
    · subst e; obtain ⟨j, hj⟩ := hg; exact absurd hj (hn j)
    · exact h.block k e
  · by_cases e : k = g
    · subst e
      unfold Blk at hb h1
      rw [h1] at hb
      injection hb with hb
      injection hb with e1 e2
      refine ⟨ds, ?_, e2 ▸ h2⟩
      rw [hl]
      have := congrArg Array.toList e1
      simp at this
      rw [this]
    · exact ⟨cs', rfl, h.blk hb e⟩
/-- copy of n integers into a row of the call's own. -/
theorem wpList_cpI {w : World} {ops : Array Oper} {rest : List Oper} {o : Oper} {a : Act} {Q : Exit → Act → World → Prop} (hgd : o.guard = none) (d s : Operand) (ho : o.op = .call { callee := .builtin .copy, args := #[d, s], argTypes := #[22, 22] })
    (D S : Option Addr) (n dCap sCap g off b so : Nat) (f : Nat → Nat) (cur : List Value) (hd : a.eval d = .slice D n dCap) (hs : a.eval s = .slice S n sCap) (hg : Blk w g 3 cur) (hfit : off + n ≤ cur.length) (hD : 0 < n → D = some ⟨g, off, none⟩) (hS : Ints w S b so n f)
    (h : ∀ w', Hid (Ints w' D g off n f) → Hid (Sel (fun k q => k = g ∧ off ≤ q ∧ q < off + n) w w') → wpList Tryd.prog ops Q rest (a.put o.dst (goInt n)) w') : wpList Tryd.prog ops Q (o :: rest) a w := by
  rcases Nat.eq_zero_or_pos n with h0 | h0
  · subst h0
    exact wpList_copy_nothing hgd d s 22 22 ho 3 Tryd.underlying22 (by kernel_rfl) D S 0 dCap 0 sCap hd hs rfl (h w ⟨fun q => by omega, fun q => by omega, fun j hj => by omega⟩ (Sel.refl _ _))
  · obtain rfl := hD h0
    have hA := hS.adr h0
    subst hA
    have hlen : ((nl n f).map iv).length = n := by rw [List.length_map, nl_len]
    have hl2 : (splice cur off ((nl n f).map iv)).length = cur.length := length_splice _ _ _ (by rw [hlen]; exact hfit)
    have hat := splice_at cur off ((nl n f).map iv) (by rw [hlen]; exact hfit)
    rw [hlen] at hat
    have hb2 : Blk (w.setRow g (splice cur off ((nl n f).map iv)).toArray) g 3 (splice cur off ((nl n f).map iv)) := Blk.row hg _
    refine wpList_copy_own hgd d s 22 22 ho 3 Tryd.underlying22 (by kernel_rfl) g off n dCap ⟨b, so, none⟩ n sCap hd hs cur.toArray 3 hg ((nl n f).map iv) (by rw [hlen]; exact (Nat.min_self n).symm) (fun j v hj => ?_) (by rw [hlen]; simpa using hfit) (iv_one _) ?_
    · have hjn : j < n := by
        have := (List.getElem?_eq_some_iff.1 hj).1
        omega
      rw [iv_at hjn] at hj
      obtain rfl := Option.some.inj hj
      rw [addr_add]
      exact hS.cell j hjn
    · rw [hlen]
      have e : (w.setRow g (cur.toArray.toList.take off ++ ((nl n f).map iv ++ cur.toArray.toList.drop (off + n))).toArray) = w.setRow g (splice cur off ((nl n f).map iv)).toArray := by unfold splice; rw [hlen]
      rw [e]
      refine h _ ⟨fun _ => rfl, fun _ => hb2.lt, fun j hj => ?_⟩ ((Turned.row w g _).sel hg hb2 hl2 (fun j hj => ?_) ⟨off, rfl, Nat.le_refl _, by omega⟩)
      · rw [hb2.cell, hat, if_pos (by omega), show off + j - off = j by omega, iv_at hj]
      · rw [hat, if_neg (fun q => hj ⟨rfl, q.1, q.2⟩)]

end Go.Proofs.YtodmcojcmihooaaDoor
