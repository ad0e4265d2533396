/-
  What eliminate keeps, round by round. No program's text is walked here.
-/
import Derived.Test.YtodmcojcmihooaaDoorMatS
import Derived.Maps.AppendAt
namespace Go.Proofs.YtodmcojcmihooaaDoor
open Go.RowKit
set_option linter.unusedVariables false

theorem Sel.then {S S' : Nat → Nat → Prop} {a b c : World} (h : Sel S a b) (k : Sel S' b c) (hs : ∀ i o, i < a.heap.size → S' i o → S i o) : Sel S a c :=
  ⟨k.os.trans h.os, k.tape.trans h.tape, k.output.trans h.output, Nat.le_trans h.size k.size,
    fun i o hi hn => (k.cell i o (Nat.lt_of_lt_of_le hi h.size) (fun q => hn (hs i o hi q))).trans (h.cell i o hi hn), fun i o hi => (k.frozen i o (Nat.lt_of_lt_of_le hi h.size)).trans (h.frozen i o hi),
    fun i hi hn => (k.block i (Nat.lt_of_lt_of_le hi h.size) (fun o q => hn o (hs i o hi q))).trans (h.block i hi hn),
    fun i t cs hb => by
      obtain ⟨c1, h1, h2⟩ := h.kind i t cs hb
      obtain ⟨c2, h3, h4⟩ := k.kind i t c1 h2
      exact ⟨c2, h3.trans h1, h4⟩⟩
theorem Sel.later {S : Nat → Nat → Prop} {a b c : World} (h : Sel S a b) (k : Below a.heap.size b c) : Sel S a c :=
  ⟨k.os.trans h.os, k.tape.trans h.tape, k.output.trans h.output, Nat.le_trans h.size k.size,
    fun i o hi hn => (k.cell (p := ⟨i, o, none⟩) hi).trans (h.cell i o hi hn), fun i o hi => (k.frozen (p := ⟨i, o, none⟩) hi).trans (h.frozen i o hi),
    fun i hi hn => (k.block i hi).trans (h.block i hi hn),
    fun i t cs hb => by
      obtain ⟨c1, h1, h2⟩ := h.kind i t cs hb
      exact ⟨c1, h1, h2.kept k hb.lt⟩⟩
theorem own_sel {S : Nat → Nat → Prop} {w w' : World} {base n : Nat} {e : TypeId} {v : Value} {xs : List Value} (h : w.ownsRow base e 1 v n xs) (hs : Sel S w w') (hn : ∀ k, v.ownBlock = some k → ∀ o, ¬ S k o) : w'.ownsRow base e 1 v n xs := by
  refine ⟨h.1, ?_⟩
  rcases h.2 with h0 | ⟨g, cap, cur, hv, hb, hg, r⟩
  · exact .inl h0
  · refine .inr ⟨g, cap, cur, hv, hb, ?_, r⟩
    rw [hs.block g (Array.getElem?_eq_some_iff.1 hg).1 (hn g (by rw [hv]; rfl))]
    exact hg
theorem one_new6 (w : World) (t : TypeId) (u0 : Value) : ∀ j u, [u0][j]? = some u → (w.alloc (.cells #[u0] t)).cell? ((⟨w.heap.size, 0, none⟩ : Addr).add j) = some u := by
  intro j u hj
  rw [addr_add, Nat.zero_add]
  exact ((Blk.new w t [u0]).cell j).trans hj
theorem swp_comm (M : Mx) (a b : Nat) : swp M a b = swp M b a := by
  funext x
  unfold swp
  by_cases h1 : x = a
  · by_cases h2 : x = b
    · rw [if_pos h1, if_pos h2]; subst h1; rw [h2]
    · rw [if_pos h1, if_neg h2, if_pos h1]
  · by_cases h2 : x = b
    · rw [if_neg h1, if_pos h2, if_pos h2]
    · rw [if_neg h1, if_neg h2, if_neg h2, if_neg h1]
/-- The pivots as cells. -/
abbrev pvC (pv : List Nat) : List Value := (nl pv.length fun k => pv.getD k 0).map iv
theorem pvC_snoc (pv : List Nat) (c : Nat) : pvC (pv ++ [c]) = pvC pv ++ [.int .i64 (c : Int)] := by
  have h : (nl (pv ++ [c]).length fun k => (pv ++ [c]).getD k 0) = (nl pv.length fun k => pv.getD k 0) ++ [(c : Int)] := by
    apply List.ext_getElem
    · rw [nl_len, List.length_append, List.length_append, nl_len]; rfl
    · intro k h1 h2
      rw [nl_get]
      rw [nl_len, List.length_append] at h1
      simp only [List.length_singleton] at h1
      by_cases e : k < pv.length
      · rw [List.getElem_append_left (by rw [nl_len]; exact e), nl_get, getD_snoc_lt e]
      · rw [List.getElem_append_right (by rw [nl_len]; omega), getD_snoc_eq (by omega)]
        simp
  unfold pvC
  rw [h, List.map_append]
  rfl

structure EI (m B g R n cR : Nat) (D0 : RD) (A0 : Mx) (w0 : World) (M : Mx) (pv : List Nat) (v : Value) (D : RD) (W : World) : Prop where
  ini : EM w0 B g R n D0 A0
  em : EM W B g R n D M
  own : W.ownsRow (w0.heap.size + 2) 3 1 v pv.length (pvC pv)
  p3 : Blk W w0.heap.size 3 [.int .i64 (m : Int)]
  p4 : Blk W (w0.heap.size + 1) 51 [.slice (some ⟨g, 0, none⟩) R cR]
  sel : Sel (fun k _ => k = g ∨ (0 < n ∧ ∃ i, i < R ∧ k = D0.b i)) w0 W
  old : 0 < n → ∀ i, i < R → w0.heap.size + 2 ≤ D.b i ∨ ∃ k, k < R ∧ D.b i = D0.b k
  apart : ∀ k, v.ownBlock = some k → 0 < n → ∀ i, i < R → k ≠ D.b i
section
variable {m B g R n cR : Nat} {D0 : RD} {A0 : Mx} {w0 : World} {M : Mx} {pv : List Nat} {v : Value} {D : RD} {W : World}
theorem EI.b0 (h : EI m B g R n cR D0 A0 w0 M pv v D W) (h0 : 0 < n) {i : Nat} (hi : i < R) : D.b i ≠ w0.heap.size ∧ D.b i ≠ w0.heap.size + 1 := by
  rcases h.old h0 i hi with h1 | ⟨k, hk, h1⟩
  · omega
  · have := (h.ini.row k hk).lt h0
    omega
theorem EI.step (h : EI m B g R n cR D0 A0 w0 M pv v D W) {W' : World} {D' : RD} {M' : Mx} (hs : Sel (fun k _ => k = g ∨ (0 < n ∧ ∃ i, i < R ∧ k = D.b i)) W W') (hem : EM W' B g R n D' M') (hold : 0 < n → ∀ i, i < R → W.heap.size ≤ D'.b i ∨ ∃ k, k < R ∧ D'.b i = D.b k) :
    EI m B g R n cR D0 A0 w0 M' pv v D' W' := by
  have hg := h.ini.glt
  have hsz : w0.heap.size + 2 ≤ W.heap.size := by have := h.p4.lt; omega
  refine ⟨h.ini, hem, own_sel h.own hs fun k hk o q => ?_, hs.blk h.p3 fun o q => ?_, hs.blk h.p4 fun o q => ?_, h.sel.then hs fun k o hk q => ?_, fun h0 i hi => ?_, fun k hk h0 i hi => ?_⟩
  · have := (h.own.lt k hk).1
    rcases q with q | ⟨h0, i, hi, q⟩
    · omega
    · exact h.apart k hk h0 i hi q
  · rcases q with q | ⟨h0, i, hi, q⟩
    · omega
    · exact (h.b0 h0 hi).1 q.symm
  · rcases q with q | ⟨h0, i, hi, q⟩
    · omega
    · exact (h.b0 h0 hi).2 q.symm
  · rcases q with q | ⟨h0, i, hi, q⟩
    · exact .inl q
    · rcases h.old h0 i hi with h1 | ⟨j, hj, h1⟩
      · omega
      · exact .inr ⟨h0, j, hj, q.trans h1⟩
  · rcases hold h0 i hi with h1 | ⟨k, hk, h1⟩
    · exact .inl (by omega)
    · rw [h1]; exact h.old h0 k hk
  · rcases hold h0 i hi with h1 | ⟨j, hj, h1⟩
    · have := (h.own.lt k hk).2
      omega
    · rw [h1]; exact h.apart k hk h0 j hj
theorem EI.below (h : EI m B g R n cR D0 A0 w0 M pv v D W) {W' : World} (hb : Below W.heap.size W W') : EI m B g R n cR D0 A0 w0 M pv v D W' :=
  h.step (Sel.of_below _ hb) (h.em.below hb) (fun _ i hi => .inr ⟨i, hi, rfl⟩)
theorem EI.congr (h : EI m B g R n cR D0 A0 w0 M pv v D W) {N : Mx} (he : ∀ i j, i < R → j < n → M i j = N i j) : EI m B g R n cR D0 A0 w0 N pv v D W :=
  ⟨h.ini, h.em.congr he, h.own, h.p3, h.p4, h.sel, h.old, h.apart⟩
/-- A pivot more. -/
theorem EI.snoc (h : EI m B g R n cR D0 A0 w0 M pv v D W) {c : Nat} {W' : World} {v' : Value} (hg : W.grownBy W' v.ownBlock) (ho : W'.ownsRow (w0.heap.size + 2) 3 1 v' (pv.length + 1) (pvC pv ++ [.int .i64 (c : Int)])) (hat : v'.ownBlock = v.ownBlock ∨ v'.ownBlock = some W.heap.size) :
    EI m B g R n cR D0 A0 w0 M (pv ++ [c]) v' D W' := by
  have hsz : w0.heap.size + 2 ≤ W.heap.size := by have := h.p4.lt; omega
  have hglt := h.ini.glt
  have blk : ∀ k, k < W.heap.size → v.ownBlock ≠ some k → W'.heap[k]? = W.heap[k]? := fun k hk hn => hg.block k hk (Ne.symm hn)
  have hne : ∀ k, k < w0.heap.size + 2 → v.ownBlock ≠ some k := fun k hk e => by have := (h.own.lt k e).1; omega
  have hbl : Below (w0.heap.size + 2) W W' := (Below.refl _ W).grown hg hsz (fun k hk => (h.own.lt k hk).1)
  have rowk : ∀ i, i < R → 0 < n → ∀ o, W'.cell? ⟨D.b i, o, none⟩ = W.cell? ⟨D.b i, o, none⟩ ∧ W'.frozen? ⟨D.b i, o, none⟩ = W.frozen? ⟨D.b i, o, none⟩ := fun i hi h0 o => by
    have hb := blk (D.b i) ((h.em.row i hi).lt h0) (fun e => h.apart _ e h0 i hi rfl)
    exact ⟨World.cell?_of_block (w := W) hb, World.frozen?_of_block (w := W) hb⟩
  refine ⟨h.ini, ⟨Nat.lt_of_lt_of_le h.em.glt hbl.size, h.em.gB, fun i hi => (hbl.cell (p := ⟨g, i, none⟩) (by show g < _; omega)).trans (h.em.hdr i hi), fun i hi => (hbl.frozen (p := ⟨g, i, none⟩) (by show g < _; omega)).trans (h.em.hfr i hi), h.em.cap, fun i hi => ⟨(h.em.row i hi).adr, fun h0 => Nat.lt_of_lt_of_le ((h.em.row i hi).lt h0) hbl.size, fun j hj => ((rowk i hi (by omega) _).1).trans ((h.em.row i hi).cell j hj)⟩, h.em.low, fun i hi j hj => ((rowk i hi (by omega) _).2).trans (h.em.free i hi j hj), h.em.apart⟩, ?_, h.p3.kept hbl (by omega), h.p4.kept hbl (by omega), ?_, h.old, fun k hk h0 i hi => ?_⟩
  · rw [pvC_snoc, List.length_append]; exact ho
  · exact h.sel.later (hbl.mono (by omega))
  · rcases hat with e | e
    · rw [e] at hk; exact h.apart k hk h0 i hi
    · rw [e] at hk
      injection hk with hk
      have := (h.em.row i hi).lt h0
      omega
end

end Go.Proofs.YtodmcojcmihooaaDoor
