/-
  Rank, walked; what Solve makes and keeps.
-/
import Derived.Test.YtodmcojcmihooaaDoorMatN
import Derived.Test.YtodmcojcmihooaaDoorMatMu
namespace Go.Proofs.YtodmcojcmihooaaDoor
open Go.RowKit
set_option linter.unusedVariables false

set_option maxHeartbeats 1000000 in
theorem rank_any (a : Mt) (A : Option Addr) (c : Nat) (w : World) (hT : Tabs w) (hs : MIn w a A c) :
    Calls Tryd.prog 25 #[mtV a.F a.R a.C (.slice A a.l.length c)] w fun e w' => e = .returned (.int .i64 (rankM a)) ∧ Below w.heap.size w w' := by
  have HV := hideIt (mvalid_b hT hs)
  have HI := hideIt (fun W (hW : Below w.heap.size w W) => indep_any a A c W (hT.keep hW) (hs.keep hW))
  have HB := hideIt (Blk.new w 24 (mtC a.F a.R a.C (.slice A a.l.length c)))
  obtain ⟨z, hz⟩ : ∃ z, z = rankM a := ⟨_, rfl⟩
  rw [← hz]
  have HZ := hideIt hz
  clear hz
  by_cases hv : vM a = true
  · have HZ2 : Hid (z = ((indM a).length : Int)) := hideIt (HZ.out.trans (if_pos hv))
    rw [hv] at HV
    clear hv hs hT HZ
    generalize indM a = l at *
    generalize a.l.length = n at *
    generalize a.F = F at *
    generalize a.R = R at *
    generalize a.C = C at *
    go_enter Tryd.func25, Tryd.ntmps25
    go_wp2_with fail
    refine (HV.out _ (below_new w _)).mono ?_
    rintro e w2 ⟨rfl, hb2⟩
    have HB2 := hideIt (HB.out.kept hb2 HB.out.lt)
    have HW2 := hideIt ((below_new w (.cells (mtC F R C (.slice A n c)).toArray 24)).trans (hb2.mono (by simp)))
    clear hb2
    go_wp2_with ((with_reducible refine at_load ?_); refine wpList_ldM rfl (.tmp 1) rfl w.heap.size _ _ _ _ rfl HB2.out ?_)
    refine (HI.out w2 HW2.out).mono ?_
    rintro e w3 ⟨v, rfl, ho, hb3⟩
    obtain ⟨A', c', rfl, _, _⟩ := own_form ho
    have HW3 := hideIt (HW2.out.trans (hb3.mono HW2.out.size))
    clear ho hb3
    go_wp2_with fail
    go_ret
    exact ⟨by rw [HZ2.out]; rfl, HW3.out⟩
  · have HZ2 : Hid (z = -1) := hideIt (HZ.out.trans (if_neg hv))
    rw [Bool.eq_false_iff.2 hv] at HV
    clear hv hs hT HZ HI
    generalize a.l.length = n at *
    generalize a.F = F at *
    generalize a.R = R at *
    generalize a.C = C at *
    go_enter Tryd.func25, Tryd.ntmps25
    go_wp2_with fail
    refine (HV.out _ (below_new w _)).mono ?_
    rintro e w2 ⟨rfl, hb2⟩
    have HW2 := hideIt ((below_new w (.cells (mtC F R C (.slice A n c)).toArray 24)).trans (hb2.mono (by simp)))
    clear hb2
    go_wp2_with fail
    go_ret
    exact ⟨by rw [HZ2.out]; rfl, HW2.out⟩

/-- Two matrices side by side. -/
def sideM (C : Nat) (E E2 : Mx) : Mx := fun i => cat2 C (E i) (E2 i)
theorem side_v {m C : Nat} {E E2 : Mx} (h1 : Vm m E) (h2 : Vm m E2) : Vm m (sideM C E E2) := fun i j => by
  unfold sideM cat2
  split
  · exact h1 _ _
  · exact h2 _ _
/-- The rows of the solution that the first k pivots give. -/
def solK (pv : List Nat) (M : Mx) (C : Nat) : Nat → Mx
  | 0 => fun _ _ => 0
  | k + 1 => fun r j => if r = pv.getD k 0 then M k (C + j) else solK pv M C k r j
open Classical in
/-- The solution, where the elimination's outcome is s. -/
noncomputable def solF (m R C C2 : Nat) (s : Mx × List Nat) : Mt × Int :=
  if ∃ i, s.2.length ≤ i ∧ i < R ∧ ∃ j, j < C + C2 ∧ s.1 i j ≠ 0 then (zeroM, 12) else (mkM m C C2 (solK s.2 s.1 C s.2.length), 0)
/-- What Solve answers. -/
noncomputable def solveM (a b : Mt) : Mt × Int :=
  if vM a = true ∧ vM b = true ∧ a.F = b.F ∧ a.R = b.R then solF a.F.toNat a.R.toNat a.C.toNat b.C.toNat (red a.F.toNat a.R.toNat (sideM a.C.toNat a.e b.e) a.C.toNat) else (zeroM, 1)

/-- The rows while they are laid side by side: i of them. -/
structure PM (w4 w : World) (g R n i : Nat) (D : RD) (G : Mx) : Prop where
  sel : Sel (fun k _ => k = g) w4 w
  glt : g < w4.heap.size
  blk : Blk w g 22 (hl R fun k => if k < i then .slice (D.ad k) n (D.c k) else .slice none 0 0)
  cap : ∀ k, k < i → n ≤ D.c k ∧ D.c k ≤ maxLen
  row : ∀ k, k < i → Ints w (D.ad k) (D.b k) (D.o k) n (G k)
  low : 0 < n → ∀ k, k < i → w4.heap.size ≤ D.b k
  free : 0 < n → ∀ k, k < i → ∀ j, w.frozen? ⟨D.b k, j, none⟩ = false
  apart : 0 < n → ∀ k l, k < i → l < i → k ≠ l → D.b k ≠ D.b l
theorem PM.below {w4 w w' : World} {g R n i : Nat} {D : RD} {G : Mx} (h : PM w4 w g R n i D G) (hb : Below w.heap.size w w') : PM w4 w' g R n i D G :=
  ⟨h.sel.trans (Sel.of_below _ hb), h.glt, h.blk.kept hb h.blk.lt, h.cap, fun k hk => (h.row k hk).below hb (h.row k hk).lt, h.low, fun h0 k hk j => (hb.frozen (p := ⟨D.b k, j, none⟩) ((h.row k hk).lt h0)).trans (h.free h0 k hk j), h.apart⟩
theorem PM.next {w4 w w' : World} {g R n i : Nat} {D : RD} {G : Mx} (h : PM w4 w g R n i D G) (hi : i < R) {A : Option Addr} {c : Nat} (hb : Below w.heap.size w w') (ho : w'.ownsRow w.heap.size 3 1 (.slice A n c) n ((nl n (G i)).map iv)) (h1 : n ≤ c) (h2 : c ≤ maxLen) :
    ∃ D', PM w4 (w'.setCell ⟨g, i, none⟩ (.slice A n c)) g R n (i + 1) D' G := by
  obtain ⟨gi, hI, hg⟩ := own_ints ho
  have hP := h.below hb
  have hsz : w4.heap.size ≤ w.heap.size := h.sel.size
  have hglt := h.glt
  have sc : Sel (fun k _ => k = g) w' (w'.setCell ⟨g, i, none⟩ (.slice A n c)) := (Sel.refl (fun k _ => k = g) w').setCell (S := fun k _ => k = g) rfl _
  have hk4 : ∀ k, k < i → 0 < n → D.b k ≠ gi := fun k hk h0 => by have := (h.row k hk).lt h0; have := (hg h0).1; omega
  have hgi : 0 < n → gi ≠ g := fun h0 => by have := (hg h0).1; omega
  refine ⟨⟨fun k => if k = i then A else D.ad k, fun k => if k = i then gi else D.b k, fun k => if k = i then 0 else D.o k, fun k => if k = i then c else D.c k⟩, ⟨hP.sel.trans sc, h.glt, ?_, fun k hk => ?_, fun k hk => ?_, fun h0 k hk => ?_, fun h0 k hk j => ?_, fun h0 k l hk hl hne => ?_⟩⟩
  · have hs := hP.blk.store i (.slice A n c)
    rw [hl_set _ _ _ hi] at hs
    rw [hl_congr (g := fun k => if k = i then Value.slice A n c else if k < i then .slice (D.ad k) n (D.c k) else .slice none 0 0) (fun k hk => ?_)]
    · exact hs
    · show (if k < i + 1 then Value.slice (if k = i then A else D.ad k) n (if k = i then c else D.c k) else .slice none 0 0) = _
      by_cases e : k = i
      · rw [if_pos (by omega), if_pos e, if_pos e, if_pos e]
      · rw [if_neg e, if_neg e, if_neg e]
        by_cases e2 : k < i
        · rw [if_pos e2, if_pos (by omega)]
        · rw [if_neg e2, if_neg (by omega)]
  · show n ≤ (if k = i then c else D.c k) ∧ (if k = i then c else D.c k) ≤ maxLen
    by_cases e : k = i
    · rw [if_pos e]; exact ⟨h1, h2⟩
    · rw [if_neg e]; exact h.cap k (by omega)
  · by_cases e : k = i
    · subst e
      have h3 := hI.sel sc (fun j hj q => hgi (by omega) q)
      refine ⟨fun h0 => ?_, fun h0 => ?_, fun j hj => ?_⟩
      · show (if k = k then A else D.ad k) = some ⟨if k = k then gi else D.b k, if k = k then 0 else D.o k, none⟩
        rw [if_pos rfl, if_pos rfl, if_pos rfl]; exact h3.adr h0
      · show (if k = k then gi else D.b k) < _
        rw [if_pos rfl]; exact h3.lt h0
      · show World.cell? _ ⟨if k = k then gi else D.b k, (if k = k then 0 else D.o k) + j, none⟩ = _
        rw [if_pos rfl, if_pos rfl]; exact h3.cell j hj
    · have hki : k < i := by omega
      have h3 := (hP.row k hki).sel sc (fun j hj q => by have := h.low (by omega) k hki; omega)
      refine ⟨fun h0 => ?_, fun h0 => ?_, fun j hj => ?_⟩
      · show (if k = i then A else D.ad k) = some ⟨if k = i then gi else D.b k, if k = i then 0 else D.o k, none⟩
        rw [if_neg e, if_neg e, if_neg e]; exact h3.adr h0
      · show (if k = i then gi else D.b k) < _
        rw [if_neg e]; exact h3.lt h0
      · show World.cell? _ ⟨if k = i then gi else D.b k, (if k = i then 0 else D.o k) + j, none⟩ = _
        rw [if_neg e, if_neg e]; exact h3.cell j hj
  · show w4.heap.size ≤ (if k = i then gi else D.b k)
    by_cases e : k = i
    · rw [if_pos e]; have := (hg h0).1; omega
    · rw [if_neg e]; exact h.low h0 k (by omega)
  · show World.frozen? _ ⟨if k = i then gi else D.b k, j, none⟩ = false
    by_cases e : k = i
    · rw [if_pos e]; exact (sc.frozen gi j (hI.lt h0)).trans ((hg h0).2 j)
    · rw [if_neg e]; exact (sc.frozen _ j ((hP.row k (by omega)).lt h0)).trans (hP.free h0 k (by omega) j)
  · show (if k = i then gi else D.b k) ≠ (if l = i then gi else D.b l)
    by_cases e : k = i
    · rw [if_pos e, if_neg (by omega)]
      exact fun q => hk4 l (by omega) h0 q.symm
    · rw [if_neg e]
      by_cases e2 : l = i
      · rw [if_pos e2]; exact hk4 k (by omega) h0
      · rw [if_neg e2]; exact h.apart h0 k l (by omega) (by omega) hne
theorem PM.em {w4 w : World} {g R n : Nat} {D : RD} {G : Mx} (h : PM w4 w g R n R D G) {B : Nat} (hB : B ≤ g) : EM w B g R n D G := by
  have hglt := h.glt
  refine ⟨Nat.lt_of_lt_of_le h.glt h.sel.size, hB, fun k hk => ?_, fun k hk => h.blk.free k, h.cap, h.row, fun h0 k hk => ?_, fun k hk j hj => h.free (by omega) k hk _, fun k l hk hl hne j q hj hq e => h.apart (by omega) k l hk hl hne e.1⟩
  · rw [h.blk.cell, hl_at _ hk, if_pos hk]
  · have := h.low h0 k hk
    omega
theorem cut51 (A : Option Addr) {n c p : Nat} (hk : p ≤ n) (hn : n ≤ c) (W : World) :
    (Instr.sliceAt 51 (.slice A n c) (some (.int .i64 (p : Int))) none none).run Tryd.prog W = .ok (.slice (rowA A c p) (n - p) (c - p)) W := by
  have hs : ∀ W, (sizeOf 22).run Tryd.prog W = .ok 1 W := fun W => by kernel_rfl
  have hel : Tryd.prog.elem 51 = 22 := by simp [Program.elem, Tryd.underlying51]
  rw [run_sliceAt_slice W _ _ _ _ _ (by rw [hel]; exact Tryd.underlying51), run_slice_l W _ A n c (by rw [hel]; exact Tryd.underlying51) .i64 p (by omega) (by omega), hel, hs]
  simp only [Result.andThen, sliced, Int.toNat_natCast, Nat.mul_one, rowA]
theorem cut22 (A : Option Addr) {n c p : Nat} (hk : p ≤ n) (hn : n ≤ c) (W : World) :
    (Instr.sliceAt 22 (.slice A n c) (some (.int .i64 (p : Int))) none none).run Tryd.prog W = .ok (.slice (rowA A c p) (n - p) (c - p)) W := by
  have hs : ∀ W, (sizeOf 3).run Tryd.prog W = .ok 1 W := fun W => by kernel_rfl
  have hel : Tryd.prog.elem 22 = 3 := by simp [Program.elem, Tryd.underlying22]
  rw [run_sliceAt_slice W _ _ _ _ _ (by rw [hel]; exact Tryd.underlying22), run_slice_l W _ A n c (by rw [hel]; exact Tryd.underlying22) .i64 p (by omega) (by omega), hel, hs]
  simp only [Result.andThen, sliced, Int.toNat_natCast, Nat.mul_one, rowA]
theorem rowA_at {A : Option Addr} {b o c p : Nat} (hA : A = some ⟨b, o, none⟩) (hp : p < c) : rowA A c p = some ⟨b, o + p, none⟩ := by
  unfold rowA
  rw [if_neg (by omega), hA]
  simp [addr_add]
theorem Ints.cut {w : World} {A : Option Addr} {b o n c p : Nat} {f : Nat → Nat} (h : Ints w A b o n f) (hp : p ≤ n) (hn : n ≤ c) : Ints w (rowA A c p) b (o + p) (n - p) (fun j => f (p + j)) := by
  refine ⟨fun h0 => rowA_at (h.adr (by omega)) (by omega), fun h0 => h.lt (by omega), fun j hj => ?_⟩
  rw [Nat.add_assoc]
  exact h.cell (p + j) (by omega)
theorem exec_ld {P : Program} {o : Oper} {ρ : Operand → Value} {t : TypeId} {x : Operand} (ho : o.op = .load t x) {v : Value} {W : World} (h : (Instr.loadAt t (ρ x)).run P W = .ok v W) : (execOp ρ o).run P W = .ok (.value v) W := by
  unfold execOp
  simp only [ho, Sem.run_bind, h, Result.andThen_ok, Sem.run_pure]
theorem exec_sl {P : Program} {o : Oper} {ρ : Operand → Value} {t : TypeId} {x l : Operand} (ho : o.op = .slice t x (some l) none none) {v : Value} {W : World} (h : (Instr.sliceAt t (ρ x) (some (ρ l)) none none).run P W = .ok v W) : (execOp ρ o).run P W = .ok (.value v) W := by
  unfold execOp
  simp only [ho, Option.map_some, Option.map_none, Sem.run_bind, h, Result.andThen_ok, Sem.run_pure]

end Go.Proofs.YtodmcojcmihooaaDoor
