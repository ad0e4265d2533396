/-
  The program's All, walked.
-/
import Derived.Test.YtklngodlijiccaaDoorRepN
namespace Go.Proofs.YtklngodlijiccaaDoor
open Go.RowKit Go.Shelf
set_option linter.unusedVariables false
set_option linter.unusedSimpArgs false
attribute [local go_sem] Oper.semAt_some

/-- The marks of loops over functions among the deferred calls. -/
def mkD (Ds : List Nat) : List Deferred := Ds.map fun D => { target := .collected D, args := #[] }
def Marks (Ds : List Nat) (w : World) : Prop := Ds.Nodup ∧ ∀ D ∈ Ds, w.heap[D]? = some (.deferred (some []))
theorem leaves_marks {P : Program} {F : Fence} {n : Nat} {fn : Func} {tmps : Array Value} {R : Ending → World → Prop} : ∀ (Ds : List Nat) (w : World), Marks Ds w →
    (∀ w', Keeps (fun k => k ∈ Ds) w w' → LeavesInM F n P fn tmps R [] .returning w') → LeavesInM F n P fn tmps R (mkD Ds) .returning w
  | [], w, _, h => h w (Keeps.refl _ w)
  | D :: Ds, w, hm, h => by
    have hD := hm.2 D List.mem_cons_self
    have hnd := List.nodup_cons.1 hm.1
    refine ⟨by simp, .inl ⟨_, _, rfl, run_takeDeferred hD, ?_⟩⟩
    refine leaves_marks Ds _ ⟨hnd.2, fun E hE => ?_⟩ fun w' hk => h w' ?_
    · rw [World.putObj_heap_other (fun e => hnd.1 (by rw [← e]; exact hE))]
      exact hm.2 E (List.mem_cons_of_mem _ hE)
    · exact ((Keeps.refl (fun k => k ∈ D :: Ds) w).putObj List.mem_cons_self _).trans (hk.wide fun k hk => List.mem_cons_of_mem _ hk)
theorem Blk.marks {Ds : List Nat} {w w' : World} {g : Nat} {t : TypeId} {cs : List Value} (h : Blk w g t cs) (hm : Marks Ds w) (hk : Keeps (fun k => k ∈ Ds) w w') : Blk w' g t cs :=
  (hk.block g h.lt fun hg => by have := h.symm.trans (hm.2 g hg); cases this).trans h
/-- Cells that lie, told by the blocks of them. -/
theorem Sl.mv {w w' : World} {A : Option Addr} {size n : Nat} {xs : List Value} (h : Sl w w.heap.size A size n xs) (hz : w.heap.size ≤ w'.heap.size) (hk : ∀ b o, A = some ⟨b, o, none⟩ → (∃ cs t f, w.heap[b]? = some (.cells cs t f)) → 0 < xs.length → w'.heap[b]? = w.heap[b]?) : Sl w' w'.heap.size A size n xs := by
  refine ⟨h.1, fun h0 => ?_⟩
  obtain ⟨b, o, hA, hb, hc⟩ := h.2 h0
  have hcs : ∃ cs t f, w.heap[b]? = some (.cells cs t f) := by
    have h1 := hc 0 xs[0] (by simp [h0])
    unfold World.cell? at h1
    cases hh : w.heap[b]? with
    | none => simp [hh] at h1
    | some ob =>
      cases ob with
      | cells cs t f => exact ⟨cs, t, f, rfl⟩
      | _ => simp [hh] at h1
  exact ⟨b, o, hA, Nat.lt_of_lt_of_le hb hz, fun j u hj => by rw [World.cell?_of_block (w := w) (a := ⟨b, o + j, none⟩) (hk b o hA hcs h0)]; exact hc j u hj⟩
theorem PJ.mv {W W' : World} {B : Nat} {v : Value} {ps : List (Int × TL)} (h : PJ W B v ps) (hz : W.heap.size ≤ W'.heap.size) (hk : ∀ k, B ≤ k → (∃ cs t f, W.heap[k]? = some (.cells cs t f)) → W'.heap[k]? = W.heap[k]?) : PJ W' B v ps := by
  obtain ⟨ws, h1, h2⟩ := h
  refine ⟨ws, ⟨h1.1, h1.2.imp id fun ⟨g, cap, cur, hv, hb, hg, r⟩ => ⟨g, cap, cur, hv, hb, (hk g hb ⟨_, _, _, hg⟩).trans hg, r⟩⟩, All2.imp (fun q p ⟨e, A, c, e2, hs, hl⟩ => ⟨e, A, c, e2, hs.mv hz fun b o hA hcs h0 => hk b (hl (by rw [tcs_len] at h0; omega) b o hA).1 hcs, hl⟩) h2⟩
theorem results_cellP {fn : Func} {p4 p5 : Tmp} (h : fn.results = #[.cell p4 40, .cell p5 31]) (tmps : Array Value) (w : World) (q4 q5 : Nat) (h4 : tmps.getD p4 undef = .pointer (some ⟨q4, 0, none⟩)) (h5 : tmps.getD p5 undef = .pointer (some ⟨q5, 0, none⟩))
    (A : Option Addr) (n c : Nat) (hc4 : w.cell? ⟨q4, 0, none⟩ = some (.slice A n c)) (a : Int) (hc5 : w.cell? ⟨q5, 0, none⟩ = some (.int .i64 a)) : (results fn tmps).run Tryd.prog w = .ok (.tuple #[.slice A n c, .int .i64 a]) w := by
  have hp4 : tmps[p4]?.getD undef = .pointer (some ⟨q4, 0, none⟩) := by simpa using h4
  have hp5 : tmps[p5]?.getD undef = .pointer (some ⟨q5, 0, none⟩) := by simpa using h5
  simp only [results, h]
  simp [hp4, hp5, Sem.run_bind, go_sem, hc4, hc5]
/-- What All keeps in its cells between two rounds. -/
structure AI (w : World) (Bz q4 q5 q6 : Nat) (pre : List PE) (W : World) : Prop where
  row : ∃ A c, Blk W q6 40 [.slice A (pre.map (·.1)).length c] ∧ PJ W Bz (.slice A (pre.map (·.1)).length c) (pre.map (·.1))
  fine : ∀ y ∈ pre, y.2 = 0
  r4 : Blk W q4 40 [.slice none 0 0]
  r5 : Blk W q5 31 [.int .i64 0]
  low : Below w.heap.size w W
/-- What a round that ends the loop leaves. -/
structure AX (w : World) (q4 q5 : Nat) (cd : Code) (pre : List PE) (W : World) : Prop where
  code : cd = .ret
  bad : ∃ pre0 y, pre = pre0 ++ [y] ∧ (∀ x ∈ pre0, x.2 = 0) ∧ y.2 ≠ 0 ∧ Blk W q5 31 [.int .i64 y.2]
  r4 : Blk W q4 40 [.slice none 0 0]
  low : Below w.heap.size w W
theorem Blk.stays {l : Nat} {W W' : World} {g : Nat} {t : TypeId} {cs : List Value} {r : Loop} (h : Blk W g t cs) (hl : W.heap[l]? = some (.loop r)) (hk : Stays l W W') : Blk W' g t cs :=
  (hk.block g h.lt fun e => by subst e; have := h.symm.trans hl; cases this).trans h
theorem Stays.below {l B : Nat} {w W W' : World} (h : Stays l W W') (hb : Below B w W) (hB : B ≤ w.heap.size) (hl : B ≤ l) : Below B w W' :=
  hb.trans ⟨h.os, h.tape, h.output, h.size, fun k hk => h.block k (Nat.lt_of_lt_of_le hk (Nat.le_trans hB hb.size)) (by omega)⟩
theorem AI.stays {w : World} {Bz q4 q5 q6 l : Nat} {pre : List PE} {W W' : World} {r : Loop} (h : AI w Bz q4 q5 q6 pre W) (hl : W.heap[l]? = some (.loop r)) (hk : Stays l W W') (hwl : w.heap.size ≤ l) : AI w Bz q4 q5 q6 pre W' := by
  obtain ⟨A, c, h1, h2⟩ := h.row
  exact ⟨⟨A, c, h1.stays hl hk, h2.mv hk.size fun k _ ⟨cs, t, f, hh⟩ => hk.block k (Array.getElem?_eq_some_iff.1 hh).1 fun e => (by subst e; have := hh.symm.trans hl; cases this)⟩, h.fine, h.r4.stays hl hk, h.r5.stays hl hk, hk.below h.low (Nat.le_refl _) hwl⟩
theorem AX.stays {w : World} {q4 q5 l : Nat} {cd : Code} {pre : List PE} {W W' : World} {r : Loop} (h : AX w q4 q5 cd pre W) (hl : W.heap[l]? = some (.loop r)) (hk : Stays l W W') (hwl : w.heap.size ≤ l) : AX w q4 q5 cd pre W' := by
  obtain ⟨pre0, y, e, h1, h2, h3⟩ := h.bad
  exact ⟨h.code, ⟨pre0, y, e, h1, h2, h3.stays hl hk⟩, h.r4.stays hl hk, hk.below h.low (Nat.le_refl _) hwl⟩
theorem foldE_fine : ∀ (pre : List PE) (acc : List (Int × TL)) (rest : List PE), (∀ y ∈ pre, y.2 = 0) → foldE acc (pre ++ rest) = foldE (acc ++ pre.map (·.1)) rest
  | [], acc, rest, _ => by rw [List.map_nil, List.append_nil]; rfl
  | y :: pre, acc, rest, h => by
    show (if y.2 = 0 then foldE (acc ++ [y.1]) (pre ++ rest) else _) = _
    rw [if_pos (h y List.mem_cons_self), foldE_fine pre _ rest fun z hz => h z (List.mem_cons_of_mem _ hz), List.map_cons, List.append_assoc]; rfl
/-- The plan in the round's own cell. -/
def BdA (mk : Nat → Value → Value → Act) (y : PE) (a : Act) (V W : World) : Prop :=
  ∃ q7 A c, a = mk q7 (.agg #[.int .i64 y.1.1, .slice A y.1.2.length c]) (.int .i64 y.2) ∧ Blk W q7 30 [.int .i64 y.1.1, .slice A y.1.2.length c] ∧ Sl W W.heap.size A 2 y.1.2.length (tcs y.1.2) ∧ (∀ b o, A = some ⟨b, o, none⟩ → V.heap.size ≤ b)
theorem BdA.put {mk : Nat → Value → Value → Act} {y : PE} {a : Act} {V W : World} {l : Nat} {r : Loop} {o : Obj} (h : BdA mk y a V W) (hl : W.heap[l]? = some (.loop r)) : BdA mk y a V (W.putObj l o) := by
  obtain ⟨q7, A, c, e, h1, h2, h3⟩ := h
  have hs := Stays.putObj W l o
  exact ⟨q7, A, c, e, h1.stays hl hs, h2.mv hs.size fun b _ _ ⟨cs, t, f, hh⟩ _ => hs.block b (Array.getElem?_eq_some_iff.1 hh).1 fun e => (by subst e; have := hh.symm.trans hl; cases this), h3⟩
theorem yl_len (P : Nat → PE) : ∀ (k : Nat) (l : List Bool), (yl P k l).length ≤ l.length
  | _, [] => Nat.le_refl _
  | k, b :: r => by
    have := yl_len P (k + 1) r
    unfold yl
    split
    · simp only [List.length_cons]; omega
    · simp only [List.length_cons]; omega
theorem foldE_all (xs : List PE) (h : ∀ y ∈ xs, y.2 = 0) : foldE [] xs = (xs.map (·.1), 0) := by
  have := foldE_fine xs [] [] h
  rw [List.append_nil, List.nil_append] at this
  exact this
theorem foldE_stop (pre0 : List PE) (y : PE) (rest : List PE) (h : ∀ x ∈ pre0, x.2 = 0) (hy : y.2 ≠ 0) : foldE [] ((pre0 ++ [y]) ++ rest) = ([], y.2) := by
  rw [List.append_assoc, foldE_fine pre0 [] _ h]
  exact if_neg hy
set_option maxHeartbeats 4000000 in
set_option maxRecDepth 100000 in
theorem all_any (x : Cd) (A : Option Addr) (c : Nat) (w : World) (hT : Tabs w) (hx : CIn w x A) (hs : List Bool) (D : Option Addr) (cd : Nat) (hD : Sl w w.heap.size D 1 hs.length (hs.map bl)) :
    Calls Tryd.prog 20 #[x.v A c, .slice D hs.length cd] w fun e w' => ∃ v, e = .returned (.tuple #[v, .int .i64 (allR x hs).2]) ∧ PJ w' w.heap.size v (allR x hs).1 ∧ Below w.heap.size w w' := by
  have HEX := hideIt (show EX x A hs D w from ⟨hT, hx, hD⟩)
  obtain ⟨W1, hW1⟩ : ∃ W, W = w.alloc (.cells (x.cs A c).toArray 24) := ⟨_, rfl⟩
  obtain ⟨W2, hW2⟩ : ∃ W, W = W1.alloc (.cells #[.slice none 0 0] 40) := ⟨_, rfl⟩
  obtain ⟨W, hW⟩ : ∃ W, W = W2.alloc (.cells #[.int .i64 0] 31) := ⟨_, rfl⟩
  have hb1 : Below w.heap.size w W1 := by rw [hW1]; exact below_new w _
  have hb2 : Below W1.heap.size W1 W2 := by rw [hW2]; exact below_new W1 _
  have hb3 : Below W2.heap.size W2 W := by rw [hW]; exact below_new W2 _
  have hb12 := hb1.trans (hb2.mono hb1.size)
  have hbw := hb12.trans (hb3.mono hb12.size)
  have hs1 : W1.heap.size = w.heap.size + 1 := by rw [hW1]; simp
  have hs2 : W2.heap.size = w.heap.size + 1 + 1 := by rw [hW2]; simp [hs1]
  have hs3 : W.heap.size = w.heap.size + 3 := by rw [hW]; simp [hs2]
  have HS3 := hideIt hs3
  have HB := hideIt hbw
  have HBC := hideIt (show BC W w.heap.size x A c by
    have h1 : BC W1 w.heap.size x A c := by rw [hW1]; exact BC.new c hx
    exact (h1.keep hb2).keep hb3)
  have HR4 := hideIt (show Blk W (w.heap.size + 1) 40 [.slice none 0 0] by
    have h := Blk.new W1 40 [.slice none 0 0]
    rw [← hW2, hs1] at h
    exact h.kept hb3 h.lt)
  have HR5 := hideIt (show Blk W (w.heap.size + 1 + 1) 31 [.int .i64 0] by
    rw [← hs2, hW]; exact Blk.new W2 31 [.int .i64 0])
  have HPU := hideIt (perBool_any x A c W (hT.keep hbw) HBC.out.cin hs.length D cd)
  have HWE1 := hideIt hW1
  have HWE2 := hideIt hW2
  have HWE := hideIt hW
  have hnot := not_b
  have HR := hideIt (show allR x hs = if okN x hs.length = true then foldE [] (yl (fun k => planR x hs (k : Int)) 0 hs) else ([], 1) from rfl)
  obtain ⟨R, hR⟩ : ∃ R, R = allR x hs := ⟨_, rfl⟩
  rw [← hR] at HR ⊢
  clear hb1 hb2 hb3 hb12 hbw hs1 hs2 hs3 hx hD hW hW1 hW2 hT hR
  cases hok : okN x hs.length with
  | false =>
    have HE := hideIt (HR.out.trans (if_neg fun h => by rw [hok] at h; cases h))
    rw [hok] at HPU
    clear hok HR
    rw [HE.out]
    go_enter Tryd.func20, Tryd.ntmps20
    go_wp2_with (first
      | ((with_reducible refine at_load ?_); refine wpList_ldC (by kernel_rfl) (.tmp 2) rfl (p := w.heap.size) (c := c) rfl (by rw [← HWE1.out, ← HWE2.out, ← HWE.out]; exact HBC.out.box) ?_)
      | (go_at_call 31; rw [← HWE1.out, ← HWE2.out, ← HWE.out]; refine HPU.out.mono ?_; rintro e w1 ⟨rfl, hb1⟩; have HB1 := hideIt hb1; have HR41 := hideIt (HR4.out.kept hb1 HR4.out.lt); have HR51 := hideIt (HR5.out.kept hb1 HR5.out.lt); have c4 := HR41.out.cell 0; have f4 := HR41.out.free 0; have HR52 := hideIt (show Blk (w1.setCell ⟨w.heap.size + 1, 0, none⟩ (.slice none 0 0)) (w.heap.size + 1 + 1) 31 [.int .i64 0] from HR51.out.store_other (by omega)); have c5 := HR52.out.cell 0; have f5 := HR52.out.free 0; clear hb1 HPU))
    have HF4 := hideIt ((HR41.out.store 0 (.slice none 0 0)).store_other (k := w.heap.size + 1 + 1) (i := 0) (u := .int .i64 1) (by omega))
    have HF5 := hideIt (HR52.out.store 0 (.int .i64 1))
    refine bodyPost_ret (results_cellP rfl _ _ (w.heap.size + 1) (w.heap.size + 1 + 1) rfl rfl none 0 0 (HF4.out.cell 0) 1 (HF5.out.cell 0)) rfl ?_
    exact ⟨_, rfl, PJ.nil _ _, ((HB.out.trans (HB1.out.mono HB.out.size)).setCell (p := ⟨w.heap.size + 1, 0, none⟩) (by show w.heap.size ≤ w.heap.size + 1; omega) _).setCell (p := ⟨w.heap.size + 1 + 1, 0, none⟩) (by show w.heap.size ≤ w.heap.size + 1 + 1; omega) _⟩
  | true =>
    rw [hok] at HPU
    obtain ⟨P, hP⟩ : ∃ P : Nat → PE, P = fun k : Nat => planR x hs (k : Int) := ⟨_, rfl⟩
    have HP := hideIt (fun k => show P k = planR x hs (k : Int) by rw [hP])
    have HE := hideIt (show R = foldE [] (yl P 0 hs) by rw [HR.out, if_pos hok, hP])
    have HNL := hideIt (show hs.length ≤ 100000 by
      obtain ⟨m, n, hvc⟩ := vC_spec (show vC x = true by unfold okN at hok; rw [Bool.and_eq_true] at hok; exact hok.1)
      have hlz : (hs.length : Int) = x.data + x.par.length := by unfold okN at hok; rw [Bool.and_eq_true] at hok; exact of_decide_eq_true hok.2
      have := hvc.d
      have := hvc.wid
      omega)
    have HPF := hideIt (fun (w1 : World) => show Calls Tryd.prog 48 #[x.v A c, .slice D hs.length cd] (w1.alloc (.cells #[.slice none 0 0] 40)) (fun e w' => e = .returned (.func (.func 62) #[] #[.pointer (some ⟨w1.heap.size + 1 + 1, 0, none⟩), .pointer (some ⟨w1.heap.size + 1, 0, none⟩)]) ∧ Blk w' (w1.heap.size + 1 + 1) 25 [.slice D hs.length cd] ∧ Blk w' (w1.heap.size + 1) 24 (x.cs A c) ∧ Blk w' w1.heap.size 40 [.slice none 0 0] ∧ Below w1.heap.size w1 w' ∧ w'.heap.size = w1.heap.size + 3) by
      refine (plansfor_any x A c D hs.length cd _).mono ?_
      rintro e w' ⟨rfl, rfl⟩
      have z1 : (w1.alloc (.cells #[.slice none 0 0] 40)).heap.size = w1.heap.size + 1 := by simp
      have z2 : ((w1.alloc (.cells #[.slice none 0 0] 40)).alloc (.cells (x.cs A c).toArray 24)).heap.size = w1.heap.size + 1 + 1 := by rw [World.size_alloc, z1]
      refine ⟨by rw [z1], ?_, ?_, ?_, ?_, by rw [World.size_alloc, z2]⟩
      · have h := Blk.new ((w1.alloc (.cells #[.slice none 0 0] 40)).alloc (.cells (x.cs A c).toArray 24)) 25 [.slice D hs.length cd]
        rwa [z2] at h
      · have h := (Blk.new (w1.alloc (.cells #[.slice none 0 0] 40)) 24 (x.cs A c)).alloc (.cells #[.slice D hs.length cd] 25)
        rwa [z1] at h
      · exact ((Blk.new w1 40 [.slice none 0 0]).alloc _).alloc _
      · exact (((Below.refl _ w1).alloc (Nat.le_refl _) _).alloc (by rw [z1]; omega) _).alloc (by rw [z2]; omega) _)
    clear hok HR hP
    refine (callsIn_wide (n := 0)).1 (callsIn_of_wp_marks (n := 0) Tryd.func20 rfl trivial ((wpIn_wide (n := 0)).2 ?_))
    simp only [Tryd.ntmps20, List.size_toArray, List.length_cons, List.length_nil, Nat.reduceAdd, Nat.reduceSub, Array.replicate_succ, Array.replicate_zero, List.push_toArray, List.append_toArray, List.nil_append, List.cons_append]
    go_wp2_with (first
      | ((with_reducible refine at_load ?_); refine wpList_ldC (by kernel_rfl) (.tmp 2) rfl (p := w.heap.size) (c := c) rfl (by first | exact HBX1.out.alloc _ | (rw [← HWE1.out, ← HWE2.out, ← HWE.out]; exact HBC.out.box)) ?_)
      | (go_at_call 31; rw [← HWE1.out, ← HWE2.out, ← HWE.out]; refine HPU.out.mono ?_; rintro e w1 ⟨rfl, hb1⟩; have HB1 := hideIt hb1; have HBX1 := hideIt (HBC.out.keep hb1).box; have HR41 := hideIt (HR4.out.kept hb1 HR4.out.lt); have HR51 := hideIt (HR5.out.kept hb1 HR5.out.lt); clear hb1 HPU)
      | (go_at_call 48; refine (HPF.out _).mono ?_; rintro e w2 ⟨rfl, hbh, hbc, hb6, hb2, hz2⟩; have HBh := hideIt hbh; have HBc := hideIt hbc; have HB6 := hideIt hb6; have HB2 := hideIt hb2; have HZ2 := hideIt hz2; clear hbh hbc hb6 hb2 hz2 HPF))
    obtain ⟨p, hp⟩ : ∃ q, q = w.heap.size := ⟨_, rfl⟩
    obtain ⟨q4, hq4⟩ : ∃ q, q = w.heap.size + 1 := ⟨_, rfl⟩
    obtain ⟨q5, hq5⟩ : ∃ q, q = w.heap.size + 1 + 1 := ⟨_, rfl⟩
    obtain ⟨q6, hq6⟩ : ∃ q, q = w1.heap.size := ⟨_, rfl⟩
    rw [← hq4] at HR41
    rw [← hq5] at HR51
    rw [← hq6] at HBh HBc HB6 HB2 HZ2
    rw [← hq5, ← hq4, ← hq6, ← hp]
    have HQ := hideIt (show p = w.heap.size ∧ q4 = p + 1 ∧ q5 = p + 2 ∧ p + 3 ≤ q6 ∧ w2.heap.size = q6 + 3 ∧ q6 = w1.heap.size by
      have h1 := HB1.out.size
      have h2 := HS3.out
      have h3 := HZ2.out
      omega)
    have HLW := hideIt (show Below w.heap.size w w2 from HB.out.trans ((HB1.out.trans (HB2.out.mono (by have := HB1.out.size; omega))).mono HB.out.size))
    have HR42 := hideIt (HR41.out.kept (by rw [← hq6]; exact HB2.out) HR41.out.lt)
    have HR52 := hideIt (HR51.out.kept (by rw [← hq6]; exact HB2.out) HR51.out.lt)
    have HIT := hideIt (plans_iter x A c hs HNL.out D cd w HEX.out (q6 + 1 + 1) (q6 + 1) w2 HBh.out HBc.out (fun k hk => HLW.out.block k hk) P HP.out)
    have Q1 := hideIt (show ∀ k, (k < w.heap.size ∨ k = q6 + 1 + 1 ∨ k = q6 + 1) → k < w2.heap.size ∧ w2.heap[k]? = w2.heap[k]? from fun k hk => ⟨by have h := HQ.out; have h2 := HLW.out.size; rcases hk with hk | rfl | rfl <;> omega, rfl⟩)
    have Q2 := hideIt (show ∀ k, (k = q4 ∨ k = q5 ∨ k = q6 ∨ w2.heap.size + 2 ≤ k) → k ≠ w2.heap.size ∧ k ≠ w2.heap.size + 1 ∧ ¬ (k < w.heap.size ∨ k = q6 + 1 + 1 ∨ k = q6 + 1) from fun k hk => by have h := HQ.out; have h2 := HLW.out.size; omega)
    have Q3 := hideIt (show w.heap.size ≤ w2.heap.size + 1 from Nat.le_succ_of_le HLW.out.size)
    have H0 := hideIt (show ∀ V, Below w2.heap.size w2 V → w2.heap.size + 2 ≤ V.heap.size → AI w (w2.heap.size + 2) q4 q5 q6 [] V from fun V hV _ => ⟨⟨none, 0, HB6.out.kept hV HB6.out.lt, PJ.nil _ _⟩, (fun y hy => by cases hy), HR42.out.kept hV HR42.out.lt, HR52.out.kept hV HR52.out.lt, HLW.out.trans (hV.mono HLW.out.size)⟩)
    clear hp hq4 hq5 hq6 HR41 HR51 HR42 HR52 HBX1 HBh HBc HB6 HB2 HZ2 HP HEX
    refine range_mk (gf := 62) (lb := #[.pointer (some ⟨q6 + 1 + 1, 0, none⟩), .pointer (some ⟨q6 + 1, 0, none⟩)]) rfl (enters_of Tryd.func62 (by kernel_rfl) rfl) HIT.out Q1.out
      (fun y args V W ⟨_, _, e, _, _⟩ => by rw [e]; rfl)
      (BdA fun q7 v16 v17 => { tmps := #[x.v A c, .slice D hs.length cd, .pointer (some ⟨p, 0, none⟩), undef, .pointer (some ⟨q4, 0, none⟩), .pointer (some ⟨q5, 0, none⟩), .pointer (some ⟨q6, 0, none⟩), .pointer (some ⟨q7, 0, none⟩), v17, x.v A c, .slice D hs.length cd, .bool true, .bool false, x.v A c, .slice D hs.length cd, .func (.func 62) #[] #[.pointer (some ⟨q6 + 1 + 1, 0, none⟩), .pointer (some ⟨q6 + 1, 0, none⟩)], v16, v17, undef, undef, undef, undef, undef, undef, undef, undef], defers := [] })
      (fun y a' V W l r o h hl => h.put hl)
      (fun k => k = q4 ∨ k = q5 ∨ k = q6 ∨ w2.heap.size + 2 ≤ k) Q2.out
      (fun pre W => AI w (w2.heap.size + 2) q4 q5 q6 pre W) (fun cd pre W => AX w q4 q5 cd pre W)
      (fun pre V V' r h hl hk => h.stays hl hk Q3.out) (fun cd pre V V' r h hl hk => h.stays hl hk Q3.out) H0.out ?assign ?body ?done ?stop
    case assign =>
      rintro l' y args U W K ⟨A9, c9, rfl, hs9, hl9⟩ hK
      have HK2 := hideIt hK
      have HS9 := hideIt hs9
      have HL9 := hideIt hl9
      clear hK hs9 hl9
      refine wpIn_seq_k (fun K1 hK1 => ?_)
      refine region_in (by kernel_rfl) (fun hh => by obtain ⟨_, _, hh⟩ := hh; exact hh) ?_
      go_wp2_with ((with_reducible refine at_store ?_); refine wpList_put rfl _ (.tmp 7) (.tmp 16) rfl W.heap.size [.int .i64 y.1.1, .slice A9 y.1.2.length c9] [.int .i64 0, .slice none 0 0] 30 rfl rfl (Blk.new W 30 [.int .i64 0, .slice none 0 0]) iszP rfl (by simp [Value.oneCell']) ?_; intro w9 ht9 hb9; have HB9 := hideIt hb9; have HL := hideIt (ht9.below (below_new W (.cells #[.int .i64 0, .slice none 0 0] 30)) (Nat.le_refl _)); clear ht9 hb9)
      gi_wp2
      exact HK2.out _ _ HL.out ⟨W.heap.size, A9, c9, rfl, HB9.out, (HS9.out.below HL.out).wide HL.out.size, HL9.out⟩
    case body =>
      rintro l' pre y a' V W r hpre hKW hI hl hst ⟨q7, A9, c9, rfl, hb7, hs9, hl9⟩
      have hfr : ∀ k, (∃ cs t f, V.heap[k]? = some (Obj.cells cs t f)) → W.heap[k]? = V.heap[k]? := fun k ⟨cs, t, f, hh⟩ => hst.block k (Array.getElem?_eq_some_iff.1 hh).1 fun e => by subst e; have := hh.symm.trans hl; cases this
      have hIW := hI.stays hl hst Q3.out
      have hVz : w2.heap.size + 2 ≤ V.heap.size := (Array.getElem?_eq_some_iff.1 hl).1
      have hple : pre.length + 1 ≤ hs.length := by
        have h1 := hpre.length_le
        have h2 := yl_len P 0 hs
        rw [List.length_append] at h1
        simp only [List.length_cons, List.length_nil] at h1
        omega
      obtain ⟨A3, c3, h6, hj⟩ := hI.row
      have hfine := hI.fine
      obtain ⟨acc, hacc⟩ : ∃ acc, acc = pre.map (·.1) := ⟨_, rfl⟩
      have hal : acc.length = pre.length := by rw [hacc, List.length_map]
      rw [← hacc] at h6 hj
      have HACC := hideIt hacc
      have hfresh : ∀ b o, A9 = some ⟨b, o, none⟩ → w2.heap.size + 2 ≤ b ∧ (Value.slice A3 acc.length c3).ownBlock ≠ some b := fun b o hA => ⟨Nat.le_trans hVz (hl9 b o hA), fun e => by
        have h1 := hl9 b o hA
        obtain ⟨ws, hw1, _⟩ := hj
        rcases hw1.2 with ⟨hn, _⟩ | ⟨g, cap, cur, hv, hb, hg, _⟩
        · rw [hn] at e; cases e
        · rw [hv] at e
          injection e with e
          have := (Array.getElem?_eq_some_iff.1 hg).1
          change g = b at e
          omega⟩
      have HFR := hideIt hfresh
      have H6 := hideIt (h6.stays hl hst)
      have HJ := hideIt (hj.mv hst.size fun k _ hh => hfr k hh)
      have H4 := hideIt hIW.r4
      have H5 := hideIt hIW.r5
      have HLO := hideIt hIW.low
      have HFI := hideIt hfine
      have H7 := hideIt hb7
      have HS9 := hideIt hs9
      have HSZ := hideIt (Nat.le_trans hVz hst.size)
      have hnum : acc.length + 1 ≤ 100000 := by have := HNL.out; omega
      obtain ⟨⟨pu, pL⟩, pe⟩ := y
      change Hid (Blk W q7 30 [.int .i64 pu, .slice A9 pL.length c9]) at H7
      change Hid (Sl W W.heap.size A9 2 pL.length (tcs pL)) at HS9
      have hpe := i_neq 31 .i64 pe 0
      clear hpre hKW hI hl hst hb7 hs9 hl9 hfr hIW hVz hple h6 hj hfine hacc hal hfresh
      show Code.wpIn _ _ _ _ _ { tmps := #[x.v A c, .slice D hs.length cd, .pointer (some ⟨p, 0, none⟩), undef, .pointer (some ⟨q4, 0, none⟩), .pointer (some ⟨q5, 0, none⟩), .pointer (some ⟨q6, 0, none⟩), .pointer (some ⟨q7, 0, none⟩), .int .i64 pe, x.v A c, .slice D hs.length cd, .bool true, .bool false, x.v A c, .slice D hs.length cd, .func (.func 62) #[] #[.pointer (some ⟨q6 + 1 + 1, 0, none⟩), .pointer (some ⟨q6 + 1, 0, none⟩)], .agg #[.int .i64 pu, .slice A9 pL.length c9], .int .i64 pe, undef, undef, undef, undef, undef, undef, undef, undef], defers := [] } _
      by_cases he : pe = 0
      · rw [decide_eq_false (fun h => h he)] at hpe
        have HPE := hideIt he
        clear he
        have c6 := H6.out.cell 0
        obtain ⟨vs, hvs1, hvs2⟩ := HJ.out
        have HV1 := hideIt hvs1
        have HV2 := hideIt hvs2
        clear hvs1 hvs2
        refine wpIn_block ?_
        refine wpIn_seq_k (fun K1 hK1 => ?_)
        have HK1 := hideIt hK1
        clear hK1
        gi_wp2_with fail
        refine HK1.out _ _ ?_
        refine region_in (by kernel_rfl) (fun hh => by obtain ⟨_, _, hh⟩ := hh; exact hh) ?_
        go_wp2_with (first
          | ((with_reducible refine at_load ?_); refine wpList_get rfl _ (.tmp 7) rfl q7 [.int .i64 pu, .slice A9 pL.length c9] 30 _ rfl H7.out Tryd.underlying30 rfl iszP ?_)
          | ((with_reducible refine at_append ?_); refine wpList_apP (u := pu) (A := A9) (k := pL.length) (c := c9) (v := .slice A3 acc.length c3) (n := acc.length) (us := pcells vs) rfl (.tmp 21) (.tmp 23) rfl rfl HV1.out rfl hnum HSZ.out ?_; intro v8 w10 HO8 HG8 HA8 HBB; obtain ⟨A8, c8, hv8, _, _⟩ := own_form HO8.out; subst hv8; have HQ6 := hideIt (show Blk w10 q6 40 [.slice A3 acc.length c3] from (HG8.out.block q6 (by have := H6.out.lt; simp; omega) (own_ne HV1.out H6.out (by decide))).trans (H6.out.alloc _)); have c6' := HQ6.out.cell 0; have f6 := HQ6.out.free 0))
        have hqq := HQ.out
        have hpj : PJ w10 (w2.heap.size + 2) (.slice A8 (acc.length + 1) c8) (acc ++ [(pu, pL)]) := PJ.snoc HV1.out HV2.out HS9.out (fun _ => HFR.out) HO8.out HG8.out HA8.out (by have := HG8.out.size; simp at this; omega)
        have hbb := HBB.out
        refine ⟨(show Keeps _ W w10 from ⟨hbb.os, hbb.tape, hbb.output, hbb.size, fun k hk hn => hbb.block k (by omega)⟩).setCell (Or.inr (Or.inr (Or.inl rfl))) _, ⟨A8, c8, ?_, ?_⟩, fun z hz => ?_, ?_, ?_, ?_⟩
        · rw [List.map_append, ← HACC.out, List.length_append]
          exact HQ6.out.store 0 (.slice A8 (acc.length + 1) c8)
        · rw [List.map_append, ← HACC.out]
          have hmv := hpj.mv (W' := w10.setCell ⟨q6, 0, none⟩ (.slice A8 (acc.length + 1) c8)) (by simp [World.setCell]) fun k hk _ => heap_setCell_other _ ⟨q6, 0, none⟩ k _ (by show k ≠ q6; omega)
          rw [List.length_append]
          exact hmv
        · rcases List.mem_append.1 hz with hz | hz
          · exact HFI.out z hz
          · rw [List.mem_singleton.1 hz]; exact HPE.out
        · exact Blk.store_other ((hbb.block q4 (by omega)).trans H4.out) (by omega)
        · exact Blk.store_other ((hbb.block q5 (by omega)).trans H5.out) (by omega)
        · exact (HLO.out.trans (hbb.mono (by have := HLW.out.size; omega))).setCell (p := ⟨q6, 0, none⟩) (by show w.heap.size ≤ q6; omega) _
      · rw [decide_eq_true he] at hpe
        have HPE := hideIt he
        clear he
        have e4 := H4.out.cell 0
        have f4 := H4.out.free 0
        have hne : q5 ≠ q4 := by have := HQ.out; omega
        have HB52 := hideIt (show Blk (W.setCell ⟨q4, 0, none⟩ (.slice none 0 0)) q5 31 [.int .i64 0] from H5.out.store_other hne)
        have e5 := HB52.out.cell 0
        have f5 := HB52.out.free 0
        have HF4 := hideIt ((H4.out.store 0 (.slice none 0 0)).store_other (k := q5) (i := 0) (u := .int .i64 pe) hne.symm)
        have HF5 := hideIt (HB52.out.store 0 (.int .i64 pe))
        clear hne
        gi_wp2_with fail
        gi_wp2
        have hqq := HQ.out
        exact ⟨((Keeps.refl _ W).setCell (Or.inl rfl) _).setCell (Or.inr (Or.inl rfl)) _, ⟨rfl, ⟨pre, _, rfl, HFI.out, HPE.out, HF5.out⟩, HF4.out, (HLO.out.setCell (p := ⟨q4, 0, none⟩) (by show w.heap.size ≤ q4; omega) _).setCell (p := ⟨q5, 0, none⟩) (by show w.heap.size ≤ q5; omega) _⟩⟩
    case done =>
      intro D2 W hD2 hKW hI hDf
      have hqq := HQ.out
      obtain ⟨A3, c3, h6, hj⟩ := hI.row
      have HRR := hideIt (show R = ((yl P 0 hs).map (·.1), 0) from HE.out.trans (foldE_all _ hI.fine))
      obtain ⟨acc, hacc⟩ : ∃ acc, acc = (yl P 0 hs).map (·.1) := ⟨_, rfl⟩
      rw [← hacc] at h6 hj HRR
      have c6 := h6.cell 0
      have HJ := hideIt hj
      have hne : q5 ≠ q4 := by omega
      have e4 := hI.r4.cell 0
      have f4 := hI.r4.free 0
      have HB52 := hideIt (show Blk (W.setCell ⟨q4, 0, none⟩ (.slice A3 acc.length c3)) q5 31 [.int .i64 0] from hI.r5.store_other hne)
      have e5 := HB52.out.cell 0
      have f5 := HB52.out.free 0
      have HF4 := hideIt ((hI.r4.store 0 (.slice A3 acc.length c3)).store_other (k := q5) (i := 0) (u := .int .i64 0) hne.symm)
      have HF5 := hideIt (HB52.out.store 0 (.int .i64 0))
      have HLO := hideIt hI.low
      have HMK := hideIt (show Marks [D2] ((W.setCell ⟨q4, 0, none⟩ (.slice A3 acc.length c3)).setCell ⟨q5, 0, none⟩ (.int .i64 0)) from ⟨by simp, fun D hD => by
        rw [List.mem_singleton.1 hD, heap_setCell_other _ ⟨q5, 0, none⟩ D2 _ (by show D2 ≠ q5; omega), heap_setCell_other _ ⟨q4, 0, none⟩ D2 _ (by show D2 ≠ q4; omega)]
        exact hDf⟩)
      have HD2 := hideIt hD2
      clear hD2 hKW hI hDf hj h6 hacc hqq hne
      go_wp2_with fail
      refine leaves_marks [D2] _ HMK.out fun w' hk => ?_
      refine ⟨_, results_cellP rfl _ w' q4 q5 rfl rfl A3 acc.length c3 ((HF4.out.marks HMK.out hk).cell 0) 0 ((HF5.out.marks HMK.out hk).cell 0), ?_⟩
      rw [HRR.out]
      have hqq := HQ.out
      have hd := HD2.out
      have hw2 := HLW.out.size
      refine ⟨_, rfl, (HJ.out.mv (B := w2.heap.size + 2) (W' := w') (Nat.le_trans (by simp [World.setCell]) hk.size) fun k hk1 ⟨cs, t, f, hh⟩ => ?_).low (by omega), ?_⟩
      · have h1 : ((W.setCell ⟨q4, 0, none⟩ (.slice A3 acc.length c3)).setCell ⟨q5, 0, none⟩ (.int .i64 0)).heap[k]? = W.heap[k]? := by
          rw [heap_setCell_other _ ⟨q5, 0, none⟩ k _ (by show k ≠ q5; omega), heap_setCell_other _ ⟨q4, 0, none⟩ k _ (by show k ≠ q4; omega)]
        rw [← h1]
        refine hk.block k (by have := (Array.getElem?_eq_some_iff.1 hh).1; simpa [World.setCell] using this) fun hm => ?_
        rw [List.mem_singleton] at hm
        have h2 := HMK.out.2 D2 List.mem_cons_self
        rw [hm] at h1 hh
        rw [h2, hh] at h1
        cases h1
      · exact ((HLO.out.setCell (p := ⟨q4, 0, none⟩) (by show w.heap.size ≤ q4; omega) _).setCell (p := ⟨q5, 0, none⟩) (by show w.heap.size ≤ q5; omega) _).trans (hk.below (by have := HLO.out.size; simp [World.setCell]; omega) fun k hk2 hm => by rw [List.mem_singleton] at hm; omega)
    case stop =>
      intro D2 cd2 pre W hD2 hKW hpre hx hDf
      have hqq := HQ.out
      obtain ⟨hcode, ⟨pre0, y, hpe, hz, hy, h5⟩, h4, hlow⟩ := hx
      subst hcode
      have HRR := hideIt (show R = ([], y.2) by
        obtain ⟨rest, hrest⟩ := hpre
        rw [HE.out, ← hrest, hpe]
        exact foldE_stop pre0 y rest hz hy)
      have HMK := hideIt (show Marks [D2] W from ⟨by simp, fun D hD => by rw [List.mem_singleton.1 hD]; exact hDf⟩)
      have H4 := hideIt h4
      have H5 := hideIt h5
      have HLO := hideIt hlow
      have HD2 := hideIt hD2
      clear hD2 hKW hpre hDf hqq hpe hz hy h5 h4 hlow
      go_wp2_with fail
      refine leaves_marks [D2] W HMK.out fun w' hk => ?_
      refine ⟨_, results_cellP rfl _ w' q4 q5 rfl rfl none 0 0 ((H4.out.marks HMK.out hk).cell 0) y.2 ((H5.out.marks HMK.out hk).cell 0), ?_⟩
      rw [HRR.out]
      have hqq := HQ.out
      have hd := HD2.out
      have hw2 := HLW.out.size
      exact ⟨_, rfl, PJ.nil _ _, HLO.out.trans (hk.below HLO.out.size fun k hk2 hm => by rw [List.mem_singleton] at hm; omega)⟩
end Go.Proofs.YtklngodlijiccaaDoor
