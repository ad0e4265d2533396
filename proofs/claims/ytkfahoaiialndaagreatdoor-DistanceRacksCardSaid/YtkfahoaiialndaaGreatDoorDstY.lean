/-
  The program's unions and losses, walked.
-/
import Derived.Test.YtkfahoaiialndaaGreatDoorDstO
import Derived.Test.YtkfahoaiialndaaGreatDoorDstC
namespace Go.Proofs.YtkfahoaiialndaaGreatDoor
open Go.RowKit Go.Shelf
set_option linter.unusedVariables false
set_option linter.unusedSimpArgs false
attribute [local go_sem] Oper.semAt_some

theorem Sl.heap {w w' : World} {B size n : Nat} {A : Option Addr} {xs : List Value} (h : Sl w B A size n xs) (hk : ∀ k, k < B → w'.heap[k]? = w.heap[k]?) : Sl w' B A size n xs := h.keep fun b o hb => World.cell?_of_block (a := ⟨b, o, none⟩) (hk b hb)
theorem PP.heap {W W' : World} {B : Nat} {A : Option Addr} {ps : List (List Nat)} (h : PP W B A ps) (hk : ∀ k, k < B → W'.heap[k]? = W.heap[k]?) : PP W' B A ps := by
  obtain ⟨vs, h1, h2⟩ := h
  exact ⟨vs, h1.heap hk, fun i hi => by obtain ⟨ad, c, h3, h4⟩ := h2 i hi; exact ⟨ad, c, h3, h4.heap hk⟩⟩
theorem Keeps.nil {T : Nat → Prop} {a b : World} (h : Keeps (TU T (.slice none 0 0)) a b) : Keeps T a b := h.wide fun k q => q.elim id fun e => (by cases e)
theorem unions_any (A : Option Addr) (n c : Nat) (s : Nat) (w : World) :
    Calls Tryz.prog 46 #[.slice A n c, .int .i64 (s : Int)] w fun e w' => e = .returned (.func (.func 68) #[] #[.pointer (some ⟨w.heap.size, 0, none⟩), .pointer (some ⟨w.heap.size + 1, 0, none⟩)]) ∧ w' = (w.alloc (.cells #[.slice A n c] 22)).alloc (.cells #[.int .i64 (s : Int)] 3) := by
  go_enter Tryz.func46, Tryz.ntmps46
  go_wp2_with fail
  go_ret
  exact ⟨by simp, rfl⟩
/-- What the unions' iterator reads. -/
def CU (B0 Bp Bs k : Nat) : Prop := k < B0 ∨ k = Bp ∨ k = Bs
theorem unions_iter (ps : List (List Nat)) (n : Nat) (hn : n ≤ 4) (B0 Bp Bs : Nat) (A : Option Addr) (c : Nat) (w0 : World) (hp : w0.cell? ⟨Bp, 0, none⟩ = some (.slice A ps.length c)) (hs : w0.cell? ⟨Bs, 0, none⟩ = some (.int .i64 (n : Int)))
    (hB : B0 ≤ w0.heap.size) (hPP : PP w0 B0 A ps) (hps : ∀ p ∈ ps, 0 < p.length ∧ p.length ≤ 1000) (hpl : ps.length ≤ 1000) (hpc : ps.length ≤ c) :
    IterR Tryz.prog 68 #[.pointer (some ⟨Bp, 0, none⟩), .pointer (some ⟨Bs, 0, none⟩)] (RS (Bs + 1)) (uni [] ps n) (CU B0 Bp Bs) w0 := by
  intro l T J Jx W hC hT hJ hJx hY h0
  have c1 : W.cell? ⟨Bp, 0, none⟩ = some (.slice A ps.length c) := (World.cell?_of_block (a := ⟨Bp, 0, none⟩) (hC Bp (Or.inr (Or.inl rfl))).2).trans hp
  have c2 : W.cell? ⟨Bs, 0, none⟩ = some (.int .i64 (n : Int)) := (World.cell?_of_block (a := ⟨Bs, 0, none⟩) (hC Bs (Or.inr (Or.inr rfl))).2).trans hs
  have hBW : B0 ≤ W.heap.size := Nat.le_of_not_lt fun h => by
    obtain ⟨h1, h2⟩ := hC (B0 - 1) (Or.inl (by omega))
    rw [Array.getElem?_eq_none (by omega), Array.getElem?_eq_getElem h1] at h2
    cases h2
  have hBsW : Bs + 1 ≤ W.heap.size := Nat.lt_of_not_le fun h => by
    obtain ⟨h1, h2⟩ := hC Bs (Or.inr (Or.inr rfl))
    rw [Array.getElem?_eq_none h, Array.getElem?_eq_getElem h1] at h2
    cases h2
  have HV := hideIt (visit_any l T J Jx (uni [] ps n) W B0 (fun k hk => ⟨Nat.le_of_not_lt fun h => (hT k hk).2 (Or.inl h), (hT k hk).1⟩) hBW hJ (fun pre y args W1 h1 h2 h3 h4 => hY pre y args W1 h1 h2 h3 (h4.low hBsW)) n hn ps [] [] [] (.slice none 0 0) A c W (by simp) (by simp; omega) hps hpl hpc (hPP.heap fun k hk => (hC k (Or.inl hk)).2) (Keeps.refl T W) h0 (World.ownsRow_nil _ _ _ _))
  clear hC hT hJ hJx hY h0 hp hs hPP hps hBW hBsW
  refine (callsIn_wide (n := 0)).2 ?_
  go_enter Tryz.func68, Tryz.ntmps68
  go_wp2_with (go_at_call 69; refine HV.out.mono ?_; rintro e w7 (⟨rfl, hk7, hj7, ho7⟩ | ⟨rfl, hk7, hx7⟩))
  · refine bodyPost_end (results_none rfl _ _ _) rfl ?_
    exact ⟨⟨_, rfl⟩, hk7.nil, .inl hj7⟩
  · refine bodyPost_end (results_none rfl _ _ _) rfl ?_
    exact ⟨⟨_, rfl⟩, hk7, .inr hx7⟩
/-- The marks of loops over functions among the deferred calls. -/
def mkD (Ds : List Nat) : List Deferred := Ds.map fun D => { target := .collected D, args := #[] }
def Marks (Ds : List Nat) (w : World) : Prop := Ds.Nodup ∧ ∀ D ∈ Ds, w.heap[D]? = some (.deferred (some []))
theorem leaves_marks {P : Program} {F : Fence} {n : Nat} {fn : Func} {tmps : Array Value} {R : Ending → World → Prop} : ∀ (Ds : List Nat) (w : World), Marks Ds w →
    (∀ w', Keeps (fun k => k ∈ Ds) w w' → LeavesInM F n P fn tmps R [] .returning w') → LeavesInM F n P fn tmps R (mkD Ds) .returning w
  | [], w, _, h => h w (Keeps.refl _ w)
  | D :: Ds, w, hm, h => by
    have hD := hm.2 D List.mem_cons_self
    have hnd := List.nodup_cons.1 hm.1
    refine ⟨by simp, .inl ⟨_, _, rfl, run_takeDeferred hD, ?_⟩⟩
    refine leaves_marks Ds _ ⟨hnd.2, fun E hE => ?_⟩ fun w' hk => h w' ?_
    · rw [World.putObj_heap_other (fun e => hnd.1 (by rw [← e]; exact hE))]
      exact hm.2 E (List.mem_cons_of_mem _ hE)
    · exact ((Keeps.refl (fun k => k ∈ D :: Ds) w).putObj List.mem_cons_self _).trans (hk.wide fun k hk => List.mem_cons_of_mem _ hk)
theorem Marks.keep {Ds : List Nat} {w w' : World} (h : Marks Ds w) (hk : ∀ (k : Nat) (o : Option (List Deferred)), w.heap[k]? = some (Obj.deferred o) → w'.heap[k]? = w.heap[k]?) : Marks Ds w' := ⟨h.1, fun D hD => (hk D _ (h.2 D hD)).trans (h.2 D hD)⟩
theorem Blk.marks {Ds : List Nat} {w w' : World} {g : Nat} {t : TypeId} {cs : List Value} (h : Blk w g t cs) (hm : Marks Ds w) (hk : Keeps (fun k => k ∈ Ds) w w') : Blk w' g t cs :=
  (hk.block g h.lt fun hg => by have := h.symm.trans (hm.2 g hg); cases this).trans h
theorem Sl.marks {Ds : List Nat} {w w' : World} {A : Option Addr} {n : Nat} {xs : List Value} (h : Sl w w.heap.size A 1 n xs) (hm : Marks Ds w) (hk : Keeps (fun k => k ∈ Ds) w w') : Sl w' w'.heap.size A 1 n xs := by
  refine ⟨h.1, fun h0 => ?_⟩
  obtain ⟨b, o, hA, hb, hc⟩ := h.2 h0
  have hbl : ¬ b ∈ Ds := fun e => by
    have h1 := hc 0 xs[0] (by simp [h0])
    have h2 := hm.2 b e
    simp [World.cell?, h2] at h1
  exact ⟨b, o, hA, Nat.lt_of_lt_of_le hb hk.size, fun j u hj => by rw [World.cell?_of_block (w := w) (a := ⟨b, o + j, none⟩) (hk.block b hb hbl)]; exact hc j u hj⟩
theorem results_cell2 {fn : Func} {p6 p7 : Tmp} (h : fn.results = #[.cell p6 3, .cell p7 26]) (tmps : Array Value) (w : World) (q6 q7 : Nat) (h6 : tmps.getD p6 undef = .pointer (some ⟨q6, 0, none⟩)) (h7 : tmps.getD p7 undef = .pointer (some ⟨q7, 0, none⟩))
    (a : Int) (hc6 : w.cell? ⟨q6, 0, none⟩ = some (.int .i64 a)) (A : Option Addr) (n c : Nat) (hc7 : w.cell? ⟨q7, 0, none⟩ = some (.slice A n c)) : (results fn tmps).run Tryz.prog w = .ok (.tuple #[.int .i64 a, .slice A n c]) w := by
  have hp6 : tmps[p6]?.getD undef = .pointer (some ⟨q6, 0, none⟩) := by simpa using h6
  have hp7 : tmps[p7]?.getD undef = .pointer (some ⟨q7, 0, none⟩) := by simpa using h7
  simp only [results, h]
  simp [hp6, hp7, Sem.run_bind, go_sem, hc6, hc7]
/-- What losses keeps between two sizes. -/
structure LI (x : Cd) (A : Option Addr) (c : Nat) (hd : Value) (hs : List Bool) (ps : List (List Nat)) (w : World) (q4 q6 q7 : Nat) (s : Nat) (Ds : List Nat) (W : World) : Prop where
  code : Blk W w.heap.size 24 (x.cs A c)
  have_ : Blk W q4 25 [hd]
  r6 : Blk W q6 3 [.int .i64 0]
  r7 : Blk W q7 26 [.slice none 0 0]
  low : Below w.heap.size w W
  marks : Marks Ds W
  mlo : ∀ E ∈ Ds, w.heap.size ≤ E
  none_ : ∀ j, j < s → (uni [] ps (0 + j)).find? (fun u => !dcX x (wo hs u)) = none
theorem LI.keep {x : Cd} {A : Option Addr} {c : Nat} {hd : Value} {hs : List Bool} {ps : List (List Nat)} {w : World} {q4 q6 q7 s : Nat} {Ds : List Nat} {W W' : World} (h : LI x A c hd hs ps w q4 q6 q7 s Ds W) (hb : Below W.heap.size W W') : LI x A c hd hs ps w q4 q6 q7 s Ds W' :=
  ⟨h.code.kept hb h.code.lt, h.have_.kept hb h.have_.lt, h.r6.kept hb h.r6.lt, h.r7.kept hb h.r7.lt, h.low.trans (hb.mono h.low.size), h.marks.keep fun k o hk => hb.block k (Array.getElem?_eq_some_iff.1 hk).1, h.mlo, h.none_⟩
theorem Sl.stays {l : Nat} {W W' : World} {r : Loop} {A : Option Addr} {n : Nat} {xs : List Value} (h : Sl W W.heap.size A 1 n xs) (hl : W.heap[l]? = some (.loop r)) (hk : Stays l W W') : Sl W' W'.heap.size A 1 n xs := by
  refine ⟨h.1, fun h0 => ?_⟩
  obtain ⟨b, o, hA, hb, hc⟩ := h.2 h0
  have hbl : b ≠ l := fun e => by
    have := hc 0 xs[0] (by simp [h0])
    subst e
    simp [World.cell?, hl] at this
  exact ⟨b, o, hA, Nat.lt_of_lt_of_le hb hk.size, fun j u hj => by rw [World.cell?_of_block (w := W) (a := ⟨b, o + j, none⟩) (hk.block b hb hbl)]; exact hc j u hj⟩
theorem RS.putObj (B : Nat) (y : List Nat) (args : Array Value) (W : World) (l : Nat) (r : Loop) (o : Obj) (h : RS B y args W) (hl : W.heap[l]? = some (.loop r)) : RS B y args (W.putObj l o) := by
  obtain ⟨A, c, e, hs, hb⟩ := h
  exact ⟨A, c, e, hs.stays hl (Stays.putObj W l o), hb⟩
theorem flat_len : ∀ (S : List (List Nat)), (∀ q ∈ S, q.length ≤ 1000) → S.flatten.length ≤ 1000 * S.length
  | [], _ => Nat.le_refl _
  | q :: S, h => by
    have h1 := h q List.mem_cons_self
    have h2 := flat_len S fun r hr => h r (List.mem_cons_of_mem _ hr)
    rw [List.flatten_cons, List.length_append, List.length_cons]
    omega
theorem isub9 (T : TypeId) (s : Nat) (h : s ≤ 1000) : binOp .sub T (.int .i64 (s : Int)) (.int .i64 1) = pure (.int .i64 ((s : Int) - 1)) := by
  rw [binOp_sub]
  simp only [Op.intArith]
  rw [IntWalk.i64_in _ (by omega)]
/-- What a round that ends the loop leaves. -/
def LX (dc : List Bool → Bool) (hs : List Bool) (q6 q7 s : Nat) (cd : Code) (pre : List (List Nat)) (W : World) : Prop :=
  cd = .ret ∧ ∃ (pre0 : List (List Nat)) (u : List Nat) (A : Option Addr) (c : Nat), pre = pre0 ++ [u] ∧ (∀ v ∈ pre0, dc (wo hs v) = true) ∧ dc (wo hs u) = false ∧ Blk W q6 3 [.int .i64 ((s : Int) - 1)] ∧ Blk W q7 26 [.slice A u.length c] ∧ Sl W W.heap.size A 1 u.length ((nI u).map iv)
theorem LX.stays {dc : List Bool → Bool} {hs : List Bool} {q6 q7 s l : Nat} {cd : Code} {pre : List (List Nat)} {W W' : World} {r : Loop} (h : LX dc hs q6 q7 s cd pre W) (hl : W.heap[l]? = some (.loop r)) (hk : Stays l W W') (h6 : q6 ≠ l) (h7 : q7 ≠ l) : LX dc hs q6 q7 s cd pre W' := by
  obtain ⟨e, pre0, u, A, c, h1, h2, h3, h4, h5, h6'⟩ := h
  exact ⟨e, pre0, u, A, c, h1, h2, h3, (hk.block q6 h4.lt h6).trans h4, (hk.block q7 h5.lt h7).trans h5, h6'.stays hl hk⟩
/-- The frame of losses. -/
abbrev lact (x : Cd) (A : Option Addr) (c : Nat) (D : Option Addr) (N cd : Nat) (AP : Option Addr) (np cp p q4 q6 q7 : Nat) (s : Nat) (u8 u9 u11 u12 u13 u14 u15 u16 u17 u18 u19 u20 u21 u22 u23 u24 u25 u26 : Value) (Ds : List Nat) : Act :=
  { tmps := #[x.v A c, .slice D N cd, .slice AP np cp, .pointer (some ⟨p, 0, none⟩), .pointer (some ⟨q4, 0, none⟩), undef, .pointer (some ⟨q6, 0, none⟩), .pointer (some ⟨q7, 0, none⟩), u8, u9, .int .i64 (s : Int), u11, u12, u13, u14, u15, u16, u17, u18, u19, u20, u21, u22, u23, u24, u25, u26], defers := mkD Ds }
set_option maxRecDepth 100000 in
set_option maxHeartbeats 2000000 in
theorem losses_any (x : Cd) (A : Option Addr) (c : Nat) (w : World) (hT : Tabs w) (hx : CIn w x A) {m n : Nat} (hvc : VC x m n) (hs : List Bool) (hl : hs.length = n + x.par.length) (D : Option Addr) (cd : Nat) (hD : Sl w w.heap.size D 1 hs.length (hs.map bl))
    (ps : List (List Nat)) (AP : Option Addr) (cp : Nat) (hPP : PP w w.heap.size AP ps) (hps : ∀ p ∈ ps, 0 < p.length ∧ p.length ≤ 1000) (hpl : ps.length ≤ 1000) (hpc : ps.length ≤ cp) (hin : ∀ p ∈ ps, ∀ i ∈ p, i < hs.length) :
    Calls Tryz.prog 32 #[x.v A c, .slice D hs.length cd, .slice AP ps.length cp] w fun e w' => ∃ AF cF, e = .returned (.tuple #[.int .i64 (losR (dcX x) hs ps 5 0).1, .slice AF (losR (dcX x) hs ps 5 0).2.length cF]) ∧ Sl w' w'.heap.size AF 1 (losR (dcX x) hs ps 5 0).2.length ((nI (losR (dcX x) hs ps 5 0).2).map iv) ∧ Below w.heap.size w w' := by
  obtain ⟨R, hR⟩ : ∃ R, R = losR (dcX x) hs ps 5 0 := ⟨_, rfl⟩
  have HR := hideIt hR
  rw [← hR]
  obtain ⟨N, hN⟩ : ∃ N, N = hs.length := ⟨_, rfl⟩
  have HN := hideIt hN
  rw [← hN] at hD ⊢
  have HT := hideIt hT
  have HX := hideIt hx
  have HVC := hideIt hvc
  have HL := hideIt hl
  have HD := hideIt hD
  have HPP := hideIt hPP
  have HPS := hideIt hps
  have HIN := hideIt hin
  clear hR hN hT hx hvc hl hD hPP hps hin
  refine (callsIn_wide (n := 0)).1 (callsIn_of_wp_marks (n := 0) Tryz.func32 rfl trivial ((wpIn_wide (n := 0)).2 ?_))
  simp only [Tryz.ntmps32, List.size_toArray, List.length_cons, List.length_nil, Nat.reduceAdd, Nat.reduceSub, Array.replicate_succ, Array.replicate_zero, List.push_toArray, List.append_toArray, List.nil_append, List.cons_append]
  go_wp2_with fail
  obtain ⟨q4, hq4⟩ : ∃ q, q = w.heap.size + 1 := ⟨_, rfl⟩
  obtain ⟨q6, hq6⟩ : ∃ q, q = w.heap.size + 1 + 1 := ⟨_, rfl⟩
  obtain ⟨q7, hq7⟩ : ∃ q, q = w.heap.size + 1 + 1 + 1 := ⟨_, rfl⟩
  obtain ⟨w1, hw1⟩ : ∃ V, V = w.alloc (.cells (x.cs A c).toArray 24) := ⟨_, rfl⟩
  obtain ⟨w2, hw2⟩ : ∃ V, V = w1.alloc (.cells #[.slice D N cd] 25) := ⟨_, rfl⟩
  obtain ⟨w3, hw3⟩ : ∃ V, V = w2.alloc (.cells #[.int .i64 0] 3) := ⟨_, rfl⟩
  obtain ⟨w4, hw4⟩ : ∃ V, V = w3.alloc (.cells #[.slice none 0 0] 26) := ⟨_, rfl⟩
  change Code.wp _ _ _ _ (((w.alloc (.cells (x.cs A c).toArray 24)).alloc (.cells #[.slice D N cd] 25)).alloc (.cells #[.int .i64 0] 3) |>.alloc (.cells #[.slice none 0 0] 26))
  rw [← hw1, ← hw2, ← hw3, ← hw4, ← hq7, ← hq6, ← hq4]
  have s1 : w1.heap.size = q4 := by rw [hw1, hq4]; simp
  have s2 : w2.heap.size = q6 := by rw [hw2, hq6, World.size_alloc, s1, hq4]
  have s3 : w3.heap.size = q7 := by rw [hw3, hq7, World.size_alloc, s2, hq6]
  have b1 : Blk w4 w.heap.size 24 (x.cs A c) := by rw [hw4, hw3, hw2, hw1]; exact ((((Blk.new w 24 (x.cs A c)).alloc _).alloc _).alloc _)
  have b2 : Blk w4 q4 25 [.slice D N cd] := by rw [hw4, hw3, ← s1, hw2]; exact ((Blk.new w1 25 [.slice D N cd]).alloc _).alloc _
  have b3 : Blk w4 q6 3 [.int .i64 0] := by rw [hw4, ← s2, hw3]; exact (Blk.new w2 3 [.int .i64 0]).alloc _
  have b4 : Blk w4 q7 26 [.slice none 0 0] := by rw [← s3, hw4]; exact Blk.new w3 26 [.slice none 0 0]
  have bl0 : Below w.heap.size w w4 := by
    rw [hw4, hw3, hw2, hw1]
    exact ((((Below.refl _ w).alloc (Nat.le_refl _) _).alloc (by simp) _).alloc (by simp; omega) _).alloc (by simp; omega) _
  have HLI := hideIt (show LI x A c (.slice D N cd) hs ps w q4 q6 q7 0 [] w4 from ⟨b1, b2, b3, b4, bl0, ⟨List.nodup_nil, fun D hD => (by cases hD)⟩, fun E hE => (by cases hE), fun j hj => absurd hj (Nat.not_lt_zero j)⟩)
  have HQ := hideIt (And.intro hq4 (And.intro hq6 hq7))
  clear b1 b2 b3 b4 bl0 s1 s2 s3 hw1 hw2 hw3 hw4 hq4 hq6 hq7
  obtain ⟨p, hp⟩ : ∃ p, p = w.heap.size := ⟨_, rfl⟩
  rw [← hp]
  have HP := hideIt hp
  clear hp
  refine wp_loop_ghost_k (fun gk a wr => ∃ (s : Nat) (Ds : List Nat) (u8 u9 u11 u12 u13 u14 u15 u16 u17 u18 u19 u20 u21 u22 u23 u24 u25 u26 : Value), s + gk = 5 ∧ a = lact x A c D N cd AP ps.length cp p q4 q6 q7 s u8 u9 u11 u12 u13 u14 u15 u16 u17 u18 u19 u20 u21 u22 u23 u24 u25 u26 Ds ∧ LI x A c (.slice D N cd) hs ps w q4 q6 q7 s Ds wr) 5 ?_ ?_
  · exact ⟨0, [], undef, undef, undef, undef, undef, undef, undef, undef, undef, undef, undef, undef, undef, undef, undef, undef, undef, undef, rfl, rfl, HLI.out⟩
  rintro gk _ wr ⟨s, Ds, u8, u9, u11, u12, u13, u14, u15, u16, u17, u18, u19, u20, u21, u22, u23, u24, u25, u26, hs5, rfl, hli⟩ JJ KK hJJ hKK
  have HLS := hideIt hli
  have HJJ := hideIt hJJ
  have HKK := hideIt hKK
  clear hli hJJ hKK
  obtain ⟨w5, rfl⟩ : ∃ x, x = wr := ⟨wr, rfl⟩
  by_cases hlt : s < 5
  · have hsi : (s : Int) < 5 := by omega
    unfold lact
    go_wp2_with (go_at_call 46; refine (unions_any _ _ _ _ _).mono ?_; rintro e w9 ⟨rfl, hw9⟩)
    obtain ⟨e8, he8⟩ : ∃ q, q = w5.heap.size := ⟨_, rfl⟩
    obtain ⟨eB, heB⟩ : ∃ q, q = w5.heap.size + 1 := ⟨_, rfl⟩
    obtain ⟨eS, heS⟩ : ∃ q, q = w5.heap.size + 1 + 1 := ⟨_, rfl⟩
    obtain ⟨w6, hw6⟩ : ∃ V, V = w5.alloc (.cells #[.int .i64 (s : Int)] 3) := ⟨_, rfl⟩
    obtain ⟨w7, hw7⟩ : ∃ V, V = w6.alloc (.cells #[.slice AP ps.length cp] 22) := ⟨_, rfl⟩
    obtain ⟨w8, hw8⟩ : ∃ V, V = w7.alloc (.cells #[.int .i64 (s : Int)] 3) := ⟨_, rfl⟩
    rw [← hw6, ← hw7, ← hw8, ← heS, ← heB, ← he8]
    have s6 : w6.heap.size = eB := by rw [hw6, heB]; simp
    have s7 : w7.heap.size = eS := by rw [hw7, heS, World.size_alloc, s6, heB]
    have s8 : w8.heap.size = e8 + 3 := by rw [hw8, World.size_alloc, s7, heS, he8]
    have b8 : Blk w8 e8 3 [.int .i64 (s : Int)] := by rw [hw8, hw7, hw6, he8]; exact ((Blk.new w5 3 [.int .i64 (s : Int)]).alloc _).alloc _
    have bB : Blk w8 eB 22 [.slice AP ps.length cp] := by rw [hw8, ← s6, hw7]; exact (Blk.new w6 22 [.slice AP ps.length cp]).alloc _
    have bS : Blk w8 eS 3 [.int .i64 (s : Int)] := by rw [← s7, hw8]; exact Blk.new w7 3 [.int .i64 (s : Int)]
    have hb8 : Below w5.heap.size w5 w8 := by
      rw [hw8, hw7, hw6]
      exact (((Below.refl _ w5).alloc (Nat.le_refl _) _).alloc (by simp) _).alloc (by simp; omega) _
    have HL8 := hideIt (HLS.out.keep hb8)
    have HIT := hideIt (unions_iter ps s (by omega) w.heap.size eB eS AP cp w8 (bB.cell 0) (bS.cell 0) HL8.out.low.size (HPP.out.below HL8.out.low) HPS.out hpl hpc)
    have HB8 := hideIt b8
    have hws5 := HLS.out.low.size
    have HSZ := hideIt (show e8 = w5.heap.size ∧ eB = e8 + 1 ∧ eS = e8 + 2 ∧ w8.heap.size = e8 + 3 ∧ w.heap.size ≤ e8 ∧ q6 < e8 ∧ q7 < e8 ∧ w.heap.size < q6 ∧ w.heap.size < q7 ∧ q6 ≠ q7 ∧ q4 ≠ q6 ∧ q4 ≠ q7 ∧ q4 < e8 ∧ p < q6 ∧ p < q7 ∧ p < e8 by
      have h1 := HQ.out
      have h2 := HLS.out.r6.lt
      have h3 := HLS.out.r7.lt
      have h4 := HLS.out.have_.lt
      have h5 := HP.out
      have h6 := HLS.out.code.lt
      omega)
    clear hw6 hw7 hw8 heS heB he8 s6 s7 s8 b8 bB bS hb8 hws5 hw9 HLS
    refine range_sl (gf := 68) (lb := #[.pointer (some ⟨eB, 0, none⟩), .pointer (some ⟨eS, 0, none⟩)]) rfl (enters_of Tryz.func68 (by kernel_rfl) rfl) HIT.out
      (fun k hk => ⟨by have := HSZ.out; rcases hk with hk | rfl | rfl <;> omega, rfl⟩) (fun y args W h => by obtain ⟨A2, c2, rfl, _⟩ := h; rfl) (RS.putObj _) (fun k => k = q6 ∨ k = q7)
      (fun k hk => by have := HSZ.out; exact ⟨by omega, fun q => by rcases q with q | q | q <;> omega⟩)
      (fun pre W => (∀ u ∈ pre, dcX x (wo hs u) = true) ∧ Blk W q6 3 [.int .i64 0] ∧ Blk W q7 26 [.slice none 0 0]) (LX (dcX x) hs q6 q7 s)
      (fun pre V V' h hb => ⟨h.1, h.2.1.kept hb (by have := HSZ.out; omega), h.2.2.kept hb (by have := HSZ.out; omega)⟩)
      (fun cd pre V V' r h hl hk => h.stays hl hk (by have := HSZ.out; omega) (by have := HSZ.out; omega)) ⟨fun u hu => (by cases hu), HL8.out.r6, HL8.out.r7⟩
      (fun args => { tmps := #[x.v A c, .slice D N cd, .slice AP ps.length cp, .pointer (some ⟨p, 0, none⟩), .pointer (some ⟨q4, 0, none⟩), undef, .pointer (some ⟨q6, 0, none⟩), .pointer (some ⟨q7, 0, none⟩), .pointer (some ⟨e8, 0, none⟩), args.getD 0 undef, .int .i64 (s : Int), .bool true, .int .i64 (s : Int), .slice AP ps.length cp, .int .i64 (s : Int), .func (.func 68) #[] #[.pointer (some ⟨eB, 0, none⟩), .pointer (some ⟨eS, 0, none⟩)], args.getD 0 undef, u17, u18, u19, u20, u21, u22, u23, u24, u25, u26], defers := [] })
      ?assign ?body ?done ?stop
    case assign =>
      rintro l' y args W K ⟨A2, c2, rfl, _⟩ hK
      have HK2 := hideIt hK
      clear hK
      gi_wp2
      exact HK2.out
    case body =>
      rintro l' pre u args W hpre hKW ⟨hpr, h6, h7⟩ ⟨A2, c2, rfl, hsl, hab⟩
      have HAB := hideIt hab
      have hq := HSZ.out
      have hmem : u ∈ uni [] ps s := hpre.subset (by simp)
      obtain ⟨S, hS1, hS2, hS3⟩ := (uni_spec ps [] s u).1 hmem
      rw [List.nil_append] at hS3
      have hul : u.length ≤ 1000 * s := by
        rw [hS3, ← hS2]
        exact flat_len S fun q hq => (HPS.out q (hS1.subset hq)).2
      have hui : ∀ i ∈ u, i < hs.length := fun i hi => by
        rw [hS3] at hi
        obtain ⟨q, hq, h⟩ := List.mem_flatten.1 hi
        exact HIN.out q (hS1.subset hq) i h
      have hN0 : 0 < hs.length := by have := HVC.out.pos; have := HL.out; omega
      have hN32 : hs.length ≤ 32 := by have := HVC.out.wid; have := HL.out; omega
      have HPR := hideIt hpr
      have H6 := hideIt h6
      have H7 := hideIt h7
      have HKW := hideIt hKW
      have HSL := hideIt hsl
      have hbW : Below w.heap.size w W := HL8.out.low.trans (hKW.below HL8.out.low.size fun k hk h => by rcases h with h | h <;> omega)
      have HBW := hideIt hbW
      have HBC := hideIt (show Blk W p 24 (x.cs A c) by rw [HP.out]; exact (hKW.block w.heap.size HL8.out.code.lt (by omega)).trans HL8.out.code)
      have HHV := hideIt (show Blk W q4 25 [.slice D N cd] from (hKW.block q4 HL8.out.have_.lt (by omega)).trans HL8.out.have_)
      have HE8 := hideIt (show Blk W e8 3 [.int .i64 (s : Int)] from (hKW.block e8 HB8.out.lt (by omega)).trans HB8.out)
      have HWO := hideIt (fun (W2 : World) (h : Below W.heap.size W W2) => show Calls Tryz.prog 48 #[.slice D N cd, .slice A2 u.length c2] W2 (fun e w' => ∃ A c, e = .returned (.slice A N c) ∧ w'.ownsRow W2.heap.size 4 1 (.slice A N c) N ((wo hs u).map bl) ∧ Below W2.heap.size W2 w') by
        have h2 : Below w.heap.size w W2 := HBW.out.trans (h.mono HBW.out.size)
        have := pwithout_any hs u (by omega) hN0 (by omega) hui D cd A2 c2 W2 (by have := (HD.out.below h2).wide h2.size; rwa [HN.out] at this) ((HSL.out.below h).wide h.size)
        rw [← HN.out] at this
        exact this)
      have HSU := hideIt (fun (W2 : World) (h : Below W.heap.size W W2) (A3 : Option Addr) (c3 : Nat) (h3 : N ≤ c3) (hs3 : Sl W2 W2.heap.size A3 1 N ((wo hs u).map bl)) => show Calls Tryz.prog 47 #[x.v A c, .slice A3 N c3] W2 (fun e w' => e = .returned (.bool (dcX x (wo hs u))) ∧ Below W2.heap.size W2 w') by
        have h2 : Below w.heap.size w W2 := HBW.out.trans (h.mono HBW.out.size)
        have := sufficient_any x A c W2 (HT.out.keep h2) (HX.out.keep h2) HVC.out (wo hs u) (by rw [wo_len]; exact HL.out) A3 c3 (by rw [wo_len, ← HN.out]; exact h3) (by rw [wo_len, ← HN.out]; exact hs3)
        rw [wo_len, ← HN.out] at this
        exact this)
      have HKS := hideIt (fun (W2 : World) (b : Array Bool) (h : Below W.heap.size W W2) => show Hooks [(4, fun W => Blk W p 24 (x.cs A c)), (3, fun W => W.cell? ⟨q4, 0, none⟩ = some (.slice D N cd))] b W2 from
        Hooks.add (HBC.out.kept h HBC.out.lt) (Hooks.add ((HHV.out.kept h HHV.out.lt).cell 0) (Hooks.nil b W2)))
      have GD := hideIt (Below.refl W.heap.size W).drew
      have hbb : dcX x (wo hs u) = true ∨ dcX x (wo hs u) = false := by cases dcX x (wo hs u) <;> simp
      have HNT := hideIt (show ∀ k : Nat, (k = q6 ∨ k = q7) → k < w8.heap.size from fun k hk => by omega)
      clear hpre hKW hpr h6 h7 hsl hab hmem hS1 hS2 hS3 hul hui hN0 hN32 hbW S hq
      gi_wp2
      refine loads_in 6 [(4, fun W => Blk W p 24 (x.cs A c)), (3, fun W => W.cell? ⟨q4, 0, none⟩ = some (.slice D N cd))] rfl (by kernel_rfl) (by kernel_rfl) (fun hh => by obtain ⟨_, _, hh⟩ := hh; exact hh) ?_
      try simp only [Act.put]
      try simp only [List.setIfInBounds_toArray]
      try simp only [List.set_cons_succ]
      try simp only [List.set_cons_zero]
      refine wpAnyL_take (oi := ⟨some 17, _, _, _, _, _⟩) 0 4 (x.v A c) _ rfl (by kernel_rfl) (by kernel_rfl) (by kernel_rfl) (by kernel_rfl) (by kernel_rfl) (by kernel_rfl) (.head _) (fun _ _ _ h => h) (by kernel_rfl) (fun W' hW' => exec_load_blk (cs := x.cs A c) rfl rfl hW' _ Tryz.underlying24 rfl isz5) (HKS.out _ _ GD.out) ?_
      try simp only [Act.put]
      try simp only [List.setIfInBounds_toArray]
      try simp only [List.set_cons_succ]
      try simp only [List.set_cons_zero]
      refine wpAnyL_take (oi := ⟨some 18, _, _, _, _, _⟩) 1 3 (.slice D N cd) _ rfl (by kernel_rfl) (by kernel_rfl) (by kernel_rfl) (by kernel_rfl) (by kernel_rfl) (by kernel_rfl) (.tail _ (.head _)) (fun _ _ _ h => h) (by kernel_rfl) (fun W' hW' => by (try dsimp only at hW'); go_simp) (HKS.out _ _ GD.out) ?_
      try simp only [Act.put]
      try simp only [List.setIfInBounds_toArray]
      try simp only [List.set_cons_succ]
      try simp only [List.set_cons_zero]
      refine wpAnyL_move (oi := ⟨some 19, _, _, _, _, _⟩) 2 ?_ rfl (by kernel_rfl) (by kernel_rfl) (by kernel_rfl) (by kernel_rfl) (fun _ _ _ h => h) (by kernel_rfl) ?_ ((HKS.out _ _ GD.out)) ?_
      rotate_left
      · intro W'; go_simp; first | done | with_reducible rfl
      try simp only [Act.put]
      try simp only [List.setIfInBounds_toArray]
      try simp only [List.set_cons_succ]
      try simp only [List.set_cons_zero]
      refine wpAnyL_one (o := ⟨some 20, _, _, _, _, _⟩) 3 (by kernel_rfl) rfl (fun K hK => ?_)
      go_wp2_with (go_at_call 48; refine (HWO.out _ GD.out).mono ?_; rintro e wa ⟨A3, c3, rfl, ho3, hb3⟩)
      have GD1 := hideIt (GD.out.trans (hb3.mono GD.out.size))
      have hc3 : N ≤ c3 := by obtain ⟨A9, c9, h9, h10, _⟩ := own_form ho3; injection h9 with _ _ h9; omega
      have HSU3 := hideIt (HSU.out wa GD1.out A3 c3 hc3 (Sl.of_own ho3))
      refine hK _ _ (HKS.out _ _ GD1.out) ?_
      clear hK K ho3 hb3 hc3 HSU HWO
      try simp only [Act.put]
      try simp only [List.setIfInBounds_toArray]
      try simp only [List.set_cons_succ]
      try simp only [List.set_cons_zero]
      refine wpAnyL_one (o := ⟨some 21, _, _, _, _, _⟩) 4 (by kernel_rfl) rfl (fun K hK => ?_)
      go_wp2_with (go_at_call 47; refine HSU3.out.mono ?_; rintro e wb ⟨rfl, hb4⟩)
      have GD2 := hideIt (GD1.out.trans (hb4.mono GD1.out.size))
      refine hK _ _ (HKS.out _ _ GD2.out) ?_
      clear hK K hb4 HSU3 HKS
      try simp only [Act.put]
      try simp only [List.setIfInBounds_toArray]
      try simp only [List.set_cons_succ]
      try simp only [List.set_cons_zero]
      refine loads_tail 5 (by kernel_rfl) (by kernel_rfl) (by kernel_rfl) (by kernel_rfl) ?_
      simp only [List.drop_succ_cons, List.drop_zero]
      rcases hbb with hbb | hbb
      · have HV := hideIt hbb
        rw [hbb]
        clear hbb
        go_wp2_with fail
        gi_wp2
        exact ⟨Keeps.of_below GD2.out, fun v hv => (List.mem_append.1 hv).elim (HPR.out v) (fun h => by rw [List.mem_singleton] at h; rw [h]; exact HV.out), H6.out.kept GD2.out H6.out.lt, H7.out.kept GD2.out H7.out.lt⟩
      · have HV := hideIt hbb
        rw [hbb]
        clear hbb
        have HB6 := hideIt (H6.out.kept GD2.out H6.out.lt)
        have HB7 := hideIt (H7.out.kept GD2.out H7.out.lt)
        have e1 : wb.cell? ⟨e8, 0, none⟩ = some (.int .i64 (s : Int)) := (HE8.out.kept GD2.out HE8.out.lt).cell 0
        have e6 : wb.cell? ⟨q6, 0, none⟩ = some (.int .i64 0) := HB6.out.cell 0
        have f6 := HB6.out.free 0
        have hsub := isub9 3 s (by omega)
        have hne67 : q7 ≠ q6 := by have := HSZ.out; omega
        have HB72 := hideIt (show Blk (wb.setCell ⟨q6, 0, none⟩ (.int .i64 ((s : Int) - 1))) q7 26 [.slice none 0 0] from HB7.out.store_other hne67)
        have e7 : (wb.setCell ⟨q6, 0, none⟩ (.int .i64 ((s : Int) - 1))).cell? ⟨q7, 0, none⟩ = some (.slice none 0 0) := HB72.out.cell 0
        have f7 := HB72.out.free 0
        have HF6 := hideIt ((HB6.out.store 0 (.int .i64 ((s : Int) - 1))).store_other (k := q7) (i := 0) (u := .slice A2 u.length c2) hne67.symm)
        have HF7 := hideIt (HB72.out.store 0 (.slice A2 u.length c2))
        clear hne67
        go_wp2_with fail
        gi_wp2
        refine ⟨((Keeps.of_below GD2.out).setCell (Or.inl rfl) _).setCell (Or.inr rfl) _, rfl, pre, u, A2, c2, rfl, HPR.out, HV.out, HF6.out, HF7.out, ?_⟩
        have h1 := (HSL.out.below GD2.out).wide GD2.out.size
        refine ⟨h1.1, fun h0 => ?_⟩
        obtain ⟨b, o', hA, hb, hc⟩ := h1.2 h0
        have hbk := HAB.out ⟨b, o', none⟩ hA
        have hq := HSZ.out
        change eS + 1 ≤ b at hbk
        refine ⟨b, o', hA, by simp [World.setCell]; exact hb, fun j y hj => ?_⟩
        rw [World.cell?_of_block (w := wb) (a := ⟨b, o' + j, none⟩) ((heap_setCell_other _ ⟨q7, 0, none⟩ b _ (by show b ≠ q7; omega)).trans (heap_setCell_other _ ⟨q6, 0, none⟩ b _ (by show b ≠ q6; omega)))]
        exact hc j y hj
    case done =>
      intro D2 W hD2 hKW hI hDf
      obtain ⟨hpr, h6, h7⟩ := hI
      have hq := HSZ.out
      have hli : LI x A c (.slice D N cd) hs ps w q4 q6 q7 (s + 1) (D2 :: Ds) W := by
        refine ⟨(hKW.block w.heap.size HL8.out.code.lt (by have := HP.out; omega)).trans HL8.out.code, (hKW.block q4 HL8.out.have_.lt (by omega)).trans HL8.out.have_, h6, h7, HL8.out.low.trans (hKW.below HL8.out.low.size fun k hk h => by rcases h with h | h <;> omega), ⟨List.nodup_cons.2 ⟨fun h => ?_, HL8.out.marks.1⟩, fun E hE => ?_⟩, fun E hE => (List.mem_cons.1 hE).elim (fun e => by omega) (HL8.out.mlo E), fun j hj => ?_⟩
        · have := (Array.getElem?_eq_some_iff.1 (HL8.out.marks.2 D2 h)).1
          omega
        · rcases List.mem_cons.1 hE with rfl | hE
          · exact hDf
          · have hm := HL8.out.marks.2 E hE
            refine (hKW.block E (Array.getElem?_eq_some_iff.1 hm).1 fun h => ?_).trans hm
            rcases h with rfl | rfl
            · have := HL8.out.r6.symm.trans hm; cases this
            · have := HL8.out.r7.symm.trans hm; cases this
        · by_cases e : j = s
          · subst e
            rw [Nat.zero_add, List.find?_eq_none]
            intro u hu h
            rw [hpr u hu] at h
            cases h
          · exact HL8.out.none_ j (by omega)
      have HLN := hideIt hli
      have hinc := inc_c 3 s (by omega)
      have HHD := hideIt (fun a' (h : JJ (gk - 1) a' W) => HKK.out a' W (Handed.intro (gk - 1) (by omega) h))
      clear hD2 hKW hpr h6 h7 hDf hq hli
      go_wp2_with fail
      refine HHD.out _ (HJJ.out _ _ _ ⟨s + 1, D2 :: Ds, .pointer (some ⟨e8, 0, none⟩), u9, .bool true, .int .i64 (s : Int), .slice AP ps.length cp, .int .i64 (s : Int), .func (.func 68) #[] #[.pointer (some ⟨eB, 0, none⟩), .pointer (some ⟨eS, 0, none⟩)], u16, u17, u18, u19, u20, u21, u22, u23, u24, u25, .int .i64 ((s : Int) + 1), by omega, ?_, HLN.out⟩)
      unfold lact mkD
      rw [show ((s + 1 : Nat) : Int) = (s : Int) + 1 from rfl]
      rfl
    case stop =>
      intro D2 cd2 pre W hD2 hKW hpre hx hDf
      obtain ⟨rfl, pre0, u, A2, c2, rfl, h1, h2, h6, h7, hsl⟩ := hx
      have hq := HSZ.out
      have hmk : Marks (D2 :: Ds) W := by
        refine ⟨List.nodup_cons.2 ⟨fun h => ?_, HL8.out.marks.1⟩, fun E hE => ?_⟩
        · have := (Array.getElem?_eq_some_iff.1 (HL8.out.marks.2 D2 h)).1
          omega
        · rcases List.mem_cons.1 hE with rfl | hE
          · exact hDf
          · have hm := HL8.out.marks.2 E hE
            refine (hKW.block E (Array.getElem?_eq_some_iff.1 hm).1 fun h => ?_).trans hm
            rcases h with rfl | rfl
            · have := HL8.out.r6.symm.trans hm; cases this
            · have := HL8.out.r7.symm.trans hm; cases this
      have HMK := hideIt hmk
      have HRR := hideIt (show R = ((s : Int) - 1, u) by
        rw [HR.out]
        have hfs : (uni [] ps (0 + s)).find? (fun u => !dcX x (wo hs u)) = some u := by
          obtain ⟨rest, hrest⟩ := hpre
          rw [Nat.zero_add, ← hrest, List.append_assoc, List.find?_append, List.find?_eq_none.2 (fun v hv h => by rw [h1 v hv] at h; cases h)]
          simp [h2]
        rw [losR_some (u := u) 5 0 s hlt HL8.out.none_ hfs, Nat.zero_add])
      have HLW := hideIt (show Below w.heap.size w W from HL8.out.low.trans (hKW.below HL8.out.low.size fun k hk h => by rcases h with h | h <;> omega))
      have HDL := hideIt (show ∀ E ∈ D2 :: Ds, w.heap.size ≤ E from fun E hE => (List.mem_cons.1 hE).elim (fun e => by omega) (HL8.out.mlo E))
      have H6 := hideIt h6
      have H7 := hideIt h7
      have HSL := hideIt hsl
      clear hD2 hKW hpre hDf hq hmk h1 h2 h6 h7 hsl
      go_wp2_with fail
      refine leaves_marks (D2 :: Ds) W HMK.out fun w' hk => ?_
      refine ⟨_, results_cell2 rfl _ w' q6 q7 rfl rfl ((s : Int) - 1) ((H6.out.marks HMK.out hk).cell 0) A2 u.length c2 ((H7.out.marks HMK.out hk).cell 0), ?_⟩
      rw [HRR.out]
      exact ⟨A2, c2, rfl, HSL.out.marks HMK.out hk, HLW.out.trans (hk.below HLW.out.size fun k hk h => by have := HDL.out k h; omega)⟩
  · obtain rfl : s = 5 := by omega
    have HRR := hideIt (show R = (4, []) by rw [HR.out]; exact losR_none 5 0 HLS.out.none_)
    have hne : q7 ≠ q6 := by have := HQ.out; omega
    have e6 : w5.cell? ⟨q6, 0, none⟩ = some (.int .i64 0) := HLS.out.r6.cell 0
    have f6 := HLS.out.r6.free 0
    have HB72 := hideIt (show Blk (w5.setCell ⟨q6, 0, none⟩ (.int .i64 4)) q7 26 [.slice none 0 0] from HLS.out.r7.store_other hne)
    have e7 : (w5.setCell ⟨q6, 0, none⟩ (.int .i64 4)).cell? ⟨q7, 0, none⟩ = some (.slice none 0 0) := HB72.out.cell 0
    have f7 := HB72.out.free 0
    have HF6 := hideIt ((HLS.out.r6.store 0 (.int .i64 4)).store_other (k := q7) (i := 0) (u := .slice none 0 0) hne.symm)
    have HF7 := hideIt (HB72.out.store 0 (.slice none 0 0))
    have HWB := hideIt (show Below w.heap.size w ((w5.setCell ⟨q6, 0, none⟩ (.int .i64 4)).setCell ⟨q7, 0, none⟩ (.slice none 0 0)) from (HLS.out.low.setCell (p := ⟨q6, 0, none⟩) (by have := HQ.out; show w.heap.size ≤ q6; omega) _).setCell (p := ⟨q7, 0, none⟩) (by have := HQ.out; show w.heap.size ≤ q7; omega) _)
    have HMK := hideIt (show Marks Ds ((w5.setCell ⟨q6, 0, none⟩ (.int .i64 4)).setCell ⟨q7, 0, none⟩ (.slice none 0 0)) from HLS.out.marks.keep fun k o hk => (heap_setCell_other _ ⟨q7, 0, none⟩ k _ (fun e => by
        have e : k = q7 := e
        subst e
        have := HLS.out.r7.symm.trans hk; cases this)).trans (heap_setCell_other _ ⟨q6, 0, none⟩ k _ (fun e => by
        have e : k = q6 := e
        subst e
        have := HLS.out.r6.symm.trans hk; cases this)))
    unfold lact
    clear hlt hne
    go_wp2_with fail
    refine leaves_marks Ds _ HMK.out fun w' hk => ?_
    refine ⟨_, results_cell2 rfl _ w' q6 q7 rfl rfl 4 ((HF6.out.marks HMK.out hk).cell 0) none 0 0 ((HF7.out.marks HMK.out hk).cell 0), ?_⟩
    rw [HRR.out]
    exact ⟨none, 0, rfl, Sl.nil _ _ _ _, HWB.out.trans (hk.below HWB.out.size fun k hk h => by have := HLS.out.mlo k h; omega)⟩
end Go.Proofs.YtkfahoaiialndaaGreatDoor
