/-
  The k-th twin of a string, walked: fingerprint.twin; what the order of the bits does not matter for.
-/
import Derived.Test.YtbejmcndflmgaaaDoorInv
import Derived.Test.YtbejmcndflmgaaaDoorInR
namespace Go.Proofs.YtbejmcndflmgaaaDoor
open Go.RowKit Go.Shelf
set_option linter.unusedVariables false
attribute [local go_sem] Oper.semAt_some

/-- A string whose bits xs are inverted, one after the other. -/
def flips (n : Nat) (u : List UInt8) (xs : List Nat) : List UInt8 := xs.foldl (fun l x => xorL l (bitE n x)) u
theorem flips_snoc (n : Nat) (u : List UInt8) (xs : List Nat) (x : Nat) : flips n u (xs ++ [x]) = xorL (flips n u xs) (bitE n x) := by unfold flips; rw [List.foldl_append]; rfl
theorem snocRec {α : Type} {P : List α → Prop} (nil : P []) (snoc : ∀ l a, P l → P (l ++ [a])) (l : List α) : P l := by
  rw [← List.reverse_reverse l]
  induction l.reverse with
  | nil => exact nil
  | cons a r ih => rw [List.reverse_cons]; exact snoc _ _ ih
theorem flips_len (n : Nat) (u : List UInt8) (hu : u.length = n) (xs : List Nat) (h : ∀ x ∈ xs, x < 8 * n) : (flips n u xs).length = n := by
  induction xs using snocRec with
  | nil => exact hu
  | snoc xs x ih =>
    have h1 := ih fun y hy => h y (by simp [hy])
    rw [flips_snoc, xorL_len _ _ (by rw [bitE_len _ _ (h x (by simp)), h1]), h1]
theorem flips_twinE (n k : Nat) : ∀ (l : List Nat) (u : List UInt8), flips n u (l.map fun g => k + 32 - g) = twinE n k u l
  | [], _ => rfl
  | g :: l, u => by
    show flips n (xorL u (bitE n (k + 32 - g))) (l.map fun g => k + 32 - g) = _
    rw [flips_twinE n k l, twinE]
theorem inv_perm (k i : Nat) {a b : List Nat} (h : a.Perm b) : inv k i a = inv k i b := by
  induction h with
  | nil => rfl
  | cons x _ ih => rw [inv, inv, ih]
  | swap x y l => rw [inv, inv, inv, inv, Bool.xor_left_comm]
  | trans _ _ h1 h2 => exact h1.trans h2
theorem twinE_perm (n k : Nat) (hk : k + 32 < 8 * n) (u : List UInt8) (hu : u.length = n) {a b : List Nat} (h : a.Perm b) : twinE n k u a = twinE n k u b := by
  apply bits_eq
  · rw [twinE_len n k hk _ _ hu, twinE_len n k hk _ _ hu]
  · intro i
    rw [bit_twin n k i hk _ _ hu, bit_twin n k i hk _ _ hu, inv_perm k i h]
theorem flips_twin (u : List UInt8) (k : Nat) (hk : k + 32 < 8 * u.length) : flips u.length u (bitsOf k) = twin u k := by
  unfold bitsOf twin
  rw [flips_twinE]
  exact twinE_perm _ _ hk u rfl (by decide)

/-- A row of bytes at a block. -/
structure BRow (w : World) (g : Nat) (l : List UInt8) : Prop where
  lt : g < w.heap.size
  cell : ∀ i (h : i < l.length), w.cell? ⟨g, i, none⟩ = some (bv l[i])
  free : ∀ i, i < l.length → w.frozen? ⟨g, i, none⟩ = false
theorem BRow.kept {w w' : World} {g B : Nat} {l : List UInt8} (h : BRow w g l) (hb : Below B w w') (hg : g < B) : BRow w' g l :=
  ⟨Nat.lt_of_lt_of_le h.lt hb.size, fun i hi => (hb.cell (p := ⟨g, i, none⟩) hg).trans (h.cell i hi), fun i hi => (hb.frozen (p := ⟨g, i, none⟩) hg).trans (h.free i hi)⟩
theorem BRow.store {w : World} {g : Nat} {l : List UInt8} (h : BRow w g l) (q : Nat) (hq : q < l.length) (u : UInt8) : BRow (w.setCell ⟨g, q, none⟩ (bv u)) g (l.set q u) := by
  refine ⟨by simpa [World.setCell] using h.lt, fun i hi => ?_, fun i hi => ?_⟩
  · rw [List.length_set] at hi
    by_cases e : i = q
    · subst e
      rw [World.cell?_setCell_same' _ _ _ (by rw [h.cell i hq]; rfl), List.getElem_set_self]
    · rw [World.cell?_setCell_other _ _ _ _ (by intro hh; injection hh with _ hh; exact e hh.symm), h.cell i hi, List.getElem_set_ne (by omega)]
  · rw [List.length_set] at hi
    rw [World.frozen?_setCell]
    exact h.free i hi
theorem BRow.sl {w : World} {g : Nat} {l : List UInt8} (h : BRow w g l) : Sl w w.heap.size (some ⟨g, 0, none⟩) 1 l.length (l.map bv) :=
  ⟨by simp, fun _ => ⟨g, 0, rfl, h.lt, fun j u hj => by
    obtain ⟨h1, h2⟩ := List.getElem?_eq_some_iff.1 hj
    rw [List.length_map] at h1
    rw [Nat.zero_add, h.cell j h1, ← h2, List.getElem_map]⟩⟩
theorem brow_new (w : World) (e : TypeId) (l : List UInt8) : BRow (Lib.bytesWorld w e (str l)) w.heap.size l := by
  have hs := bytes_sl w e l
  refine ⟨by rw [Lib.bytesWorld_size]; omega, fun i hi => ?_, fun i hi => ?_⟩
  · obtain ⟨b, o, h1, _, h3⟩ := hs.2 (by rw [List.length_map]; omega)
    injection h1 with h1
    injection h1 with h1 h4 _
    subst h1 h4
    have := h3 i (bv l[i]) (by rw [List.getElem?_map, List.getElem?_eq_getElem hi]; rfl)
    rwa [Nat.zero_add] at this
  · have h1 := Lib.bytesWorld_at_new w e (str l)
    have h2 : (str l).size ≤ (Lib.bytesCells w e (str l)).size := by
      unfold Lib.bytesCells
      simp [str_size]
    rw [str_size] at h2
    unfold World.frozen?
    rw [h1]
    simp
    omega

theorem Below.heap {B : Nat} {w w' : World} (h : Below B w w') (k : Nat) (hk : k < B) : w'.heap[k]? = w.heap[k]? := h.block k hk
theorem cell_one (W : World) (t : TypeId) (v : Value) : (W.alloc (.cells #[v] t)).cell? ⟨W.heap.size, 0, none⟩ = some v := by
  have h := heap_alloc_new W (.cells #[v] t)
  simp only [World.cell?, h]
  rfl
theorem xor_c (t : TypeId) (u e : UInt8) : binOp .xor t (bv u) (bv e) = pure (bv (u ^^^ e)) := by
  rw [binOp_xor]
  show pure (Value.int .u8 (bits .xor .u8 (u.toNat : Int) (e.toNat : Int))) = _
  rw [xor_bv]

set_option maxHeartbeats 1000000 in
set_option maxRecDepth 100000 in
theorem twin_any (l : List UInt8) (k : Nat) (w : World) (hk : k + 32 < 8 * l.length) (hl : l.length ≤ 2000) (hT : Tabs w) :
    Calls Tryd.prog 15 #[.string (str l), .int .i64 (k : Int)] w fun e w' => e = .returned (.string (str (twin l k))) ∧ Below w.heap.size w w' := by
  have hcv := Lib.run_convert_string_bytes w 9 32 5 (str l) Tryd.underlying9 Tryd.underlying32 Tryd.underlying5
  rw [str_size] at hcv
  have HB1 := hideIt (below_bytes w 5 (str l))
  have HR1 := hideIt (brow_new w 5 l)
  have HS1 := hideIt (Lib.bytesWorld_size w 5 (str l))
  have HT := hideIt hT
  have HK := hideIt hk
  have HL := hideIt hl
  have HF := hideIt (flips_twin l k hk)
  clear hT hk hl
  generalize Lib.bytesWorld w 5 (str l) = w1 at *
  generalize grownCap w l.length 0 5 = c at *
  obtain ⟨s, hs⟩ : ∃ s, s = str l := ⟨_, rfl⟩
  rw [← hs] at hcv ⊢
  clear hs
  refine callsIn_wide.1 (callsIn_of_wp_marks (n := 0) Tryd.func15 rfl trivial ((wpIn_wide (n := 0)).2 ?_))
  simp only [Tryd.ntmps15, List.size_toArray, List.length_cons, List.length_nil, Nat.reduceAdd, Nat.reduceSub, Array.replicate_succ, Array.replicate_zero, List.push_toArray, List.append_toArray, List.nil_append, List.cons_append]
  go_wp2_with (go_at_call 20; refine (inverted_any _ _).mono ?_; rintro e w' ⟨rfl, hw2⟩)
  rw [← hw2]
  obtain ⟨b, hb⟩ : ∃ b, b = w1.heap.size := ⟨_, rfl⟩
  have hbg : b = w.heap.size + 1 := by rw [hb, HS1.out]
  have hz : w'.heap.size = b + 2 := by rw [hw2, hb]; simp
  have hW0 : Below b w1 w' := by rw [hw2, hb]; exact ((Below.refl _ w1).alloc (Nat.le_refl _) _).alloc (by simp) _
  have HBW := hideIt (HB1.out.trans (hW0.mono (by omega)))
  have hrow := HR1.out.kept hW0 (by omega)
  have hbox : w'.cell? ⟨b, 0, none⟩ = some (.slice (some ⟨w.heap.size, 0, none⟩) l.length c) := by
    rw [hw2, hb, World.cell?_of_block (w := w1.alloc (.cells #[Value.slice (some ⟨w.heap.size, 0, none⟩) l.length c] 32)) (Below.heap_alloc _ _ _ (by simp))]
    exact cell_one w1 _ _
  have hinv : w'.cell? ⟨b + 1, 0, none⟩ = some (.int .i64 (k : Int)) := by
    have := cell_one (w1.alloc (.cells #[Value.slice (some ⟨w.heap.size, 0, none⟩) l.length c] 32)) 3 (.int .i64 (k : Int))
    rw [World.size_alloc, ← hb, ← hw2] at this
    exact this
  rw [← hb]
  have hT' := HT.out.keep HBW.out
  have hit := inv_iter k (by have := HK.out; have := HL.out; omega) (b + 1) w' hT' (by omega) hinv
  obtain ⟨g, hg⟩ : ∃ g, g = w.heap.size := ⟨_, rfl⟩
  have hxg : 0 < g := by rw [hg]; exact HT.out.hi
  rw [← hg] at hbg hrow hbox hcv ⊢
  have HBX := hideIt hbox
  have HBG := hideIt hbg
  have HZ := hideIt hz
  have HG := hideIt hg
  have q1 : ∀ q, (q = b + 1 ∨ q = 0) → q < w'.heap.size := fun q hq => by rcases hq with rfl | rfl <;> omega
  have q2 : ∀ q, q = g → q < w'.heap.size ∧ ¬ (q = b + 1 ∨ q = 0) := fun q hq => by subst hq; exact ⟨by omega, by omega⟩
  have q3 : Low w'.heap.size (fun (pre : List Nat) W => BRow W g (flips l.length l pre)) := fun s A B h hb => h.kept hb (by omega)
  have Q4 := hideIt (show g < b ∧ b < w'.heap.size ∧ g < w'.heap.size by omega)
  have Q1 := hideIt q1
  have Q2 := hideIt q2
  have Q3 := hideIt q3
  have HIT := hideIt hit
  have HROW := hideIt hrow
  clear hw2 hW0 HS1 hinv hT' hbox HB1 HR1 hcv hb hbg hz hg hxg q1 q2 q3 hit hrow
  refine range_any (gf := 23) (lb := #[.pointer (some ⟨b + 1, 0, none⟩)]) rfl (enters_of Tryd.func23 (by kernel_rfl) rfl) HIT.out
    (fun q hq => ⟨Q1.out q hq, rfl⟩) (fun _ => rfl) (fun q => q = g) Q2.out
    (fun pre W => BRow W g (flips l.length l pre)) (fun _ _ _ => False) Q3.out (fun _ _ _ _ h _ => h) HROW.out ?a1 ?assign ?body ?done ?stop
  case assign =>
    intro l' x W K hK
    have HK2 := hideIt hK
    clear hK
    gi_wp2
    exact HK2.out
  case body =>
    rintro l' pre x W hpre hKW hI
    have hx8 : x < 8 * l.length := by
      have := bits_le k x (hpre.subset (by simp))
      have := HK.out
      omega
    have hLl : (flips l.length l pre).length = l.length := flips_len _ _ rfl _ fun y hy => by
      have := bits_le k y (hpre.subset (by simp [hy]))
      have := HK.out
      omega
    have hsn := flips_snoc l.length l pre x
    obtain ⟨L, hL⟩ : ∃ L, L = flips l.length l pre := ⟨_, rfl⟩
    rw [← hL] at hI hLl hsn
    have hl2 := HL.out
    have hboxW := (hKW.cell (p := ⟨b, 0, none⟩) Q4.out.2.1 (by have := Q4.out; show ¬ b = g; omega)).trans HBX.out
    have hq8 : x / 8 < L.length := by omega
    have hcell := hI.cell _ hq8
    have hfree := hI.free _ hq8
    have hquo := quo8_c 3 x (by omega)
    have hrem := rem8_c 3 x (by omega)
    have hshl := shl1_c 5 (x % 8) (by omega)
    have hxor := xor_c 5 (L[x / 8]) (UInt8.ofNat (2 ^ (x % 8)))
    have hset := set_bit' L l.length x (x / 8) _ _ hLl hx8 rfl rfl hq8 rfl
    have hst := (show BRow W.drew g L from ⟨hI.lt, hI.cell, hI.free⟩).store _ hq8 (L[x / 8] ^^^ UInt8.ofNat (2 ^ (x % 8)))
    rw [hset, ← hsn] at hst
    have HST := hideIt hst
    have hqi : ((x / 8 : Nat) : Int) < (l.length : Int) := by omega
    have HKW := hideIt hKW
    clear hset hst hsn hI hL hpre hKW
    generalize L[x / 8] = u at *
    generalize UInt8.ofNat (2 ^ (x % 8)) = e at *
    generalize u ^^^ e = y at *
    generalize x / 8 = q at *
    generalize x % 8 = r at *
    gi_wp2
    refine still_in 10 (by kernel_rfl) (by kernel_rfl) (by kernel_rfl) (fun hh => by obtain ⟨_, _, hh⟩ := hh; exact hh) ?_
    intro w3 hw3
    have h1D : w3.cell? ⟨b, 0, none⟩ = some (.slice (some ⟨g, 0, none⟩) l.length c) := by rw [hw3]; exact hboxW
    have h2D : w3.cell? ⟨g, q, none⟩ = some (bv u) := by rw [hw3]; exact hcell
    have h3D : w3.frozen? ⟨g, q, none⟩ = false := by rw [hw3]; exact hfree
    rw [← hw3] at HST
    have HKW3 := hideIt (show Keeps (fun q => q = g) W w3 by rw [hw3]; exact (Keeps.refl _ W).drew)
    clear hboxW hcell hfree hw3
    simp only [List.take_succ_cons, List.take_zero, List.drop_succ_cons, List.drop_zero]
    repeat still_step
    refine wpStill_nil ?_
    go_wp2_with fail
    exact ⟨HKW3.out.setCell rfl _, HST.out⟩
  case done =>
    intro D W hD hKW hI hDf
    rw [HF.out] at hI
    have hlt : (twin l k).length = l.length := twin_len _ _ HK.out
    have hboxW := (hKW.cell (p := ⟨b, 0, none⟩) Q4.out.2.1 (by have := Q4.out; show ¬ b = g; omega)).trans HBX.out
    have hcv := conv_bytes (P := Tryd.prog) (T := 32) (S := 9) (e := 5) Tryd.underlying32 Tryd.underlying5 Tryd.underlying9 (c := c) hI.sl
    rw [hlt] at hcv
    have HBE := hideIt (HBW.out.trans (hKW.below (B := w.heap.size) HBW.out.size (by have := HG.out; intro q hq; show ¬ q = g; omega)))
    change (convert 32 9 (.slice (some ⟨g, 0, none⟩) l.length c)).run Tryd.prog W = .ok (.string (str (twin l k))) W at hcv
    have HDF := hideIt hDf
    have HD := hideIt (Nat.le_trans HBW.out.size hD)
    clear hI hlt hKW hD hDf
    obtain ⟨z, hz⟩ : ∃ z, z = str (twin l k) := ⟨_, rfl⟩
    rw [← hz] at hcv
    have HZZ := hideIt hz
    clear hz
    go_wp2_with fail
    refine ⟨by simp, .inl ⟨_, _, rfl, run_takeDeferred HDF.out, ?_⟩⟩
    exact ⟨_, results_tmp rfl _ _ _, by rw [HZZ.out]; rfl, HBE.out.trans (below_putObj W HD.out _)⟩
  case stop =>
    intro D c' pre W _ _ _ h _
    exact h.elim

end Go.Proofs.YtbejmcndflmgaaaDoor
