/-
  Matrices as a later layer needs them: sizes, zeros, rows, rows as a row of slices, Identity (cut out of the texts of matrix).
-/
import Derived.Test.YtpjgmekpnlpjaaaDoorMatM
import Derived.BigRegion
import Derived.Maps.AppendAt
namespace Go.Proofs.YtpjgmekpnlpjaaaDoor
section
open Go.RowKit
set_option linter.unusedVariables false

set_option maxHeartbeats 400000 in
theorem isz_any (n : Int) (w : World) : Calls Tryd.prog 58 #[.int .i64 n] w fun e w' => e = .returned (.bool (isz n)) ∧ w = w' := by
  unfold isz
  by_cases h0 : 0 ≤ n
  · by_cases h1 : n ≤ 32
    · rw [decide_eq_true ⟨h0, h1⟩]
      go_enter Tryd.func58, Tryd.ntmps58
      go_wp2_with fail
      go_ret
      exact ⟨rfl, rfl⟩
    · rw [decide_eq_false (fun h => h1 h.2)]
      go_enter Tryd.func58, Tryd.ntmps58
      go_wp2_with fail
      go_ret
      exact ⟨rfl, rfl⟩
  · rw [decide_eq_false (fun h => h0 h.1)]
    go_enter Tryd.func58, Tryd.ntmps58
    go_wp2_with fail
    go_ret
    exact ⟨rfl, rfl⟩

end

section
open Go.RowKit
set_option linter.unusedVariables false

theorem own_blk {w : World} {base n g : Nat} {e : TypeId} {xs : List Value} (h : w.ownsRow base e 1 (.slice (some ⟨g, 0, none⟩) n n) n xs) : Blk w g e xs ∧ base ≤ g := by
  rcases h.2 with ⟨h0, _⟩ | ⟨k, cap, cur, hv, hb, hg, h1, h2, h3, h4⟩
  · cases h0
  · injection hv with e1 e2 e3
    injection e1 with e1
    injection e1 with e1
    subst e1 e3
    refine ⟨?_, hb⟩
    have : cur.toList = xs := by
      rw [← h4, List.take_of_length_le]
      rw [Array.length_toList, h3]; exact Nat.le_refl _
    unfold Blk
    rw [← this, hg]

/-- 'make([]int, n)': a block of zeros. -/
theorem wpList_zeros (w : World) {ops : Array Oper} {rest : List Oper} {o : Oper} {a : Act} {Q : Exit → Act → World → Prop} (hg : o.guard = none) (l c : Operand) (hop : o.op = Op.makeSlice 29 l c)
    (n : Nat) (hl : a.eval l = .int .i64 (n : Int)) (hc : a.eval c = .int .i64 (n : Int)) (hn : n ≤ 100000)
    (hK : ∀ w', Hid (Blk w' w.heap.size 3 ((nl n fun _ => 0).map iv)) → Hid (Below w.heap.size w w') → wpList Tryd.prog ops Q rest (a.put o.dst (.slice (some ⟨w.heap.size, 0, none⟩) n n)) w') :
    wpList Tryd.prog ops Q (o :: rest) a w := by
  obtain ⟨i0, hi, hz0, hz1, hz2⟩ := info_parts (show (Tryd.prog.info? 3).map (fun i => (i.zero, i.size, i.bytes)) = some (some (Value.int .i64 0), 1, 8) by kernel_rfl)
  refine wpList_make_full w hg l c 29 hop w.heap.size 3 i0 (.int .i64 0) 1 Tryd.underlying29 hi hz0 hz1 .i64 .i64 (n : Int) (n : Int) n hl hc rfl rfl (by rw [hz2]; omega) (by unfold maxLen; omega) (Nat.le_refl _) ?_
  intro w2 hown hgr
  have hb := (own_blk hown).1
  rw [Nat.mul_one, show (madeCells (Value.int .i64 0).cells n).toList = List.replicate n (.int .i64 0) from toList_madeCells_one _ n, zeros_nl] at hb
  exact hK w2 hb ((Below.refl w.heap.size w).grown hgr (Nat.le_refl _) (by simp))
theorem World.size_alloc (w : World) (o : Obj) : (w.alloc o).heap.size = w.heap.size + 1 := by simp
theorem isz4 : (Tryd.prog.info? 31).map (·.size) = some 4 := by kernel_rfl
theorem mt_one (F R C : Int) {s : Value} (h : s.oneCell' = true) : ∀ u ∈ mtC F R C s, u.oneCell' = true := by
  intro u hu
  simp only [List.mem_cons, List.not_mem_nil, or_false] at hu
  rcases hu with rfl | rfl | rfl | rfl <;> first | rfl | exact h

set_option maxHeartbeats 1000000 in
theorem zeros_any (m : Int) (R C : Nat) (hR : R ≤ 40) (hC : C ≤ 40) (w : World) :
    Calls Tryd.prog 59 #[.int .i64 m, .int .i64 (R : Int), .int .i64 (C : Int)] w fun e w' => ∃ g, e = .returned (mtV m R C (.slice (some ⟨g, 0, none⟩) (R * C) (R * C))) ∧ w.heap.size ≤ g ∧ Blk w' g 3 ((nl (R * C) fun _ => 0).map iv) ∧ Below w.heap.size w w' := by
  have hrk : R * C ≤ 40 * 40 := Nat.mul_le_mul hR hC
  have hmul := nmul 3 R C (by omega)
  obtain ⟨n, hn⟩ : ∃ n, n = R * C := ⟨_, rfl⟩
  rw [← hn] at hrk hmul ⊢
  clear hn
  have HB0 := hideIt (Blk.new w 31 (mtC 0 0 0 (.slice none 0 0)))
  have HW0 := hideIt (below_new w (.cells (mtC 0 0 0 (.slice none 0 0)).toArray 31))
  go_enter Tryd.func59, Tryd.ntmps59
  go_wp2_with (first
    | ((with_reducible refine at_make ?_); refine wpList_zeros _ rfl (.tmp 12) (.tmp 12) rfl n rfl rfl (by omega) ?_; intro w2 HB2 HW2)
    | ((with_reducible refine at_store ?_); refine wpList_put rfl 31 (.tmp 6) (.tmp 14) rfl w.heap.size (mtC m R C (.slice (some ⟨w.heap.size + 1, 0, none⟩) n n)) (mtC 0 0 0 (.slice none 0 0)) 31 rfl rfl (HB0.out.kept HW2.out HB0.out.lt) isz4 rfl (mt_one _ _ _ rfl) ?_; intro w3 ht3 hb3; have HT3 := hideIt ht3; have HB3 := hideIt hb3; clear ht3 hb3))
  have h2 := HB2.out
  rw [World.size_alloc] at h2
  exact bodyPost_ret (ret_blk rfl HB3.out _ rfl Tryd.underlying31 rfl isz4) rfl ⟨w.heap.size + 1, rfl, by omega, HT3.out.blk h2 (by omega), HT3.out.below (HW0.out.trans (HW2.out.mono HW0.out.size)) (Nat.le_refl _)⟩

/-- Where row i of a matrix begins. -/
def rowA (A : Option Addr) (c k : Nat) : Option Addr := if c = k then A else A.map (·.add k)
theorem cut_is (A : Option Addr) {n c p q : Nat} (hk : p ≤ q) (hn : q ≤ n) (hc : n ≤ c) (W : World) :
    (Instr.sliceAt 29 (.slice A n c) (some (.int .i64 (p : Int))) (some (.int .i64 (q : Int))) none).run Tryd.prog W = .ok (.slice (rowA A c p) (q - p) (c - p)) W := by
  have hs : ∀ W, (sizeOf 3).run Tryd.prog W = .ok 1 W := fun W => by kernel_rfl
  have hel : Tryd.prog.elem 29 = 3 := by simp [Program.elem, Tryd.underlying29]
  rw [run_sliceAt_slice W _ _ _ _ _ (by rw [hel]; exact Tryd.underlying29), run_slice_lh W _ A n c (by rw [hel]; exact Tryd.underlying29) .i64 .i64 p q (by omega) (by omega) (by omega), hel, hs]
  simp only [Result.andThen, sliced, Int.toNat_natCast, Nat.mul_one, rowA]
theorem sl_row {w : World} {B : Nat} {A : Option Addr} {n c : Nat} {xs : List Value} (h : Sl w B A 1 n xs) {p q : Nat} (hk : p ≤ q) (hn : q ≤ n) (hc : n ≤ c) : Sl w B (rowA A c p) 1 (q - p) ((xs.drop p).take (q - p)) := by
  have h2 := (h.drop (k := p) (cap := c) (by omega) hc).take (k := q - p) (by omega)
  rw [Nat.mul_one, Nat.mul_one] at h2
  exact h2
set_option maxHeartbeats 1000000 in
theorem row_any (F : Int) (R C : Nat) (A : Option Addr) (n c i : Nat) (hi : i < R) (hR : R ≤ 40) (hC : C ≤ 40) (hn : R * C ≤ n) (hc : n ≤ c) (w : World) :
    Calls Tryd.prog 60 #[mtV F R C (.slice A n c), .int .i64 (i : Int)] w fun e w' => e = .returned (.slice (rowA A c (i * C)) C (c - i * C)) ∧ Below w.heap.size w w' := by
  obtain ⟨i1, hi1⟩ : ∃ i1, i1 = i + 1 := ⟨_, rfl⟩
  have hle : i1 * C ≤ R * C := Nat.mul_le_mul_right _ (by omega)
  have hle2 : R * C ≤ 40 * 40 := Nat.mul_le_mul hR hC
  have hpq : i1 * C = i * C + C := by rw [hi1, Nat.add_mul, Nat.one_mul]
  have hmul := nmul 3 i C (by omega)
  have hinc := inc_c 3 i (by omega)
  rw [← hi1] at hinc
  have hmul2 := nmul 3 i1 C (by omega)
  have hcut := cut_is A (n := n) (c := c) (p := i * C) (q := i1 * C) (by omega) (by omega) hc
  rw [show i1 * C - i * C = C by omega] at hcut
  generalize i1 * C = q at *
  generalize i * C = p at *
  clear hle hle2 hpq hi1 hi
  go_enter Tryd.func60, Tryd.ntmps60
  go_wp2_with fail
  go_ret
  exact ⟨rfl, below_new w _⟩

end

section
open Go.RowKit
set_option linter.unusedVariables false

/-- Cells that S does not name are as they were; no block has turned its kind. -/
structure Sel (S : Nat → Nat → Prop) (w w' : World) : Prop where
  os : w'.os = w.os
  tape : w'.tape = w.tape
  output : w'.output = w.output
  size : w.heap.size ≤ w'.heap.size
  cell : ∀ k o, k < w.heap.size → ¬ S k o → w'.cell? ⟨k, o, none⟩ = w.cell? ⟨k, o, none⟩
  frozen : ∀ k o, k < w.heap.size → w'.frozen? ⟨k, o, none⟩ = w.frozen? ⟨k, o, none⟩
  block : ∀ k, k < w.heap.size → (∀ o, ¬ S k o) → w'.heap[k]? = w.heap[k]?
  kind : ∀ k t cs, Blk w k t cs → ∃ cs', cs'.length = cs.length ∧ Blk w' k t cs'
section
variable {S S' : Nat → Nat → Prop} {a b c : World}
theorem Sel.refl (S : Nat → Nat → Prop) (w : World) : Sel S w w := ⟨rfl, rfl, rfl, Nat.le_refl _, fun _ _ _ _ => rfl, fun _ _ _ => rfl, fun _ _ _ => rfl, fun _ _ cs h => ⟨cs, rfl, h⟩⟩
theorem Sel.trans (h : Sel S a b) (k : Sel S b c) : Sel S a c :=
  ⟨k.os.trans h.os, k.tape.trans h.tape, k.output.trans h.output, Nat.le_trans h.size k.size,
    fun i o hi hs => (k.cell i o (Nat.lt_of_lt_of_le hi h.size) hs).trans (h.cell i o hi hs), fun i o hi => (k.frozen i o (Nat.lt_of_lt_of_le hi h.size)).trans (h.frozen i o hi),
    fun i hi hs => (k.block i (Nat.lt_of_lt_of_le hi h.size) hs).trans (h.block i hi hs),
    fun i t cs hb => by
      obtain ⟨c1, h1, h2⟩ := h.kind i t cs hb
      obtain ⟨c2, h3, h4⟩ := k.kind i t c1 h2
      exact ⟨c2, h3.trans h1, h4⟩⟩
theorem Sel.wide (h : Sel S a b) (hs : ∀ k o, S k o → S' k o) : Sel S' a b :=
  ⟨h.os, h.tape, h.output, h.size, fun k o hk hn => h.cell k o hk (fun q => hn (hs k o q)), h.frozen, fun k hk hn => h.block k hk (fun o q => hn o (hs k o q)), h.kind⟩
/-- The same, where S names more blocks that are new. -/
theorem Sel.old (h : Sel S a b) (hs : ∀ k o, k < a.heap.size → S k o → S' k o) : Sel S' a b :=
  ⟨h.os, h.tape, h.output, h.size, fun k o hk hn => h.cell k o hk (fun q => hn (hs k o hk q)), h.frozen, fun k hk hn => h.block k hk (fun o q => hn o (hs k o hk q)), h.kind⟩
theorem Sel.of_below (S : Nat → Nat → Prop) (h : Below a.heap.size a b) : Sel S a b :=
  ⟨h.os, h.tape, h.output, h.size, fun k o hk _ => h.cell (p := ⟨k, o, none⟩) hk, fun k o hk => h.frozen (p := ⟨k, o, none⟩) hk, fun k hk _ => h.block k hk, fun k t cs hb => ⟨cs, rfl, hb.kept h hb.lt⟩⟩
theorem Sel.below {B : Nat} (h : Sel S a b) (hB : B ≤ a.heap.size) (hs : ∀ k o, k < B → ¬ S k o) : Below B a b :=
  ⟨h.os, h.tape, h.output, h.size, fun k hk => h.block k (Nat.lt_of_lt_of_le hk hB) (fun o => hs k o hk)⟩
theorem Sel.setCell (h : Sel S a b) {k o : Nat} (hs : S k o) (u : Value) : Sel S a (b.setCell ⟨k, o, none⟩ u) := by
  refine h.trans ⟨rfl, rfl, rfl, by simp [World.setCell], fun i q hi hn => ?_, fun i q hi => World.frozen?_setCell _ _ _ _, fun i hi hn => heap_setCell_other _ _ _ _ (fun e => hn o (e ▸ hs)), fun i t cs hb => ?_⟩
  · exact World.cell?_setCell_other _ _ _ _ (by intro hh; injection hh with h1 h2; subst h1 h2; exact hn hs)
  · by_cases e : i = k
    · subst e
      exact ⟨cs.set o u, by simp, hb.store o u⟩
    · exact ⟨cs, rfl, hb.store_other e⟩
theorem Sel.blk (h : Sel S a b) {k : Nat} {t : TypeId} {cs : List Value} (hb : Blk a k t cs) (hs : ∀ o, ¬ S k o) : Blk b k t cs := (h.block k hb.lt hs).trans hb
/-- A block whose cells are known again. -/
theorem Sel.cells (h : Sel S a b) {k : Nat} {t : TypeId} {cs ds : List Value} (hb : Blk a k t cs) (hl : ds.length = cs.length) (hd : ∀ j u, ds[j]? = some u → b.cell? ⟨k, j, none⟩ = some u) : Blk b k t ds := by
  obtain ⟨c2, h1, h2⟩ := h.kind k t cs hb
  have : c2 = ds := by
    apply List.ext_getElem
    · omega
    · intro j h3 h4
      have h5 := hd j _ (List.getElem?_eq_getElem h4)
      rw [h2.cell, List.getElem?_eq_getElem h3] at h5
      exact Option.some.inj h5
  rw [← this]; exact h2
end
theorem Tabs.sel {S : Nat → Nat → Prop} {w w' : World} (h : Tabs w) (hs : Sel S w w') (hn : ∀ o, ¬ S 0 o) : Tabs w' :=
  ⟨Nat.lt_of_lt_of_le h.lo hs.size, fun j hj => (hs.cell _ j h.lo (hn j)).trans (h.tab j hj)⟩
theorem sel_drewN {S : Nat → Nat → Prop} {a b : World} (h : Sel S a b) (n : Nat) : Sel S a (b.drewN n) := h.trans (Sel.of_below S (below_drewN (Below.refl _ _) n))

/-- n integers at a place. -/
structure Ints (w : World) (A : Option Addr) (b o n : Nat) (f : Nat → Nat) : Prop where
  adr : 0 < n → A = some ⟨b, o, none⟩
  lt : 0 < n → b < w.heap.size
  cell : ∀ j, j < n → w.cell? ⟨b, o + j, none⟩ = some (.int .i64 (f j : Int))
theorem Ints.sel {S : Nat → Nat → Prop} {w w' : World} {A : Option Addr} {b o n : Nat} {f : Nat → Nat} (h : Ints w A b o n f) (hs : Sel S w w') (hn : ∀ j, j < n → ¬ S b (o + j)) : Ints w' A b o n f :=
  ⟨h.adr, fun h0 => Nat.lt_of_lt_of_le (h.lt h0) hs.size, fun j hj => (hs.cell b _ (h.lt (by omega)) (hn j hj)).trans (h.cell j hj)⟩
theorem Ints.below {B : Nat} {w w' : World} {A : Option Addr} {b o n : Nat} {f : Nat → Nat} (h : Ints w A b o n f) (hb : Below B w w') (hB : 0 < n → b < B) : Ints w' A b o n f :=
  ⟨h.adr, fun h0 => Nat.lt_of_lt_of_le (h.lt h0) hb.size, fun j hj => (hb.cell (p := ⟨b, o + j, none⟩) (hB (by omega))).trans (h.cell j hj)⟩

end

section
open Go.RowKit
set_option linter.unusedVariables false

/-- Where the rows lie. -/
structure RD where
  ad : Nat → Option Addr
  b : Nat → Nat
  o : Nat → Nat
  c : Nat → Nat
/-- R rows of n integers, under the slices of block g. -/
structure EM (w : World) (B g R n : Nat) (D : RD) (M : Mx) : Prop where
  glt : g < w.heap.size
  gB : B ≤ g
  hdr : ∀ i, i < R → w.cell? ⟨g, i, none⟩ = some (.slice (D.ad i) n (D.c i))
  hfr : ∀ i, i < R → w.frozen? ⟨g, i, none⟩ = false
  cap : ∀ i, i < R → n ≤ D.c i ∧ D.c i ≤ maxLen
  row : ∀ i, i < R → Ints w (D.ad i) (D.b i) (D.o i) n (M i)
  low : 0 < n → ∀ i, i < R → B ≤ D.b i ∧ D.b i ≠ g
  free : ∀ i, i < R → ∀ j, j < n → w.frozen? ⟨D.b i, D.o i + j, none⟩ = false
  apart : ∀ i k, i < R → k < R → i ≠ k → ∀ j l, j < n → l < n → ¬ (D.b i = D.b k ∧ D.o i + j = D.o k + l)
theorem EM.below {w w' : World} {B g R n : Nat} {D : RD} {M : Mx} (h : EM w B g R n D M) (hb : Below w.heap.size w w') : EM w' B g R n D M :=
  ⟨Nat.lt_of_lt_of_le h.glt hb.size, h.gB, fun i hi => (hb.cell (p := ⟨g, i, none⟩) h.glt).trans (h.hdr i hi), fun i hi => (hb.frozen (p := ⟨g, i, none⟩) h.glt).trans (h.hfr i hi), h.cap,
    fun i hi => (h.row i hi).below hb (h.row i hi).lt, h.low, fun i hi j hj => (hb.frozen (p := ⟨D.b i, D.o i + j, none⟩) ((h.row i hi).lt (by omega))).trans (h.free i hi j hj), h.apart⟩
theorem EM.congr {w : World} {B g R n : Nat} {D : RD} {M N : Mx} (h : EM w B g R n D M) (he : ∀ i j, i < R → j < n → M i j = N i j) : EM w B g R n D N :=
  ⟨h.glt, h.gB, h.hdr, h.hfr, h.cap, fun i hi => ⟨(h.row i hi).adr, (h.row i hi).lt, fun j hj => by rw [← he i j hi hj]; exact (h.row i hi).cell j hj⟩, h.low, h.free, h.apart⟩
def RD.swap (D : RD) (i k : Nat) : RD := ⟨fun x => D.ad (if x = i then k else if x = k then i else x), fun x => D.b (if x = i then k else if x = k then i else x), fun x => D.o (if x = i then k else if x = k then i else x), fun x => D.c (if x = i then k else if x = k then i else x)⟩
theorem swp_row (M : Mx) (i k x : Nat) : swp M i k x = M (if x = i then k else if x = k then i else x) := by
  unfold swp
  split
  · rfl
  · split <;> rfl
/-- The header with its slices swapped, all else as it was. -/
theorem EM.swapped {w w' : World} {B g R n : Nat} {D : RD} {M : Mx} (h : EM w B g R n D M) {i k : Nat} (hi : i < R) (hk : k < R) (hs : Sel (fun b _ => b = g) w w') (hc : ∀ x, x < R → w'.cell? ⟨g, x, none⟩ = some (.slice ((D.swap i k).ad x) n ((D.swap i k).c x))) :
    EM w' B g R n (D.swap i k) (swp M i k) := by
  have hx : ∀ x, x < R → (if x = i then k else if x = k then i else x) < R := fun x hx => by split; exact hk; split; exact hi; exact hx
  have hinj : ∀ x y, x ≠ y → (if x = i then k else if x = k then i else x) ≠ (if y = i then k else if y = k then i else y) := fun x y hne => by
    split <;> split <;> (try split) <;> (try split) <;> omega
  refine ⟨Nat.lt_of_lt_of_le h.glt hs.size, h.gB, hc, fun x hx => (hs.frozen g x h.glt).trans (h.hfr x hx), fun x hx' => h.cap _ (hx x hx'), fun x hx' => ?_, fun h0 x hx' => h.low h0 _ (hx x hx'), fun x hx' j hj => ?_, fun x y hx1 hy hne j l hj hl => h.apart _ _ (hx x hx1) (hx y hy) (hinj x y hne) j l hj hl⟩
  · rw [swp_row]
    have hr := h.row _ (hx x hx')
    exact hr.sel hs (fun j hj => (h.low (by omega) _ (hx x hx')).2)
  · have hr := h.row _ (hx x hx')
    exact (hs.frozen _ _ (hr.lt (by omega))).trans (h.free _ (hx x hx') j hj)

/-- One row's cells new, all else as it was. -/
theorem EM.added {w w' : World} {B g R n : Nat} {D : RD} {M : Mx} (h : EM w B g R n D M) {i : Nat} (hi : i < R) {f : Nat → Nat} (hI : Ints w' (D.ad i) (D.b i) (D.o i) n f) (hs : Sel (fun k q => k = D.b i ∧ D.o i ≤ q ∧ q < D.o i + n) w w') :
    EM w' B g R n D (fun r j => if r = i then f j else M r j) := by
  refine ⟨Nat.lt_of_lt_of_le h.glt hs.size, h.gB, fun r hr => (hs.cell g r h.glt (fun q => (h.low (by omega) i hi).2 q.1.symm)).trans (h.hdr r hr), fun r hr => (hs.frozen g r h.glt).trans (h.hfr r hr), h.cap, fun r hr => ?_, h.low, fun r hr j hj => (hs.frozen _ _ ((h.row r hr).lt (by omega))).trans (h.free r hr j hj), h.apart⟩
  by_cases e : r = i
  · subst e
    exact ⟨hI.adr, hI.lt, fun j hj => by show _ = some (Value.int .i64 ((if r = r then f j else M r j : Nat) : Int)); rw [if_pos rfl]; exact hI.cell j hj⟩
  · have h2 := (h.row r hr).sel hs (fun j hj q => h.apart r i hr hi e j (D.o r + j - D.o i) hj (by omega) ⟨q.1, by omega⟩)
    exact ⟨h2.adr, h2.lt, fun j hj => by show _ = some (Value.int .i64 ((if r = i then f j else M r j : Nat) : Int)); rw [if_neg e]; exact h2.cell j hj⟩
/-- Row i with another row's multiple added. -/
def addR6 (m : Nat) (M : Mx) (i t x : Nat) : Mx := fun r j => if r = i then M i j ^^^ mul m (M t j) x else M r j
/-- Row i times a factor. -/
def sclR6 (m : Nat) (M : Mx) (i x : Nat) : Mx := fun r j => if r = i then mul m (M i j) x else M r j
def RD.new (D : RD) (i g n : Nat) : RD := ⟨fun x => if x = i then some ⟨g, 0, none⟩ else D.ad x, fun x => if x = i then g else D.b x, fun x => if x = i then 0 else D.o x, fun x => if x = i then n else D.c x⟩
theorem EM.renewed {w w' : World} {B g R n g2 : Nat} {D : RD} {M : Mx} (h : EM w B g R n D M) {i : Nat} (hi : i < R) (hnm : n ≤ maxLen) {f : Nat → Nat} (hI : Ints w (some ⟨g2, 0, none⟩) g2 0 n f) (hf : ∀ j, j < n → w.frozen? ⟨g2, 0 + j, none⟩ = false) (hB : B ≤ g2) (hgg : g2 ≠ g) (hnew : ∀ r, r < R → 0 < n → D.b r ≠ g2)
    (hw : w' = w.setCell ⟨g, i, none⟩ (.slice (some ⟨g2, 0, none⟩) n n)) : EM w' B g R n (D.new i g2 n) (fun r j => if r = i then f j else M r j) := by
  have hs : Sel (fun k _ => k = g) w w' := by rw [hw]; exact (Sel.refl (fun k _ => k = g) w).setCell (S := fun k _ => k = g) rfl _
  refine ⟨Nat.lt_of_lt_of_le h.glt hs.size, h.gB, fun r hr => ?_, fun r hr => (hs.frozen g r h.glt).trans (h.hfr r hr), fun r hr => ?_, fun r hr => ?_, fun h0 r hr => ?_, fun r hr j hj => ?_, fun r k hr hk hne j l hj hl => ?_⟩
  · show w'.cell? _ = some (.slice (if r = i then some ⟨g2, 0, none⟩ else D.ad r) n (if r = i then n else D.c r))
    by_cases e : r = i
    · rw [if_pos e, if_pos e, hw, e]
      exact World.cell?_setCell_same' _ _ _ (by rw [h.hdr i hi]; rfl)
    · rw [if_neg e, if_neg e, hw]
      exact (World.cell?_setCell_other _ _ _ _ (by intro hh; injection hh with _ hh; omega)).trans (h.hdr r hr)
  · show n ≤ (if r = i then n else D.c r) ∧ (if r = i then n else D.c r) ≤ maxLen
    by_cases e : r = i
    · rw [if_pos e]; exact ⟨Nat.le_refl _, hnm⟩
    · rw [if_neg e]; exact h.cap r hr
  · by_cases e : r = i
    · subst e
      have h2 := hI.sel hs (fun j hj => hgg)
      refine ⟨fun h0 => ?_, fun h0 => ?_, fun j hj => ?_⟩
      · show (if r = r then some ⟨g2, 0, none⟩ else D.ad r) = some ⟨if r = r then g2 else D.b r, if r = r then 0 else D.o r, none⟩
        rw [if_pos rfl, if_pos rfl, if_pos rfl]
      · show (if r = r then g2 else D.b r) < _
        rw [if_pos rfl]; exact h2.lt h0
      · show w'.cell? ⟨if r = r then g2 else D.b r, (if r = r then 0 else D.o r) + j, none⟩ = some (.int .i64 ((if r = r then f j else M r j : Nat) : Int))
        rw [if_pos rfl, if_pos rfl, if_pos rfl]; exact h2.cell j hj
    · have h2 := (h.row r hr).sel hs (fun j hj => (h.low (by omega) r hr).2)
      refine ⟨fun h0 => ?_, fun h0 => ?_, fun j hj => ?_⟩
      · show (if r = i then some ⟨g2, 0, none⟩ else D.ad r) = some ⟨if r = i then g2 else D.b r, if r = i then 0 else D.o r, none⟩
        rw [if_neg e, if_neg e, if_neg e]; exact h2.adr h0
      · show (if r = i then g2 else D.b r) < _
        rw [if_neg e]; exact h2.lt h0
      · show w'.cell? ⟨if r = i then g2 else D.b r, (if r = i then 0 else D.o r) + j, none⟩ = some (.int .i64 ((if r = i then f j else M r j : Nat) : Int))
        rw [if_neg e, if_neg e, if_neg e]; exact h2.cell j hj
  · show B ≤ (if r = i then g2 else D.b r) ∧ (if r = i then g2 else D.b r) ≠ g
    by_cases e : r = i
    · rw [if_pos e]; exact ⟨hB, hgg⟩
    · rw [if_neg e]; exact h.low h0 r hr
  · show w'.frozen? ⟨if r = i then g2 else D.b r, (if r = i then 0 else D.o r) + j, none⟩ = false
    by_cases e : r = i
    · rw [if_pos e, if_pos e]; exact (hs.frozen _ _ (hI.lt (by omega))).trans (hf j hj)
    · rw [if_neg e, if_neg e]; exact (hs.frozen _ _ ((h.row r hr).lt (by omega))).trans (h.free r hr j hj)
  · show ¬ ((if r = i then g2 else D.b r) = (if k = i then g2 else D.b k) ∧ (if r = i then 0 else D.o r) + j = (if k = i then 0 else D.o k) + l)
    by_cases e : r = i
    · have e2 : k ≠ i := fun q => hne (e.trans q.symm)
      rw [if_pos e, if_neg e2]
      exact fun q => hnew k hk (by omega) q.1.symm
    · by_cases e2 : k = i
      · rw [if_neg e, if_pos e2]
        exact fun q => hnew r hr (by omega) q.1
      · rw [if_neg e, if_neg e2, if_neg e, if_neg e2]
        exact h.apart r k hr hk hne j l hj hl
theorem Ints.of_blk {w : World} {g n : Nat} {t : TypeId} {f : Nat → Nat} (h : Blk w g t ((nl n f).map iv)) : Ints w (some ⟨g, 0, none⟩) g 0 n f :=
  ⟨fun _ => rfl, fun _ => h.lt, fun j hj => by rw [Nat.zero_add, h.cell, iv_at hj]⟩

end

section
open Go.RowKit
set_option linter.unusedVariables false

theorem Sel.then {S S' : Nat → Nat → Prop} {a b c : World} (h : Sel S a b) (k : Sel S' b c) (hs : ∀ i o, i < a.heap.size → S' i o → S i o) : Sel S a c :=
  ⟨k.os.trans h.os, k.tape.trans h.tape, k.output.trans h.output, Nat.le_trans h.size k.size,
    fun i o hi hn => (k.cell i o (Nat.lt_of_lt_of_le hi h.size) (fun q => hn (hs i o hi q))).trans (h.cell i o hi hn), fun i o hi => (k.frozen i o (Nat.lt_of_lt_of_le hi h.size)).trans (h.frozen i o hi),
    fun i hi hn => (k.block i (Nat.lt_of_lt_of_le hi h.size) (fun o q => hn o (hs i o hi q))).trans (h.block i hi hn),
    fun i t cs hb => by
      obtain ⟨c1, h1, h2⟩ := h.kind i t cs hb
      obtain ⟨c2, h3, h4⟩ := k.kind i t c1 h2
      exact ⟨c2, h3.trans h1, h4⟩⟩
theorem Sel.later {S : Nat → Nat → Prop} {a b c : World} (h : Sel S a b) (k : Below a.heap.size b c) : Sel S a c :=
  ⟨k.os.trans h.os, k.tape.trans h.tape, k.output.trans h.output, Nat.le_trans h.size k.size,
    fun i o hi hn => (k.cell (p := ⟨i, o, none⟩) hi).trans (h.cell i o hi hn), fun i o hi => (k.frozen (p := ⟨i, o, none⟩) hi).trans (h.frozen i o hi),
    fun i hi hn => (k.block i hi).trans (h.block i hi hn),
    fun i t cs hb => by
      obtain ⟨c1, h1, h2⟩ := h.kind i t cs hb
      exact ⟨c1, h1, h2.kept k hb.lt⟩⟩
theorem own_sel {S : Nat → Nat → Prop} {w w' : World} {base n : Nat} {e : TypeId} {v : Value} {xs : List Value} (h : w.ownsRow base e 1 v n xs) (hs : Sel S w w') (hn : ∀ k, v.ownBlock = some k → ∀ o, ¬ S k o) : w'.ownsRow base e 1 v n xs := by
  refine ⟨h.1, ?_⟩
  rcases h.2 with h0 | ⟨g, cap, cur, hv, hb, hg, r⟩
  · exact .inl h0
  · refine .inr ⟨g, cap, cur, hv, hb, ?_, r⟩
    rw [hs.block g (Array.getElem?_eq_some_iff.1 hg).1 (hn g (by rw [hv]; rfl))]
    exact hg
theorem one_new6 (w : World) (t : TypeId) (u0 : Value) : ∀ j u, [u0][j]? = some u → (w.alloc (.cells #[u0] t)).cell? ((⟨w.heap.size, 0, none⟩ : Addr).add j) = some u := by
  intro j u hj
  rw [addr_add, Nat.zero_add]
  exact ((Blk.new w t [u0]).cell j).trans hj
theorem swp_comm (M : Mx) (a b : Nat) : swp M a b = swp M b a := by
  funext x
  unfold swp
  by_cases h1 : x = a
  · by_cases h2 : x = b
    · rw [if_pos h1, if_pos h2]; subst h1; rw [h2]
    · rw [if_pos h1, if_neg h2, if_pos h1]
  · by_cases h2 : x = b
    · rw [if_neg h1, if_pos h2, if_pos h2]
    · rw [if_neg h1, if_neg h2, if_neg h2, if_neg h1]
/-- The pivots as cells. -/
abbrev pvC (pv : List Nat) : List Value := (nl pv.length fun k => pv.getD k 0).map iv
theorem pvC_snoc (pv : List Nat) (c : Nat) : pvC (pv ++ [c]) = pvC pv ++ [.int .i64 (c : Int)] := by
  have h : (nl (pv ++ [c]).length fun k => (pv ++ [c]).getD k 0) = (nl pv.length fun k => pv.getD k 0) ++ [(c : Int)] := by
    apply List.ext_getElem
    · rw [nl_len, List.length_append, List.length_append, nl_len]; rfl
    · intro k h1 h2
      rw [nl_get]
      rw [nl_len, List.length_append] at h1
      simp only [List.length_singleton] at h1
      by_cases e : k < pv.length
      · rw [List.getElem_append_left (by rw [nl_len]; exact e), nl_get, getD_snoc_lt e]
      · rw [List.getElem_append_right (by rw [nl_len]; omega), getD_snoc_eq (by omega)]
        simp
  unfold pvC
  rw [h, List.map_append]
  rfl

section
variable {m B g R n cR : Nat} {D0 : RD} {A0 : Mx} {w0 : World} {M : Mx} {pv : List Nat} {v : Value} {D : RD} {W : World}
end

end

section
open Go.RowKit
set_option linter.unusedVariables false

/-- The rows while the multiples are added. -/
def half (m : Nat) (N : Mx) (top col i : Nat) : Mx := fun r j => if r = top then mul m (N top j) (inv m (N top col)) else if r < i then N r j ^^^ mul m (mul m (N top j) (inv m (N top col))) (N r col) else N r j
theorem half_zero (m : Nat) (N : Mx) (top col : Nat) : sclR6 m N top (inv m (N top col)) = half m N top col 0 := by
  funext r j
  unfold sclR6 half
  by_cases e : r = top
  · rw [if_pos e, if_pos e]
  · rw [if_neg e, if_neg e, if_neg (by omega)]
theorem half_at {m : Nat} {N : Mx} {top col i : Nat} (h : i ≠ top) : half m N top col i i col = N i col := by
  unfold half
  rw [if_neg h, if_neg (by omega)]
theorem half_step {m : Nat} {N : Mx} {top col i : Nat} (h : i ≠ top) : addR6 m (half m N top col i) i top (N i col) = half m N top col (i + 1) := by
  funext r j
  unfold addR6 half
  by_cases e : r = i
  · subst e
    rw [if_pos rfl, if_neg h, if_neg (by omega), if_pos rfl, if_neg h, if_pos (by omega)]
  · rw [if_neg e]
    by_cases e2 : r = top
    · rw [if_pos e2, if_pos e2]
    · rw [if_neg e2, if_neg e2]
      by_cases e3 : r < i
      · rw [if_pos e3, if_pos (by omega)]
      · rw [if_neg e3, if_neg (by omega)]
theorem half_skip (m : Nat) (N : Mx) (top col : Nat) : half m N top col top = half m N top col (top + 1) := by
  funext r j
  unfold half
  by_cases e2 : r = top
  · rw [if_pos e2, if_pos e2]
  · rw [if_neg e2, if_neg e2]
    by_cases e3 : r < top
    · rw [if_pos e3, if_pos (by omega)]
    · rw [if_neg e3, if_neg (by omega)]
theorem half_all (m : Nat) (N : Mx) (top col R r j : Nat) (hr : r < R) : half m N top col R r j = clr m N top col r j := by
  unfold half clr
  by_cases e : r = top
  · rw [if_pos e, if_pos e]
  · rw [if_neg e, if_neg e, if_pos hr]
theorem half_v {m : Nat} (hm : Fm m) {N : Mx} (hN : Vm m N) (top col i : Nat) : Vm m (half m N top col i) := fun r j => by
  unfold half
  split
  · exact mul_lt hm _ (hN _ _)
  · split
    · exact Nat.xor_lt_two_pow (hN _ _) (mul_lt hm _ (mul_lt hm _ (hN _ _)))
    · exact hN _ _

theorem int_neqF6 (t : TypeId) {a b : Int} (h : a = b) : binOp .neq t (.int .i64 a) (.int .i64 b) = pure (.bool false) := by
  rw [binOp_neq, h]; simp
theorem int_neqT6 (t : TypeId) {a b : Int} (h : a ≠ b) : binOp .neq t (.int .i64 a) (.int .i64 b) = pure (.bool true) := by
  have h2 : (a != b) = true := by rw [bne_iff_ne]; exact h
  rw [binOp_neq, h2]

end

section
open Go.RowKit
set_option linter.unusedVariables false

/-- A matrix that came in. -/
structure MIn (w : World) (a : Mt) (A : Option Addr) (c : Nat) : Prop where
  sl : Sl w w.heap.size A 1 a.l.length (a.l.map iv)
  cap : a.l.length ≤ c
  max : c ≤ maxLen
theorem MIn.keep {w W : World} {a : Mt} {A : Option Addr} {c : Nat} (h : MIn w a A c) (hb : Below w.heap.size w W) : MIn W a A c := ⟨(h.sl.below hb).wide hb.size, h.cap, h.max⟩
/-- A matrix that comes back, and an error. -/
def MRes (w : World) (r : Mt × Int) (e : Ending) (w' : World) : Prop :=
  ∃ s, e = .returned (.tuple #[mtV r.1.F r.1.R r.1.C s, .int .i64 r.2]) ∧ w'.ownsRow w.heap.size 3 1 s r.1.l.length (r.1.l.map iv) ∧ Below w.heap.size w w'
theorem MRes.min {w W : World} {a : Mt} {s : Value} (h : W.ownsRow w.heap.size 3 1 s a.l.length (a.l.map iv)) : ∃ A c, s = .slice A a.l.length c ∧ MIn W a A c := by
  obtain ⟨A, c, rfl, h1, h2⟩ := own_form h
  exact ⟨A, c, rfl, Sl.of_own h, h1, h2⟩
/-- The elements as a row of numbers. -/
abbrev gl (C : Nat) (E : Mx) : Nat → Nat := fun k => E (k / C) (k % C)
theorem gl_at {C : Nat} (E : Mx) {i j : Nat} (hj : j < C) : gl C E (i * C + j) = E i j := by
  show E ((i * C + j) / C) ((i * C + j) % C) = _
  rw [ix_div hj, ix_mod hj]
theorem mk_len (m R C : Nat) (E : Mx) : (mkM m R C E).l.length = R * C := nl_len _ _
/-- A slice that reads as n numbers. -/
theorem Sl.ints {w : World} {B n : Nat} {A : Option Addr} {f : Nat → Nat} (h : Sl w B A 1 n ((nl n f).map iv)) (hB : B ≤ w.heap.size) : ∃ b o, Ints w A b o n f ∧ (0 < n → b < B) := by
  rcases Nat.eq_zero_or_pos n with h0 | h0
  · exact ⟨0, 0, ⟨fun q => by omega, fun q => by omega, fun j hj => by omega⟩, fun q => by omega⟩
  · obtain ⟨b, o, e, hb, hc⟩ := h.2 (by rw [List.length_map, nl_len]; exact h0)
    exact ⟨b, o, ⟨fun _ => e, fun _ => Nat.lt_of_lt_of_le hb hB, fun j hj => hc j _ (iv_at hj)⟩, fun _ => hb⟩
theorem Ints.congr {w : World} {A : Option Addr} {b o n : Nat} {f g : Nat → Nat} (h : Ints w A b o n f) (he : ∀ j, j < n → f j = g j) : Ints w A b o n g :=
  ⟨h.adr, h.lt, fun j hj => by rw [← he j hj]; exact h.cell j hj⟩
/-- A row of a matrix. -/
theorem Ints.row {w : World} {A : Option Addr} {b o R C c : Nat} {E : Mx} (h : Ints w A b o (R * C) (gl C E)) {i : Nat} (hi : i < R) (hc : R * C ≤ c) : Ints w (rowA A c (i * C)) b (o + i * C) C (E i) := by
  have hle : (i + 1) * C ≤ R * C := Nat.mul_le_mul_right _ hi
  rw [Nat.add_mul, Nat.one_mul] at hle
  refine ⟨fun h0 => ?_, fun h0 => h.lt (by omega), fun j hj => ?_⟩
  · unfold rowA
    rw [if_neg (by omega), h.adr (by omega)]
    simp [addr_add]
  · rw [Nat.add_assoc, h.cell (i * C + j) (by omega), gl_at E hj]
theorem mk_cell {m R C : Nat} {E : Mx} {w : World} {A : Option Addr} {c : Nat} (h : MIn w (mkM m R C E) A c) : ∃ b o, Ints w A b o (R * C) (gl C E) ∧ (0 < R * C → b < w.heap.size) := by
  have h2 := h.sl
  rw [mk_len] at h2
  exact Sl.ints h2 (Nat.le_refl _)

end

section
open Go.RowKit
set_option linter.unusedVariables false

def upd2 (M : Mx) (i j x : Nat) : Mx := fun r q => if r = i ∧ q = j then x else M r q
theorem gl_set {R C : Nat} (M : Mx) {i j : Nat} (x : Nat) (hi : i < R) (hj : j < C) : ((nl (R * C) (gl C M)).map iv).set (i * C + j) (.int .i64 (x : Int)) = (nl (R * C) (gl C (upd2 M i j x))).map iv := by
  rw [set_nl _ _ _ (ix_lt hi hj)]
  congr 1
  apply nl_congr
  intro k hk
  obtain ⟨h1, h2, h3⟩ := ix_of hk
  show (if k = i * C + j then x else M (k / C) (k % C)) = if k / C = i ∧ k % C = j then x else M (k / C) (k % C)
  by_cases e : k = i * C + j
  · rw [if_pos e, if_pos (by rw [e, ix_div hj, ix_mod hj]; exact ⟨rfl, rfl⟩)]
  · rw [if_neg e, if_neg (fun q => e (by rw [h3, q.1, q.2]))]
theorem gl_congr {R C : Nat} {M N : Mx} (h : ∀ i j, i < R → j < C → M i j = N i j) : (nl (R * C) (gl C M)).map iv = (nl (R * C) (gl C N)).map iv := by
  congr 1
  apply nl_congr
  intro k hk
  obtain ⟨h1, h2, _⟩ := ix_of hk
  exact h _ _ h1 h2
theorem row_own {g R C i : Nat} (hi : i < R) (h0 : 0 < C) : rowA (some ⟨g, 0, none⟩) (R * C) (i * C) = some ⟨g, i * C, none⟩ := by
  have hle : (i + 1) * C ≤ R * C := Nat.mul_le_mul_right _ hi
  rw [Nat.add_mul, Nat.one_mul] at hle
  unfold rowA
  rw [if_neg (by omega)]
  simp [addr_add]
theorem own_of_blk {w : World} {base g n : Nat} {e : TypeId} {xs : List Value} (h : Blk w g e xs) (hb : base ≤ g) (hl : xs.length = n) (hn : n ≤ maxLen) : w.ownsRow base e 1 (.slice (some ⟨g, 0, none⟩) n n) n xs :=
  ⟨by rw [hl, Nat.mul_one], .inr ⟨g, n, xs.toArray, rfl, hb, h, Nat.le_refl _, hn, by simp [hl], by rw [Nat.mul_one, ← hl]; simp⟩⟩
theorem Sel.at_ {w6 w : World} {gp : Nat} (h : Sel (fun k _ => k = gp) w6 w) {p : Nat} {t : TypeId} {cs : List Value} (hb : Blk w6 p t cs) (hne : p ≠ gp) : Blk w p t cs := h.blk hb (fun _ q => hne q)
/-- The world that a maker of a matrix works on: its box, its block of cells, the result's cell. -/
structure Mk (w0 w6 : World) (pr p6 gp m R C : Nat) (w : World) (M : Mx) : Prop where
  w06 : Below w0.heap.size w0 w6
  pr6 : Blk w6 pr 31 (mtC 0 0 0 (.slice none 0 0))
  b6 : Blk w6 p6 31 (mtC (m : Int) (R : Int) (C : Int) (.slice (some ⟨gp, 0, none⟩) (R * C) (R * C)))
  g6 : gp < w6.heap.size
  prl : w0.heap.size ≤ pr
  gl0 : w0.heap.size ≤ gp
  ne1 : pr ≠ gp
  ne2 : p6 ≠ gp
  sel : Sel (fun k _ => k = gp) w6 w
  cells : Blk w gp 3 ((nl (R * C) (gl C M)).map iv)
section
variable {w0 w6 : World} {pr p6 gp m R C : Nat} {w : World} {M : Mx}
theorem Mk.low (h : Mk w0 w6 pr p6 gp m R C w M) : Below w0.heap.size w0 w := h.w06.trans (h.sel.below h.w06.size (fun k o hk q => by have := h.gl0; omega))
theorem Mk.box (h : Mk w0 w6 pr p6 gp m R C w M) : Blk w p6 31 (mtC (m : Int) (R : Int) (C : Int) (.slice (some ⟨gp, 0, none⟩) (R * C) (R * C))) := h.sel.at_ h.b6 h.ne2
theorem Mk.res (h : Mk w0 w6 pr p6 gp m R C w M) : Blk w pr 31 (mtC 0 0 0 (.slice none 0 0)) := h.sel.at_ h.pr6 h.ne1
theorem Mk.next (h : Mk w0 w6 pr p6 gp m R C w M) {w' : World} {N : Mx} (hs : Sel (fun k _ => k = gp) w w') (hc : Blk w' gp 3 ((nl (R * C) (gl C N)).map iv)) : Mk w0 w6 pr p6 gp m R C w' N :=
  ⟨h.w06, h.pr6, h.b6, h.g6, h.prl, h.gl0, h.ne1, h.ne2, h.sel.trans hs, hc⟩
theorem Mk.below (h : Mk w0 w6 pr p6 gp m R C w M) {w' : World} (hb : Below w.heap.size w w') : Mk w0 w6 pr p6 gp m R C w' M := h.next (Sel.of_below _ hb) (h.cells.kept hb h.cells.lt)
theorem Mk.congr (h : Mk w0 w6 pr p6 gp m R C w M) {N : Mx} (he : ∀ i j, i < R → j < C → M i j = N i j) : Mk w0 w6 pr p6 gp m R C w N := ⟨h.w06, h.pr6, h.b6, h.g6, h.prl, h.gl0, h.ne1, h.ne2, h.sel, by rw [← gl_congr he]; exact h.cells⟩
/-- A store into the matrix. -/
theorem Mk.store (h : Mk w0 w6 pr p6 gp m R C w M) {i j x : Nat} (hi : i < R) (hj : j < C) : Mk w0 w6 pr p6 gp m R C (w.setCell ⟨gp, i * C + j, none⟩ (.int .i64 (x : Int))) (upd2 M i j x) :=
  h.next ((Sel.refl _ w).setCell (S := fun k _ => k = gp) rfl _) (by rw [← gl_set M x hi hj]; exact h.cells.store _ _)
theorem Mk.cell (h : Mk w0 w6 pr p6 gp m R C w M) {i j : Nat} (hi : i < R) (hj : j < C) : w.cell? ⟨gp, i * C + j, none⟩ = some (.int .i64 (M i j : Int)) ∧ w.frozen? ⟨gp, i * C + j, none⟩ = false := by
  refine ⟨?_, h.cells.free _⟩
  rw [h.cells.cell, iv_at (ix_lt hi hj), gl_at M hj]
theorem Mk.tabs (h : Mk w0 w6 pr p6 gp m R C w M) (hT : Tabs w0) : Tabs w := hT.keep h.low
theorem Mk.fin (h : Mk w0 w6 pr p6 gp m R C w M) (hR : R ≤ 40) (hC : C ≤ 40) {w' : World} (ht : Turned pr w w') : MRes w0 (mkM m R C M, 0) (.returned (.tuple #[mtV (m : Int) (R : Int) (C : Int) (.slice (some ⟨gp, 0, none⟩) (R * C) (R * C)), .int .i64 0])) w' := by
  have hle : R * C ≤ 40 * 40 := Nat.mul_le_mul hR hC
  refine ⟨.slice (some ⟨gp, 0, none⟩) (R * C) (R * C), rfl, ?_, ht.below h.low h.prl⟩
  show w'.ownsRow _ _ _ _ (mkM m R C M).l.length ((nl (R * C) (gl C M)).map iv)
  rw [mk_len]
  exact own_of_blk (ht.blk h.cells (Ne.symm h.ne1)) h.gl0 (by rw [List.length_map, nl_len]) (by unfold maxLen; omega)
end
theorem MRes.bad {w w' : World} (hb : Below w.heap.size w w') (x : Int) : MRes w (zeroM, x) (.returned (.tuple #[mtV 0 0 0 (.slice none 0 0), .int .i64 x])) w' := ⟨.slice none 0 0, rfl, World.ownsRow_nil _ _ _ _, hb⟩
/-- The first state: zeros. -/
theorem Mk.start {w0 w1 w5 w6 : World} {pr gp m R C : Nat} (h01 : Below w0.heap.size w0 w1) (hpr : Blk w1 pr 31 (mtC 0 0 0 (.slice none 0 0))) (hprl : w0.heap.size ≤ pr) (h15 : Below w1.heap.size w1 w5) (hg : w1.heap.size ≤ gp) (hc : Blk w5 gp 3 ((nl (R * C) fun _ => 0).map iv))
    (h6 : w6 = w5.alloc (.cells (mtC (m : Int) (R : Int) (C : Int) (.slice (some ⟨gp, 0, none⟩) (R * C) (R * C))).toArray 31)) : Mk w0 w6 pr w5.heap.size gp m R C w6 (fun _ _ => 0) := by
  have hz := h01.size
  have h1 := hpr.lt
  have h2 := hc.lt
  subst h6
  refine ⟨(h01.trans (h15.mono hz)).alloc (by have := h15.size; omega) _, (hpr.kept h15 h1).alloc _, Blk.new _ _ _, by simp; omega, hprl, by omega, by omega, by omega, Sel.refl _ _, hc.alloc _⟩

def MkE (w0 : World) (pr p6 gp m R C : Nat) (w : World) (M : Mx) : Prop := ∃ w6, Mk w0 w6 pr p6 gp m R C w M
/-- A row of the call's own matrix. -/
theorem row_mk {gp R C i : Nat} (m : Nat) (hi : i < R) (h0 : 0 < C) (hR : R ≤ 40) (hC : C ≤ 40) (W : World) :
    Calls Tryd.prog 60 #[mtV (m : Int) (R : Int) (C : Int) (.slice (some ⟨gp, 0, none⟩) (R * C) (R * C)), .int .i64 (i : Int)] W fun e w' => e = .returned (.slice (some ⟨gp, i * C, none⟩) C (R * C - i * C)) ∧ Below W.heap.size W w' := by
  have h := row_any (m : Int) R C (some ⟨gp, 0, none⟩) (R * C) (R * C) i hi hR hC (Nat.le_refl _) (Nat.le_refl _) W
  rw [row_own hi h0] at h
  exact h
theorem wpList_ldM {ops : Array Oper} {rest : List Oper} {o : Oper} {a : Act} {w : World} {Q : Exit → Act → World → Prop} (hgd : o.guard = none) (x : Operand) (ho : o.op = .load 31 x) (p : Nat) (F R C : Int) (s : Value) (hx : a.eval x = .pointer (some ⟨p, 0, none⟩))
    (hp : Blk w p 31 (mtC F R C s)) (h : wpList Tryd.prog ops Q rest (a.put o.dst (mtV F R C s)) w) : wpList Tryd.prog ops Q (o :: rest) a w :=
  wpList_get hgd _ x ho p (mtC F R C s) _ _ hx hp Tryd.underlying31 rfl isz4 h
theorem wpList_stM {ops : Array Oper} {rest : List Oper} {o : Oper} {a : Act} {w : World} {Q : Exit → Act → World → Prop} (hgd : o.guard = none) (x y : Operand) (ho : o.op = .store 31 x y) (p : Nat) (F R C F' R' C' : Int) (s s' : Value) (hs : s.oneCell' = true) (hx : a.eval x = .pointer (some ⟨p, 0, none⟩)) (hy : a.eval y = mtV F R C s)
    (hp : Blk w p 31 (mtC F' R' C' s')) (h : ∀ w', Hid (Turned p w w') → Hid (Blk w' p 31 (mtC F R C s)) → wpList Tryd.prog ops Q rest (a.put o.dst undef) w') : wpList Tryd.prog ops Q (o :: rest) a w :=
  wpList_put hgd _ x y ho p (mtC F R C s) (mtC F' R' C' s') 31 hx hy hp isz4 rfl (mt_one _ _ _ hs) (fun w' h1 h2 => h w' h1 h2)

end

section
open Go.RowKit
set_option linter.unusedVariables false

/-- What Identity answers. -/
def idM (m n : Int) : Mt × Int := if vd m 0 = true ∧ isz n = true then (mkM m.toNat n.toNat n.toNat idm, 0) else (zeroM, 1)
def idK (k : Nat) : Mx := fun i j => if i < k ∧ i = j then 1 else 0
theorem idK_next (k : Nat) : upd2 (idK k) k k 1 = idK (k + 1) := by
  funext i j
  unfold upd2 idK
  by_cases e : i = k ∧ j = k
  · rw [if_pos e, if_pos (by omega)]
  · rw [if_neg e]
    by_cases e2 : i < k ∧ i = j
    · rw [if_pos e2, if_pos (by omega)]
    · rw [if_neg e2, if_neg (by omega)]
theorem idK_all {n i j : Nat} (hi : i < n) : idK n i j = idm i j := by
  unfold idK idm
  by_cases e : i = j
  · rw [if_pos ⟨hi, e⟩, if_pos e]
  · rw [if_neg (fun q => e q.2), if_neg e]

set_option maxHeartbeats 1000000 in
set_option maxRecDepth 100000 in
theorem ident_any (m n : Int) (w : World) (hT : Tabs w) :
    Calls Tryd.prog 40 #[.int .i64 m, .int .i64 n] w (MRes w (idM m n)) := by
  have HV := hideIt (fun W (hW : Below w.heap.size w W) => valid_any m 0 W (hT.keep hW))
  have HZ := hideIt (fun W => isz_any n W)
  have HPR := hideIt (Blk.new w 31 (mtC 0 0 0 (.slice none 0 0)))
  obtain ⟨r, hr⟩ : ∃ r, r = idM m n := ⟨_, rfl⟩
  rw [← hr]
  have HR := hideIt hr
  clear hr hT
  by_cases h1 : vd m 0 = true
  · by_cases h2 : isz n = true
    · rw [h1] at HV
      rw [h2] at HZ
      have HR2 : Hid (r = (mkM m.toNat n.toNat n.toNat idm, 0)) := hideIt (by rw [HR.out]; unfold idM; rw [if_pos ⟨h1, h2⟩])
      obtain ⟨k, x, rfl, hx0, hk, _⟩ := vd_spec h1
      clear hx0
      obtain ⟨q, rfl, hq⟩ := isz_spec h2
      rw [Int.toNat_natCast, Int.toNat_natCast] at HR2
      have HZS := hideIt (fun W => zeros_any k q q (by omega) (by omega) W)
      clear h1 h2 HR
      go_enter Tryd.func40, Tryd.ntmps40
      go_wp2_with (first
        | (go_at_call 45; refine (HV.out _ (below_new w _)).mono ?_; rintro e w2 ⟨rfl, rfl⟩)
        | (go_at_call 58; refine (HZ.out _).mono ?_; rintro e w2 ⟨rfl, rfl⟩)
        | (go_at_call 59; refine (HZS.out _).mono ?_; rintro e w5 ⟨gp, rfl, hg, hc, hb5⟩; have HMK := hideIt (Mk.start (m := k) (below_new w _) HPR.out (Nat.le_refl _) hb5 hg hc rfl); clear hg hc hb5))
      obtain ⟨p6, hp6⟩ : ∃ p6, p6 = w5.heap.size := ⟨_, rfl⟩
      rw [← hp6] at HMK ⊢
      clear hp6 HV HZ HZS HPR
      have hqq : q * q ≤ 32 * 32 := Nat.mul_le_mul hq hq
      go_loopg [22] q (fun gk s22 wr => ∃ i : Nat, i + gk = q ∧ s22 = .int .i64 (i : Int) ∧ Aside (MkE w w.heap.size p6 gp k q q wr (idK i)))
      case atStart => exact ⟨0, by omega, rfl, _, HMK.out.congr (fun i j _ _ => by unfold idK; rw [if_neg (by omega)])⟩
      case round =>
        obtain ⟨i, hi, rfl, HI⟩ := hrel
        by_cases hlt : i < q
        · have hinc := inc_c 3 i (by omega)
          have hiq : (i : Int) < (q : Int) := by omega
          have HROW := hideIt (fun W => row_mk (gp := gp) (R := q) (C := q) (i := i) k hlt (by omega) (by omega) (by omega) W)
          obtain ⟨w6, hmk⟩ := HI.out
          have HM := hideIt hmk
          clear HI hmk HMK
          go_wp2_with (first
            | ((with_reducible refine at_load ?_); refine wpList_ldM rfl (.tmp 6) rfl p6 _ _ _ _ rfl HM.out.box ?_)
            | (go_at_call 60; refine (HROW.out _).mono ?_; rintro e w7 ⟨rfl, hb7⟩; have HM7 := hideIt (HM.out.below hb7); obtain ⟨hcell, hfr⟩ := HM7.out.cell (i := i) (j := i) hlt hlt; clear hb7))
          go_roundg (gk - 1)
          case measure => omega
          case rel => exact ⟨i + 1, by omega, by go_num, w6, by rw [← idK_next]; exact HM7.out.store (x := 1) hlt hlt⟩
        · have hiq : ¬ (i : Int) < (q : Int) := by omega
          obtain rfl : i = q := by omega
          obtain ⟨w6, hmk⟩ := HI.out
          have HM := hideIt (hmk.congr (fun r j hr hj => idK_all (j := j) hr))
          clear HI hmk HMK
          go_wp2_with (first
            | ((with_reducible refine at_load ?_); refine wpList_ldM rfl (.tmp 6) rfl p6 _ _ _ _ rfl HM.out.box ?_)
            | ((with_reducible refine at_store ?_); refine wpList_stM rfl (.tmp 4) (.tmp 31) rfl w.heap.size _ _ _ _ _ _ _ _ rfl rfl rfl HM.out.res ?_; intro w8 HT8 HB8))
          refine bodyPost_ret (results_two rfl _ _ w.heap.size _ _ _ rfl HB8.out Tryd.underlying31 rfl isz4) rfl ?_
          rw [HR2.out]
          exact HM.out.fin (by omega) (by omega) HT8.out
    · have HR2 : Hid (r = (zeroM, 1)) := hideIt (by rw [HR.out]; unfold idM; rw [if_neg (fun h => h2 h.2)])
      rw [h1] at HV
      rw [Bool.eq_false_iff.2 h2] at HZ
      clear h1 h2 HR
      go_enter Tryd.func40, Tryd.ntmps40
      go_wp2_with (first
        | (go_at_call 45; refine (HV.out _ (below_new w _)).mono ?_; rintro e w2 ⟨rfl, rfl⟩)
        | (go_at_call 58; refine (HZ.out _).mono ?_; rintro e w2 ⟨rfl, rfl⟩)
        | ((with_reducible refine at_store ?_); refine wpList_stM rfl (.tmp 4) (.tmp 16) rfl w.heap.size 0 0 0 0 0 0 (.slice none 0 0) (.slice none 0 0) rfl rfl rfl HPR.out ?_; intro w8 HT8 HB8))
      refine bodyPost_ret (results_two rfl _ _ w.heap.size _ _ _ rfl HB8.out Tryd.underlying31 rfl isz4) rfl ?_
      rw [HR2.out]
      exact MRes.bad (HT8.out.below (below_new w _) (Nat.le_refl _)) 1
  · have HR2 : Hid (r = (zeroM, 1)) := hideIt (by rw [HR.out]; unfold idM; rw [if_neg (fun h => h1 h.1)])
    rw [Bool.eq_false_iff.2 h1] at HV
    clear h1 HR
    go_enter Tryd.func40, Tryd.ntmps40
    go_wp2_with (first
        | (go_at_call 45; refine (HV.out _ (below_new w _)).mono ?_; rintro e w2 ⟨rfl, rfl⟩)
        | ((with_reducible refine at_store ?_); refine wpList_stM rfl (.tmp 4) (.tmp 16) rfl w.heap.size 0 0 0 0 0 0 (.slice none 0 0) (.slice none 0 0) rfl rfl rfl HPR.out ?_; intro w8 HT8 HB8))
    refine bodyPost_ret (results_two rfl _ _ w.heap.size _ _ _ rfl HB8.out Tryd.underlying31 rfl isz4) rfl ?_
    rw [HR2.out]
    exact MRes.bad (HT8.out.below (below_new w _) (Nat.le_refl _)) 1

end

end Go.Proofs.YtpjgmekpnlpjaaaDoor
