/-
  zeros and row, walked.
-/
import Derived.Test.YtodmcojcmihooaaDoorMatV
namespace Go.Proofs.YtodmcojcmihooaaDoor
open Go.RowKit
set_option linter.unusedVariables false

theorem own_blk {w : World} {base n g : Nat} {e : TypeId} {xs : List Value} (h : w.ownsRow base e 1 (.slice (some ⟨g, 0, none⟩) n n) n xs) : Blk w g e xs ∧ base ≤ g := by
  rcases h.2 with ⟨h0, _⟩ | ⟨k, cap, cur, hv, hb, hg, h1, h2, h3, h4⟩
  · cases h0
  · injection hv with e1 e2 e3
    injection e1 with e1
    injection e1 with e1
    subst e1 e3
    refine ⟨?_, hb⟩
    have : cur.toList = xs := by
      rw [← h4, List.take_of_length_le]
      rw [Array.length_toList, h3]; exact Nat.le_refl _
    unfold Blk
    rw [← this, hg]

/-- 'make([]int, n)': a block of zeros. -/
theorem wpList_zeros (w : World) {ops : Array Oper} {rest : List Oper} {o : Oper} {a : Act} {Q : Exit → Act → World → Prop} (hg : o.guard = none) (l c : Operand) (hop : o.op = Op.makeSlice 22 l c)
    (n : Nat) (hl : a.eval l = .int .i64 (n : Int)) (hc : a.eval c = .int .i64 (n : Int)) (hn : n ≤ 100000)
    (hK : ∀ w', Hid (Blk w' w.heap.size 3 ((nl n fun _ => 0).map iv)) → Hid (Below w.heap.size w w') → wpList Tryd.prog ops Q rest (a.put o.dst (.slice (some ⟨w.heap.size, 0, none⟩) n n)) w') :
    wpList Tryd.prog ops Q (o :: rest) a w := by
  obtain ⟨i0, hi, hz0, hz1, hz2⟩ := info_parts (show (Tryd.prog.info? 3).map (fun i => (i.zero, i.size, i.bytes)) = some (some (Value.int .i64 0), 1, 8) by kernel_rfl)
  refine wpList_make_full w hg l c 22 hop w.heap.size 3 i0 (.int .i64 0) 1 Tryd.underlying22 hi hz0 hz1 .i64 .i64 (n : Int) (n : Int) n hl hc rfl rfl (by rw [hz2]; omega) (by unfold maxLen; omega) (Nat.le_refl _) ?_
  intro w2 hown hgr
  have hb := (own_blk hown).1
  rw [Nat.mul_one, show (madeCells (Value.int .i64 0).cells n).toList = List.replicate n (.int .i64 0) from toList_madeCells_one _ n, zeros_nl] at hb
  exact hK w2 hb ((Below.refl w.heap.size w).grown hgr (Nat.le_refl _) (by simp))
theorem World.size_alloc (w : World) (o : Obj) : (w.alloc o).heap.size = w.heap.size + 1 := by simp
theorem isz4 : (Tryd.prog.info? 24).map (·.size) = some 4 := by kernel_rfl
theorem mt_one (F R C : Int) {s : Value} (h : s.oneCell' = true) : ∀ u ∈ mtC F R C s, u.oneCell' = true := by
  intro u hu
  simp only [List.mem_cons, List.not_mem_nil, or_false] at hu
  rcases hu with rfl | rfl | rfl | rfl <;> first | rfl | exact h

set_option maxHeartbeats 1000000 in
theorem zeros_any (m : Int) (R C : Nat) (hR : R ≤ 40) (hC : C ≤ 40) (w : World) :
    Calls Tryd.prog 35 #[.int .i64 m, .int .i64 (R : Int), .int .i64 (C : Int)] w fun e w' => ∃ g, e = .returned (mtV m R C (.slice (some ⟨g, 0, none⟩) (R * C) (R * C))) ∧ w.heap.size ≤ g ∧ Blk w' g 3 ((nl (R * C) fun _ => 0).map iv) ∧ Below w.heap.size w w' := by
  have hrk : R * C ≤ 40 * 40 := Nat.mul_le_mul hR hC
  have hmul := nmul 3 R C (by omega)
  obtain ⟨n, hn⟩ : ∃ n, n = R * C := ⟨_, rfl⟩
  rw [← hn] at hrk hmul ⊢
  clear hn
  have HB0 := hideIt (Blk.new w 24 (mtC 0 0 0 (.slice none 0 0)))
  have HW0 := hideIt (below_new w (.cells (mtC 0 0 0 (.slice none 0 0)).toArray 24))
  go_enter Tryd.func35, Tryd.ntmps35
  go_wp2_with (first
    | ((with_reducible refine at_make ?_); refine wpList_zeros _ rfl (.tmp 12) (.tmp 12) rfl n rfl rfl (by omega) ?_; intro w2 HB2 HW2)
    | ((with_reducible refine at_store ?_); refine wpList_put rfl 24 (.tmp 6) (.tmp 14) rfl w.heap.size (mtC m R C (.slice (some ⟨w.heap.size + 1, 0, none⟩) n n)) (mtC 0 0 0 (.slice none 0 0)) 24 rfl rfl (HB0.out.kept HW2.out HB0.out.lt) isz4 rfl (mt_one _ _ _ rfl) ?_; intro w3 ht3 hb3; have HT3 := hideIt ht3; have HB3 := hideIt hb3; clear ht3 hb3))
  have h2 := HB2.out
  rw [World.size_alloc] at h2
  exact bodyPost_ret (ret_blk rfl HB3.out _ rfl Tryd.underlying24 rfl isz4) rfl ⟨w.heap.size + 1, rfl, by omega, HT3.out.blk h2 (by omega), HT3.out.below (HW0.out.trans (HW2.out.mono HW0.out.size)) (Nat.le_refl _)⟩

/-- Where row i of a matrix begins. -/
def rowA (A : Option Addr) (c k : Nat) : Option Addr := if c = k then A else A.map (·.add k)
theorem cut_is (A : Option Addr) {n c p q : Nat} (hk : p ≤ q) (hn : q ≤ n) (hc : n ≤ c) (W : World) :
    (Instr.sliceAt 22 (.slice A n c) (some (.int .i64 (p : Int))) (some (.int .i64 (q : Int))) none).run Tryd.prog W = .ok (.slice (rowA A c p) (q - p) (c - p)) W := by
  have hs : ∀ W, (sizeOf 3).run Tryd.prog W = .ok 1 W := fun W => by kernel_rfl
  have hel : Tryd.prog.elem 22 = 3 := by simp [Program.elem, Tryd.underlying22]
  rw [run_sliceAt_slice W _ _ _ _ _ (by rw [hel]; exact Tryd.underlying22), run_slice_lh W _ A n c (by rw [hel]; exact Tryd.underlying22) .i64 .i64 p q (by omega) (by omega) (by omega), hel, hs]
  simp only [Result.andThen, sliced, Int.toNat_natCast, Nat.mul_one, rowA]
theorem sl_row {w : World} {B : Nat} {A : Option Addr} {n c : Nat} {xs : List Value} (h : Sl w B A 1 n xs) {p q : Nat} (hk : p ≤ q) (hn : q ≤ n) (hc : n ≤ c) : Sl w B (rowA A c p) 1 (q - p) ((xs.drop p).take (q - p)) := by
  have h2 := (h.drop (k := p) (cap := c) (by omega) hc).take (k := q - p) (by omega)
  rw [Nat.mul_one, Nat.mul_one] at h2
  exact h2
set_option maxHeartbeats 1000000 in
theorem row_any (F : Int) (R C : Nat) (A : Option Addr) (n c i : Nat) (hi : i < R) (hR : R ≤ 40) (hC : C ≤ 40) (hn : R * C ≤ n) (hc : n ≤ c) (w : World) :
    Calls Tryd.prog 36 #[mtV F R C (.slice A n c), .int .i64 (i : Int)] w fun e w' => e = .returned (.slice (rowA A c (i * C)) C (c - i * C)) ∧ Below w.heap.size w w' := by
  obtain ⟨i1, hi1⟩ : ∃ i1, i1 = i + 1 := ⟨_, rfl⟩
  have hle : i1 * C ≤ R * C := Nat.mul_le_mul_right _ (by omega)
  have hle2 : R * C ≤ 40 * 40 := Nat.mul_le_mul hR hC
  have hpq : i1 * C = i * C + C := by rw [hi1, Nat.add_mul, Nat.one_mul]
  have hmul := nmul 3 i C (by omega)
  have hinc := inc_c 3 i (by omega)
  rw [← hi1] at hinc
  have hmul2 := nmul 3 i1 C (by omega)
  have hcut := cut_is A (n := n) (c := c) (p := i * C) (q := i1 * C) (by omega) (by omega) hc
  rw [show i1 * C - i * C = C by omega] at hcut
  generalize i1 * C = q at *
  generalize i * C = p at *
  clear hle hle2 hpq hi1 hi
  go_enter Tryd.func36, Tryd.ntmps36
  go_wp2_with fail
  go_ret
  exact ⟨rfl, below_new w _⟩

end Go.Proofs.YtodmcojcmihooaaDoor
