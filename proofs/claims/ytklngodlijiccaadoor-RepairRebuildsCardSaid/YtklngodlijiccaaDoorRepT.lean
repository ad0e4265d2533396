/-
  The reference's Reads and better, walked.
-/
import Derived.Test.YtklngodlijiccaaDoorRepS
namespace Go.Proofs.YtklngodlijiccaaDoor
open Go.RowKit
set_option linter.unusedVariables false
set_option linter.unusedSimpArgs false

/-- Terms of a plan that is an argument. -/
abbrev zc (t : Int × Int) : List Value := [.int .i64 t.1, .int .i64 t.2]
abbrev zcs (l : List (Int × Int)) : List Value := l.flatMap zc
/-- Terms as whole numbers. -/
abbrev zt (L : List (Nat × Nat)) : List (Int × Int) := L.map fun t => ((t.1 : Int), (t.2 : Int))
theorem zcs_tcs : ∀ L : List (Nat × Nat), zcs (zt L) = tcs L
  | [] => rfl
  | t :: L => by
    have := zcs_tcs L
    simp only [zcs, zt, tcs, List.map_cons, List.flatMap_cons] at this ⊢
    rw [this]
theorem zcs_len (l : List (Int × Int)) : (zcs l).length = l.length * 2 := by
  induction l with
  | nil => rfl
  | cons t r ih => rw [show zcs (t :: r) = zc t ++ zcs r from rfl, List.length_append, ih]; simp only [List.length_cons, List.length_nil]; omega
theorem zcs_at : ∀ (l : List (Int × Int)) (k : Nat) (h : k < l.length), (zcs l)[k * 2]? = some (.int .i64 l[k].1) ∧ (zcs l)[k * 2 + 1]? = some (.int .i64 l[k].2)
  | t :: r, 0, _ => ⟨rfl, rfl⟩
  | t :: r, k + 1, h => by
    have := zcs_at r k (by simp only [List.length_cons] at h; omega)
    rw [show (k + 1) * 2 = k * 2 + 2 by omega]
    exact this
theorem Sl.zat {w : World} {B : Nat} {A : Option Addr} {l : List (Int × Int)} (h : Sl w B A 2 l.length (zcs l)) {k : Nat} (hk : k < l.length) : ∃ b off, A = some ⟨b, off, none⟩ ∧ b < B ∧ w.cell? ⟨b, off + k * 2, none⟩ = some (.int .i64 l[k].1) ∧ w.cell? ⟨b, off + k * 2 + 1, none⟩ = some (.int .i64 l[k].2) := by
  obtain ⟨b, off, e, hb, hc⟩ := h.2 (by rw [zcs_len]; omega)
  obtain ⟨h1, h2⟩ := zcs_at l k hk
  exact ⟨b, off, e, hb, hc _ _ h1, by rw [Nat.add_assoc]; exact hc _ _ h2⟩
set_option maxRecDepth 100000 in
theorem rreads_any (u : Int) (l : List (Int × Int)) (hl : l.length ≤ 1000) (A : Option Addr) (c : Nat) (w : World) (h : Sl w w.heap.size A 2 l.length (zcs l)) :
    Calls Tryd.prog 19 #[.agg #[.int .i64 u, .slice A l.length c]] w (IntV w (l.map (·.1))) := by
  obtain ⟨W, hW⟩ : ∃ W, W = w.alloc (.cells #[.int .i64 u, .slice A l.length c] 30) := ⟨_, rfl⟩
  have hbw : Below w.heap.size w W := by rw [hW]; exact below_new w _
  have HB := hideIt hbw
  have HBK := hideIt (show Blk W w.heap.size 30 [.int .i64 u, .slice A l.length c] by rw [hW]; exact Blk.new w 30 [.int .i64 u, .slice A l.length c])
  have HS := hideIt ((h.below hbw).wide hbw.size)
  have HWE := hideIt hW
  have HO := hideIt (World.ownsRow_nil W W.heap.size 3 1)
  clear hbw h hW
  go_enter Tryd.func19, Tryd.ntmps19
  go_wp2_with fail
  rw [← HWE.out]
  go_loopg [3, 4] l.length (fun gk s3 s4 wr => ∃ k : Nat, k + gk = l.length ∧ s4 = .int .i64 (k : Int) ∧ Aside (wr.ownsRow W.heap.size 3 1 s3 k (((l.take k).map (·.1)).map iv)) ∧ Aside (Below W.heap.size W wr))
  case atStart => exact ⟨0, by omega, rfl, HO.out, Below.refl _ _⟩
  case round =>
    obtain ⟨k, hk, rfl, HO2, HL⟩ := hrel
    obtain ⟨w4, rfl⟩ : ∃ x, x = wr := ⟨wr, rfl⟩
    have c1 : w4.cell? ⟨w.heap.size, 1, none⟩ = some (.slice A l.length c) := (HBK.out.kept HL.out HBK.out.lt).cell 1
    by_cases hlt : k < l.length
    · obtain ⟨b, o, rfl, hb, hc0, hc1⟩ := (HS.out.below HL.out).zat hlt
      have hinc := inc_c 3 k (by omega)
      have hki : (k : Int) < (l.length : Int) := by omega
      have HT := hideIt (take_snoc l k hlt)
      have HSZ := hideIt HL.out.size
      generalize l[k] = t at *
      obtain ⟨A3, c3v, hv3, _, _⟩ := own_form HO2.out
      subst hv3
      clear hb
      go_wp2_with ((with_reducible refine at_append ?_); refine wpList_apI (y := t.1) (n := k) (us := (l.take k).map (·.1)) rfl (.tmp 12) (.tmp 19) rfl rfl HO2.out rfl (by omega) HSZ.out ?_; intro v8 w8 HO8 HG8 HA8 HB8)
      go_roundg (gk - 1)
      case measure => omega
      case rel => exact ⟨k + 1, by omega, by go_num, by rw [HT.out, List.map_append]; exact HO8.out, HL.out.trans HB8.out⟩
    · have hki : ¬ (k : Int) < (l.length : Int) := by omega
      obtain rfl : k = l.length := by omega
      go_wp2_with fail
      go_ret
      refine ⟨_, rfl, ?_, HB.out.trans (HL.out.mono HB.out.size)⟩
      have ho := HO2.out
      rw [List.take_of_length_le (Nat.le_refl _)] at ho
      rw [List.length_map]
      exact ⟨ho.1, ho.2.imp id fun ⟨g, cp, cur, q1, q2, q3⟩ => ⟨g, cp, cur, q1, Nat.le_trans HB.out.size q2, q3⟩⟩
end Go.Proofs.YtklngodlijiccaaDoor
