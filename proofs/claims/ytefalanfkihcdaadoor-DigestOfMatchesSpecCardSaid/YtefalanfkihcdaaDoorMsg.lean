/-
  Digests of messages, walked: digest.cut, message, leafMessage, nodeMessage, Of.
-/
import Derived.Test.YtefalanfkihcdaaDoorSum
import Derived.Test.YtefalanfkihcdaaDoorPut
import Derived.Test.YtefalanfkihcdaaDoorWBytes
namespace Go.Proofs.YtefalanfkihcdaaDoor
open Go.RowKit
set_option linter.unusedVariables false

def cutD (b : List UInt8) : List UInt8 := (sha b).take 16
theorem cutD_len (b : List UInt8) : (cutD b).length = 16 := by unfold cutD; rw [List.length_take, sha_len]; omega
/-- The input of a digest: a tag and the encodings of the parts. -/
def msgB (t : UInt8) (ps : List (List UInt8)) : List UInt8 := t :: ps.flatMap encB
def leafIn (d : List UInt8) : List UInt8 := msgB 1 [d]
def nodeIn (x y : List UInt8) : List UInt8 := msgB 2 [x, y]
def leafD (d : List UInt8) : List UInt8 := cutD (leafIn d)
def nodeD (x y : List UInt8) : List UInt8 := cutD (nodeIn x y)

theorem range_take {w : World} {g n : Nat} {t : TypeId} {z d : List UInt8} (h : Blk w g t (z.map bv)) (hd : d = z.take n) : w.rangeAt g 0 (d.map bv) := fun j v hv => by
  rw [h.cell, Nat.zero_add]
  subst hd
  rw [List.map_take, List.getElem?_take] at hv
  split at hv
  · exact hv
  · cases hv

set_option maxHeartbeats 800000 in
set_option maxRecDepth 100000 in
theorem cut_any (A : Option Addr) (B c : Nat) (b : List UInt8) (w : World) (hx : Sl w B A 1 b.length (b.map bv)) (hbc : b.length ≤ c) (hb : b.length ≤ 1000000000) (hB : B ≤ w.heap.size) (hT : Tab w 1) :
    Calls Tryd.prog 35 #[.slice A b.length c] w fun e w' => e = .returned (dv (cutD b)) ∧ Below w.heap.size w w' := by
  have HX := hideIt hx
  have HT := hideIt hT
  clear hx hT
  obtain ⟨z, hz⟩ : ∃ z, z = sha b := ⟨_, rfl⟩
  have hzl : z.length = 32 := by rw [hz, sha_len]
  obtain ⟨d, hd⟩ : ∃ d, d = cutD b := ⟨_, rfl⟩
  have hdl : d.length = 16 := by rw [hd, cutD_len]
  have hdz : d = z.take 16 := by rw [hd, hz]; rfl
  have HS : Hid (∀ W, Sl W B A 1 b.length (b.map bv) → B ≤ W.heap.size → Tab W 1 → Calls Tryd.prog 11 #[.slice A b.length c] W fun e w' => e = .returned (.agg (z.map bv).toArray) ∧ Below W.heap.size W w') := by
    intro W h1 h2 h3; rw [hz]; exact sum_any A B c b W h1 hbc hb h2 h3
  have HZL := hideIt hzl
  have HDL := hideIt hdl
  have HDZ := hideIt hdz
  rw [← hd]
  clear hz hzl hd hdl hdz
  have hsl : ∀ (g : Nat) (W : World), (Instr.sliceAt 24 (.pointer (some ⟨g, 0, none⟩)) none (some (.int .i64 16)) none).run Tryd.prog W = .ok (.slice (some ⟨g, 0, none⟩) 16 32) W := fun g W => by
    kernel_rfl
  have har : ∀ (g : Nat) (W : World), (Instr.arrayAt 30 (.slice (some ⟨g, 0, none⟩) 16 32)).run Tryd.prog W = .ok (.pointer (some ⟨g, 0, none⟩)) W := fun g W => by
    kernel_rfl
  go_enter Tryd.func35, Tryd.ntmps35
  go_wp2_with (first
    | (go_at_call 11; refine (HS.out _ (HX.out.below ((Below.refl _ _).alloc hB _)) (by simp; omega) (HT.out.keep (below_new w _))).mono ?_; rintro e w1 ⟨rfl, hb1⟩; have HB1 := hideIt hb1; have hsz1 := hb1.size; simp only [World.size_alloc] at hsz1; clear hb1)
    | ((with_reducible refine at_store ?_); refine wpList_put rfl 24 (.tmp 3) (.tmp 5) rfl w1.heap.size (z.map bv) _ _ rfl rfl (Blk.new w1 24 (List.replicate 32 (.int .u8 0))) (by rw [List.length_map, HZL.out]; kernel_rfl) (by rw [List.length_map, HZL.out]; rfl) (bv_one _) ?_; intro w2 ht2 hb2; have HT2 := hideIt ht2; have HB2 := hideIt hb2; clear ht2 hb2)
    | ((with_reducible refine at_load ?_); refine wpList_load_mid rfl 30 (.tmp 7) rfl w1.heap.size 0 rfl (d.map bv) (.array 16 5) (range_take HB2.out (by rw [HDZ.out])) (by kernel_rfl) rfl (isize16 d HDL.out) ?_)
    | ((with_reducible refine at_store ?_); refine wpList_put rfl 30 (.tmp 2) (.tmp 8) rfl w.heap.size (d.map bv) _ _ rfl rfl (HT2.out.blk ((((Blk.new w 30 (List.replicate 16 (.int .u8 0))).kept HB1.out (by simp)).alloc _)) (by omega)) (by rw [List.length_map, HDL.out]; kernel_rfl) (by rw [List.length_map, HDL.out]; rfl) (bv_one _) ?_; intro w3 ht3 hb3; have HT3 := hideIt ht3; have HB3 := hideIt hb3; clear ht3 hb3))
  exact bodyPost_ret (ret_blk rfl HB3.out (.array 16 5) rfl (by kernel_rfl) rfl (by rw [List.length_map, HDL.out]; kernel_rfl)) rfl ⟨rfl, HT3.out.below (HT2.out.below ((((below_new w _).trans (HB1.out.mono (by simp))).trans ((below_new w1 _).mono (by omega)))) (by omega)) (Nat.le_refl _)⟩

end Go.Proofs.YtefalanfkihcdaaDoor
