/-
  Roots, walked: digest.Of, digest.Root.
-/
import Derived.Test.YtefalanfkihcdaaDoorNode
import Derived.Test.YtefalanfkihcdaaDoorSplit
import Derived.Test.YtefalanfkihcdaaDoorCalm
namespace Go.Proofs.YtefalanfkihcdaaDoor
open Go.RowKit
set_option linter.unusedVariables false

/-- The root of the tree of a list. -/
def rootD (l : List (List UInt8)) : List UInt8 :=
  if h : 2 ≤ l.length then nodeD (rootD (l.take (splitK l.length))) (rootD (l.drop (splitK l.length)))
  else match l with
    | [] => cutD (msgB 1 [])
    | d :: _ => leafD d
termination_by l.length
decreasing_by
  · have := splitK_spec _ h; rw [List.length_take]; omega
  · have := splitK_spec _ h; rw [List.length_drop]; omega
theorem rootD_nil : rootD [] = cutD (msgB 1 []) := by rw [rootD]; rfl
theorem rootD_one (d : List UInt8) : rootD [d] = leafD d := by rw [rootD]; rfl
theorem rootD_two (l : List (List UInt8)) (h : 2 ≤ l.length) : rootD l = nodeD (rootD (l.take (splitK l.length))) (rootD (l.drop (splitK l.length))) := by
  rw [rootD, dif_pos h]
theorem rootD_len (l : List (List UInt8)) : (rootD l).length = 16 := by
  by_cases h : 2 ≤ l.length
  · rw [rootD_two l h]; exact cutD_len _
  · match l, h with
    | [], _ => rw [rootD_nil]; exact cutD_len _
    | [d], _ => rw [rootD_one]; exact cutD_len _
    | _ :: _ :: _, h => simp at h

theorem nodeIn_len (x y : List UInt8) (hx : x.length = 16) (hy : y.length = 16) : (nodeIn x y).length ≤ 100 := by
  have h1 := enc_le ((16 : Nat) : Int) (by omega) (by omega)
  simp only [nodeIn, msgB, List.flatMap_cons, List.flatMap_nil, List.length_cons, List.length_append, List.length_nil, encB, hx, hy]
  omega
theorem leafIn_len (x : List UInt8) (hx : x.length = 16) : (leafIn x).length ≤ 100 := by
  have h1 := enc_le ((16 : Nat) : Int) (by omega) (by omega)
  simp only [leafIn, msgB, List.flatMap_cons, List.flatMap_nil, List.length_cons, List.length_append, List.length_nil, encB, hx]
  omega

theorem cut_own {w : World} {base : Nat} {v : Value} {b : List UInt8} (h : w.ownsRow base 5 1 v b.length (b.map bv)) (hb : b.length ≤ 1000000000) (hT : Tab w 1) :
    Calls Tryd.prog 35 #[v] w fun e w' => e = .returned (dv (cutD b)) ∧ Below w.heap.size w w' := by
  obtain ⟨A, c, rfl, h1, h2⟩ := own_form h
  exact cut_any A w.heap.size c b w (Sl.of_own h) h1 hb (Nat.le_refl _) hT

set_option maxHeartbeats 400000 in
set_option maxRecDepth 100000 in
theorem of_any (A : Option Addr) (B c : Nat) (t : Int) (ps : List ByteArray) (w : World) (hx : Sl w B A 1 ps.length (ps.map Value.string)) (hps : ps.length ≤ 1000) (hs : ∀ s ∈ ps, s.size ≤ 100000) (hB : B ≤ w.heap.size) (hT : Tab w 1) :
    Calls Tryd.prog 13 #[.int .i64 t, .slice A ps.length c] w fun e w' => e = .returned (dv (cutD (msgS (tagB t) ps))) ∧ Below w.heap.size w w' := by
  have HX := hideIt hx
  have HT := hideIt hT
  have HS := hideIt hs
  have hle := msgS_le (tagB t) ps hs
  have HM := hideIt (fun (W : World) (h : Sl W B A 1 ps.length (ps.map Value.string)) (hW : B ≤ W.heap.size) => message_any A B c t ps W h hps hs hW)
  obtain ⟨b, hb⟩ : ∃ b, b = msgS (tagB t) ps := ⟨_, rfl⟩
  rw [← hb] at hle HM ⊢
  obtain ⟨d, hd⟩ : ∃ d, d = cutD b := ⟨_, rfl⟩
  have HDL : Hid (d.length = 16) := by rw [hd]; exact cutD_len b
  have HC := hideIt (fun (W : World) (base : Nat) (v : Value) (h : W.ownsRow base 5 1 v b.length (b.map bv)) (h2 : Tab W 1) => cut_own h (by omega) h2)
  rw [← hd] at HC ⊢
  clear hx hT hs hb hd
  go_enter Tryd.func13, Tryd.ntmps13
  go_wp2_with (first
    | (go_at_call 36; refine (HM.out _ (HX.out.below ((Below.refl _ _).alloc hB _)) (by simp; omega)).mono ?_; rintro e w1 ⟨v1, rfl, hown, hb1⟩; have HO := hideIt hown; have HB1 := hideIt hb1; clear hown hb1)
    | (go_at_call 35; refine (HC.out _ _ _ HO.out ((HT.out.keep (below_new w _)).keep HB1.out)).mono ?_; rintro e w2 ⟨rfl, hb2⟩; have HB2 := hideIt hb2; clear hb2)
    | ((with_reducible refine at_store ?_); refine wpList_put rfl 30 (.tmp 4) (.tmp 8) rfl w.heap.size (d.map bv) _ _ rfl rfl (((Blk.new w 30 (List.replicate 16 (.int .u8 0))).kept HB1.out (by simp)).kept HB2.out (by have := HB1.out.size; simp at this; omega)) (by rw [List.length_map, HDL.out]; kernel_rfl) (by rw [List.length_map, HDL.out]; rfl) (bv_one _) ?_; intro w3 ht3 hb3; have HT3 := hideIt ht3; have HB3 := hideIt hb3; clear ht3 hb3))
  exact bodyPost_ret (ret_blk rfl HB3.out (.array 16 5) rfl (by kernel_rfl) rfl (by rw [List.length_map, HDL.out]; kernel_rfl)) rfl ⟨rfl, HT3.out.below (((below_new w _).trans (HB1.out.mono (by simp))).trans (HB2.out.mono (by have := HB1.out.size; simp at this; omega))) (Nat.le_refl _)⟩

end Go.Proofs.YtefalanfkihcdaaDoor
