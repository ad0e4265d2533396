/-
  The walk of the law: For every byte slice of at most 3000 bytes, Sum returns the hash that the specification defines, and leaves its argument unchanged.
-/
import Derived.Test.YtefalanfkihcdaaDoorSan2
import Derived.Test.YtefalanfkihcdaaDoorRSumW
import Derived.Test.YtefalanfkihcdaaDoorOnce2
import Derived.Test.YtefalanfkihcdaaDoorRMsg
namespace Go.Proofs.YtefalanfkihcdaaDoor.digestSumMatchesSpec
open Go.RowKit
set_option linter.unusedVariables false

set_option maxHeartbeats 1000000 in
set_option maxRecDepth 100000 in
theorem walk (A0 : Option Addr) (c0 : Nat) (l0 : List UInt8) (w : World) (x0 : Sl w w.heap.size A0 1 l0.length (l0.map bv)) (m0 : l0.length ≤ c0) (k0 : c0 ≤ maxLen) (s0 : l0.length ≤ 140737488351232) (T0 : Tab w 0) (T1 : Tab w 1) :
    Calls Tryd.prog 3 #[.slice A0 l0.length c0] w fun e w' => e = .returned (.bool true) ∧ Below w.heap.size w w' := by
  have HS := hideIt (sanity_any w T1)
  by_cases hbig : 3000 < l0.length
  · clear x0 T0 T1
    go_enter Tryd.func3, Tryd.ntmps3
    go_wp2_with (go_at_call 10; refine HS.out.mono ?_; rintro e w' ⟨rfl, hb⟩; have HB := hideIt hb; clear hb)
    go_ret
    exact ⟨rfl, HB.out⟩
  · have X0 := hideIt x0
    have TT0 := hideIt T0
    have TT1 := hideIt T1
    obtain ⟨z, hz⟩ : ∃ z, z = sha l0 := ⟨_, rfl⟩
    have HZL : Hid (z.length = 32) := by rw [hz]; exact sha_len _
    have HSU := hideIt (fun (W : World) (hb : Below w.heap.size w W) => sum_any A0 w.heap.size c0 l0 W (X0.out.below hb) m0 (by omega) hb.size (TT1.out.keep hb))
    have HRS := hideIt (fun (W : World) (A : Option Addr) (c : Nat) (h : Sl W W.heap.size A 1 l0.length (l0.map bv)) (hb : Below w.heap.size w W) => refSum_any A W.heap.size c l0 W h (by omega) (Nat.le_refl _) (TT0.out.keep hb))
    rw [← hz] at HSU HRS
    have hzz := equal_bytes 24 32 (by kernel_rfl) z z HZL.out HZL.out
    rw [decide_eq_true rfl] at hzz
    have hsz : (str l0).size = l0.length := by show (str l0).data.size = _; simp [str]
    have HCV := hideIt (fun (W : World) (hb : Below w.heap.size w W) => conv_bytes (P := Tryd.prog) (T := 22) (S := 9) (e := 5) Tryd.underlying22 Tryd.underlying5 Tryd.underlying9 (c := c0) (X0.out.below hb))
    have HSZ := hideIt hsz
    clear x0 T0 T1 hz hsz
    go_enter Tryd.func3, Tryd.ntmps3
    go_wp2_with (first
      | (go_at_call 10; refine HS.out.mono ?_; rintro e w1 ⟨rfl, hb⟩; have HB1 := hideIt hb; have hcv1 := HCV.out w1 hb; clear hb)
      | (go_at_call 11; refine (HSU.out _ HB1.out).mono ?_; rintro e w2 ⟨rfl, hb⟩; have HB2 := hideIt (HB1.out.trans (hb.mono HB1.out.size)); clear hb hcv1)
      | ((with_reducible refine at_store ?_); refine wpList_put rfl 24 (.tmp 5) (.tmp 14) rfl w2.heap.size (z.map bv) _ _ rfl rfl (Blk.new w2 24 (List.replicate 32 (Value.int .u8 0))) (by rw [List.length_map, HZL.out]; kernel_rfl) (by rw [List.length_map, HZL.out]; rfl) (bv_one _) ?_; intro w3 ht3 hb3; have HT3 := hideIt ht3; have HB3 := hideIt hb3; clear ht3 hb3))
    have HBW := hideIt (HT3.out.below (HB2.out.alloc HB2.out.size _) HB2.out.size)
    refine once_begin (fun W' => Blk W' w2.heap.size 24 (z.map bv)) 6 (by kernel_rfl) ?_
    refine wpAnyU_move 0 ?_ rfl (by kernel_rfl) (by kernel_rfl) (by kernel_rfl) (by kernel_rfl) (fun _ _ _ h => h) (by kernel_rfl) ?_ (fun _ => HB3.out) ?_
    rotate_left
    · intro W'; go_simp; first | done | with_reducible rfl
    refine wpAnyU_move 1 ?_ rfl (by kernel_rfl) (by kernel_rfl) (by kernel_rfl) (by kernel_rfl) (fun _ _ _ h => h) (by kernel_rfl) ?_ (fun _ => HB3.out) ?_
    rotate_left
    · intro W'; go_simp; first | done | with_reducible rfl
    refine wpAnyU_take 2 (.agg (z.map bv).toArray) rfl (by kernel_rfl) (by kernel_rfl) (by kernel_rfl) (by kernel_rfl) (by kernel_rfl) (fun _ _ _ h => h) (by kernel_rfl) (fun W' hW' => exec_load_blk rfl rfl hW' (.array 32 5) (by kernel_rfl) rfl (by rw [List.length_map, HZL.out]; kernel_rfl)) HB3.out ?_
    refine wpAnyU_move 3 ?_ rfl (by kernel_rfl) (by kernel_rfl) (by kernel_rfl) (by kernel_rfl) (fun _ _ _ h => h) (by kernel_rfl) ?_ (fun _ => HB3.out) ?_
    rotate_left
    · intro W'; go_simp; first | done | with_reducible rfl
    have hby := Lib.run_convert_string_bytes w3.drew 9 22 5 ⟨l0.toArray⟩ Tryd.underlying9 Tryd.underlying22 Tryd.underlying5
    refine wpAnyU_one 4 (by kernel_rfl) rfl (fun K hK => ?_)
    go_wp2_with fail
    refine hK _ _ (fun _ => HB3.out.kept (((Below.refl w3.heap.size w3).drew).trans (below_bytes w3.drew _ _)) HB3.out.lt) ?_
    clear hK K hby
    obtain ⟨w4, hw4⟩ : ∃ W, W = Lib.bytesWorld w3.drew 5 ⟨l0.toArray⟩ := ⟨_, rfl⟩
    have HS4 : Hid (Sl w4 w4.heap.size (some ⟨w3.drew.heap.size, 0, none⟩) 1 l0.length (l0.map bv)) := by
      rw [hw4]
      exact ⟨by simp, fun _ => ⟨_, _, rfl, by rw [Lib.bytesWorld_size]; omega, fun j u hu => by have := bytes_new w3.drew 5 ⟨l0.toArray⟩ j u hu; rwa [addr_add] at this⟩⟩
    have HB4 : Hid (Below w.heap.size w w4) := by rw [hw4]; exact HBW.out.trans (((Below.refl _ _).drew).trans ((below_bytes w3.drew _ _).mono HBW.out.size))
    have HK4 : Hid (Blk w4 w2.heap.size 24 (z.map bv)) := by rw [hw4]; exact HB3.out.kept (((Below.refl w3.heap.size w3).drew).trans (below_bytes w3.drew _ _)) HB3.out.lt
    rw [← hw4]
    clear hw4
    refine wpAnyU_one 5 (by kernel_rfl) rfl (fun K hK => ?_)
    go_wp2_with (go_at_call 12; refine (HRS.out _ _ _ HS4.out HB4.out).mono ?_; rintro e w5 ⟨rfl, hb⟩; have HB45 := hideIt hb; have HB5 := hideIt (HB4.out.trans (hb.mono HB4.out.size)); clear hb)
    refine hK _ _ (fun _ => HK4.out.kept HB45.out HK4.out.lt) ?_
    clear hK K
    refine wpAnyU_at (by kernel_rfl) rfl (fun K hK => ?_)
    go_wp2_with fail
    refine wpAnyU_move 7 ?_ rfl (by kernel_rfl) (by kernel_rfl) (by kernel_rfl) (by kernel_rfl) (fun _ _ _ h => h) (by kernel_rfl) ?_ (fun _ => trivial) ?_
    rotate_left
    · intro W'; go_simp; first | done | with_reducible rfl
    refine wpAnyU_move 8 ?_ rfl (by kernel_rfl) (by kernel_rfl) (by kernel_rfl) (by kernel_rfl) (fun _ _ _ h => h) (by kernel_rfl) ?_ (fun _ => trivial) ?_
    rotate_left
    · intro W'; go_simp; first | done | with_reducible rfl
    refine wpAnyU_move 9 ?_ rfl (by kernel_rfl) (by kernel_rfl) (by kernel_rfl) (by kernel_rfl) (fun _ _ _ h => h) (by kernel_rfl) ?_ (fun _ => trivial) ?_
    rotate_left
    · intro W'; go_simp; first | done | with_reducible rfl
    refine wpAnyU_move 11 ?_ rfl (by kernel_rfl) (by kernel_rfl) (by kernel_rfl) (by kernel_rfl) (fun _ _ _ h => h) (by kernel_rfl) ?_ (fun _ => trivial) ?_
    rotate_left
    · intro W'; go_simp; first | done | with_reducible rfl
    have hcv5 := HCV.out w5 HB5.out
    refine wpAnyU_one 10 (by kernel_rfl) rfl (fun K hK => ?_)
    go_wp2_with fail
    refine hK _ _ (fun _ => trivial) ?_
    clear hK K
    refine wpAnyU_move 12 ?_ rfl (by kernel_rfl) (by kernel_rfl) (by kernel_rfl) (by kernel_rfl) (fun _ _ _ h => h) (by kernel_rfl) ?_ (fun _ => trivial) ?_
    rotate_left
    · intro W'; go_simp; first | done | with_reducible rfl
    refine wpAnyU_move 13 ?_ rfl (by kernel_rfl) (by kernel_rfl) (by kernel_rfl) (by kernel_rfl) (fun _ _ _ h => h) (by kernel_rfl) ?_ (fun _ => trivial) ?_
    rotate_left
    · intro W'; go_simp; first | done | with_reducible rfl
    refine wpAnyU_move 14 ?_ rfl (by kernel_rfl) (by kernel_rfl) (by kernel_rfl) (by kernel_rfl) (fun _ _ _ h => h) (by kernel_rfl) ?_ (fun _ => trivial) ?_
    rotate_left
    · intro W'; go_simp; first | done | with_reducible rfl
    refine wpAnyU_done (by kernel_rfl) ?_
    go_wp2
    go_ret
    exact ⟨rfl, HB5.out⟩

end Go.Proofs.YtefalanfkihcdaaDoor.digestSumMatchesSpec
