/-
  digest.clash, walked: where there is no clash to look for.
-/
import Derived.Test.YtkjnimcapjjfdaaDoorClash2
import Derived.Test.YtkjnimcapjjfdaaDoorBEq
namespace Go.Proofs.YtkjnimcapjjfdaaDoor
open Go.RowKit
set_option linter.unusedVariables false

theorem clash_start (a b : List UInt8) (w : World) : Below w.heap.size w (((((w.alloc (.cells (a.map bv).toArray 30)).alloc (.cells (b.map bv).toArray 30)).alloc (.cells #[.func (.func 35) #[] #[]] 57)).alloc (.cells #[.slice none 0 0] 54)).alloc (.cells #[.slice none 0 0] 54)) ∧ (((w.alloc (.cells (a.map bv).toArray 30)).alloc (.cells (b.map bv).toArray 30)).alloc (.cells #[.func (.func 35) #[] #[]] 57)).heap.size = w.heap.size + 1 + 1 + 1 ∧ Blk (((((w.alloc (.cells (a.map bv).toArray 30)).alloc (.cells (b.map bv).toArray 30)).alloc (.cells #[.func (.func 35) #[] #[]] 57)).alloc (.cells #[.slice none 0 0] 54)).alloc (.cells #[.slice none 0 0] 54)) (w.heap.size) 30 (a.map bv) ∧ Blk (((((w.alloc (.cells (a.map bv).toArray 30)).alloc (.cells (b.map bv).toArray 30)).alloc (.cells #[.func (.func 35) #[] #[]] 57)).alloc (.cells #[.slice none 0 0] 54)).alloc (.cells #[.slice none 0 0] 54)) (w.heap.size + 1) 30 (b.map bv) ∧ I1 (w.heap.size + 1 + 1 + 1) (((((w.alloc (.cells (a.map bv).toArray 30)).alloc (.cells (b.map bv).toArray 30)).alloc (.cells #[.func (.func 35) #[] #[]] 57)).alloc (.cells #[.slice none 0 0] 54)).alloc (.cells #[.slice none 0 0] 54)) (w.heap.size + 1 + 1) (w.heap.size + 1 + 1 + 1) (w.heap.size + 1 + 1 + 1 + 1) [] (((((w.alloc (.cells (a.map bv).toArray 30)).alloc (.cells (b.map bv).toArray 30)).alloc (.cells #[.func (.func 35) #[] #[]] 57)).alloc (.cells #[.slice none 0 0] 54)).alloc (.cells #[.slice none 0 0] 54)) := by
  have s1 : (w.alloc (.cells (a.map bv).toArray 30)).heap.size = w.heap.size + 1 := by simp
  have s2 : ((w.alloc (.cells (a.map bv).toArray 30)).alloc (.cells (b.map bv).toArray 30)).heap.size = w.heap.size + 1 + 1 := by simp
  have s3 : (((w.alloc (.cells (a.map bv).toArray 30)).alloc (.cells (b.map bv).toArray 30)).alloc (.cells #[.func (.func 35) #[] #[]] 57)).heap.size = w.heap.size + 1 + 1 + 1 := by simp
  have s4 : ((((w.alloc (.cells (a.map bv).toArray 30)).alloc (.cells (b.map bv).toArray 30)).alloc (.cells #[.func (.func 35) #[] #[]] 57)).alloc (.cells #[.slice none 0 0] 54)).heap.size = w.heap.size + 1 + 1 + 1 + 1 := by simp
  have s5 : (((((w.alloc (.cells (a.map bv).toArray 30)).alloc (.cells (b.map bv).toArray 30)).alloc (.cells #[.func (.func 35) #[] #[]] 57)).alloc (.cells #[.slice none 0 0] 54)).alloc (.cells #[.slice none 0 0] 54)).heap.size = w.heap.size + 1 + 1 + 1 + 1 + 1 := by simp
  refine ⟨((((below_new w _).alloc (by omega) _).alloc (by omega) _).alloc (by omega) _).alloc (by omega) _, s3, ((((Blk.new w 30 (a.map bv)).alloc _).alloc _).alloc _).alloc _, ?_, Below.refl _ _, by omega, ?_, ⟨.slice none 0 0, ?_, [], ⟨rfl, .inl ⟨rfl, rfl⟩⟩, fun k u m hu _ => by simp at hu⟩, ?_⟩
  · exact (((s1 ▸ Blk.new (w.alloc (.cells (a.map bv).toArray 30)) 30 (b.map bv) : Blk _ (w.heap.size + 1) _ _).alloc _).alloc _).alloc _
  · exact ((s2 ▸ Blk.new ((w.alloc (.cells (a.map bv).toArray 30)).alloc (.cells (b.map bv).toArray 30)) 57 [.func (.func 35) #[] #[]] : Blk _ (w.heap.size + 1 + 1) _ _).alloc _).alloc _
  · exact (s3 ▸ Blk.new (((w.alloc (.cells (a.map bv).toArray 30)).alloc (.cells (b.map bv).toArray 30)).alloc (.cells #[.func (.func 35) #[] #[]] 57)) 54 [.slice none 0 0] : Blk _ (w.heap.size + 1 + 1 + 1) _ _).alloc _
  · exact s4 ▸ Blk.new ((((w.alloc (.cells (a.map bv).toArray 30)).alloc (.cells (b.map bv).toArray 30)).alloc (.cells #[.func (.func 35) #[] #[]] 57)).alloc (.cells #[.slice none 0 0] 54)) 54 [.slice none 0 0]

theorem I1.next {B gH g1 g2 : Nat} {w0 W : World} {ms : List (List UInt8)} {v1 : Value} (h : I1 B w0 gH g1 g2 ms W) (hc : CellMsgs W B g1 v1 ms) : I2 B w0 gH g1 g2 W.heap.size v1 ms [] W ∧ ∀ k, v1.ownBlock = some k → k < W.heap.size := by
  refine ⟨⟨h.bel, Nat.le_refl _, h.hash, hc, ⟨.slice none 0 0, h.two, [], ⟨rfl, .inl ⟨rfl, rfl⟩⟩, fun k u m hu _ => by simp at hu⟩⟩, fun k hk => ?_⟩
  obtain ⟨_, xs, ho, _⟩ := hc
  exact (ho.lt k hk).2

set_option maxHeartbeats 1600000 in
set_option maxRecDepth 100000 in
theorem clash_no (a b : List UInt8) (ha : a.length = 16) (hb : b.length = 16) (n i : Int) (hn : n ≤ 9223372036854775807) (A A' : Option Addr) (c c' : Nat) (ds es : List (List UInt8)) (w : World) (hD : Ds w w.heap.size A ds.length ds) (hE : Ds w w.heap.size A' es.length es) (hp : ds.length ≤ 1000000000) (hq : es.length ≤ 1000000000) (hT : Tab w 1)
    (hno : (fitB n i ds && (fitB n i es && decide (rootF n i ds a = rootF n i es b))) = false) :
    Calls Tryd.prog 51 #[.int .i64 n, .int .i64 i, dv a, dv b, .slice A ds.length c, .slice A' es.length c', (.func (.func 35) #[] #[])] w fun e w' => e = .returned (.tuple #[.slice none 0 0, .slice none 0 0, .bool false]) ∧ Below w.heap.size w w' := by
  obtain ⟨hbe, hs3, hka, hkb, hi0⟩ := clash_start a b w
  have hT1 := hT.1
  have hB0 : w.heap.size ≤ w.heap.size + 1 + 1 + 1 := by omega
  have HC1 := hideIt (fun (W : World) (hI : I1 (w.heap.size + 1 + 1 + 1) (((((w.alloc (.cells (a.map bv).toArray 30)).alloc (.cells (b.map bv).toArray 30)).alloc (.cells #[.func (.func 35) #[] #[]] 57)).alloc (.cells #[.slice none 0 0] 54)).alloc (.cells #[.slice none 0 0] 54)) (w.heap.size + 1 + 1) (w.heap.size + 1 + 1 + 1) (w.heap.size + 1 + 1 + 1 + 1) [] W) (hW : Below w.heap.size w W) => first_all (w.heap.size + 1 + 1 + 1) (((((w.alloc (.cells (a.map bv).toArray 30)).alloc (.cells (b.map bv).toArray 30)).alloc (.cells #[.func (.func 35) #[] #[]] 57)).alloc (.cells #[.slice none 0 0] 54)).alloc (.cells #[.slice none 0 0] 54)) (w.heap.size + 1 + 1) (w.heap.size + 1 + 1 + 1) (w.heap.size + 1 + 1 + 1 + 1) (by omega) (Nat.le_refl _) (by omega) a ha n i hn A c ds W hp ((hD.below hW (Nat.le_refl _)).wide hB0) (hT.keep hW) hI)
  have HC2 := hideIt (fun (W : World) (v1 : Value) (ms1 : List (List UInt8)) (hlt : ∀ k, v1.ownBlock = some k → k < W.heap.size) (hI : I2 (w.heap.size + 1 + 1 + 1) (((((w.alloc (.cells (a.map bv).toArray 30)).alloc (.cells (b.map bv).toArray 30)).alloc (.cells #[.func (.func 35) #[] #[]] 57)).alloc (.cells #[.slice none 0 0] 54)).alloc (.cells #[.slice none 0 0] 54)) (w.heap.size + 1 + 1) (w.heap.size + 1 + 1 + 1) (w.heap.size + 1 + 1 + 1 + 1) W.heap.size v1 ms1 [] W) (hW : Below w.heap.size w W) => second_all (w.heap.size + 1 + 1 + 1) (((((w.alloc (.cells (a.map bv).toArray 30)).alloc (.cells (b.map bv).toArray 30)).alloc (.cells #[.func (.func 35) #[] #[]] 57)).alloc (.cells #[.slice none 0 0] 54)).alloc (.cells #[.slice none 0 0] 54)) (w.heap.size + 1 + 1) (w.heap.size + 1 + 1 + 1) (w.heap.size + 1 + 1 + 1 + 1) W.heap.size v1 ms1 (by omega) (by omega) (by have := hI.hash.lt; omega) (by omega) hlt b hb n i hn A' c' es W hq ((hE.below hW (Nat.le_refl _)).wide hB0) (hT.keep hW) hI)
  have hxl := rootF_len n i ds a
  have hyl := rootF_len n i es b
  generalize rootF n i ds a = x at *
  generalize rootF n i es b = y at *
  generalize insF n i ds a = ms at *
  generalize insF n i es b = ns at *
  generalize fitB n i ds = f1 at *
  generalize fitB n i es = f2 at *
  have HEQ := hideIt (equal_digest x y hxl hyl)
  have HX := hideIt hxl
  have HY := hideIt hyl
  have HA := hideIt ha
  have HB := hideIt hb
  have HBE := hideIt hbe
  have HKA := hideIt hka
  have HKB := hideIt hkb
  have HI0 := hideIt hi0
  clear hxl hyl ha hb hbe hka hkb hi0 hD hE hT hs3
  cases f1 with
  | false =>
    clear hno
    go_enter Tryd.func51, Tryd.ntmps51
    go_wp2_with (first
      | ((with_reducible refine at_load ?_); refine wpList_get rfl 30 (.tmp 9) rfl (w.heap.size) (a.map bv) 30 (.array 16 5) rfl HKA.out (by kernel_rfl) rfl (isize16 _ HA.out) ?_)
      | (go_at_call 48; refine (HC1.out _ HI0.out HBE.out).mono ?_; rintro e w2 ⟨rfl, hi, hk⟩; have HI1 := hideIt hi; have HE1 := hideIt (HBE.out.trans (hk.below.mono hB0)); have HKB1 := hideIt (HKB.out.kept hi.bel (by omega)); clear hi hk HC1 HI0 HBE HKA HKB)
      | ((with_reducible refine at_store ?_); refine wpList_put rfl 30 (.tmp 19) (.tmp 31) rfl w2.heap.size (x.map bv) _ _ rfl rfl (Blk.new w2 30 (List.replicate 16 (Value.int .u8 0))) (by rw [List.length_map, HX.out]; kernel_rfl) (by rw [List.length_map, HX.out]; rfl) (bv_one _) ?_; intro w3 ht hb; have hbb : Below w2.heap.size w2 w3 := ht.below (below_new w2 (.cells (List.replicate 16 (Value.int .u8 0)).toArray 30)) (Nat.le_refl _); have HR1 := hideIt hb; have HI13 := hideIt (HI1.out.keepT (KeepT.of_below hbb HI1.out.size)); have HE3 := hideIt (HE1.out.trans (hbb.mono HE1.out.size)); have HKB3 := hideIt (HKB1.out.kept hbb HKB1.out.lt); obtain ⟨v1, hcm⟩ := HI13.out.one; obtain ⟨hI2, hlt⟩ := I1.next HI13.out hcm; have HI23 := hideIt hI2; have HLT := hideIt hlt; clear HI1 HE1 HKB1 hcm hI2 hlt; clear ht hb hbb)
      | ((with_reducible refine at_load ?_); refine wpList_get rfl 30 (.tmp 10) rfl (w.heap.size + 1) (b.map bv) 30 (.array 16 5) rfl HKB3.out (by kernel_rfl) rfl (isize16 _ HB.out) ?_)
      | (go_at_call 48; refine (HC2.out _ _ _ HLT.out HI23.out HE3.out).mono ?_; rintro e w4 ⟨rfl, hi, hk⟩; have HI4 := hideIt hi; have HE4 := hideIt (HE3.out.trans (hk.below.mono hB0)); have HR14 := hideIt (HR1.out.keepT hk (by decide)); clear hi hk HC2 HI23 HE3 HKB3)
      | ((with_reducible refine at_store ?_); refine wpList_put rfl 30 (.tmp 21) (.tmp 40) rfl w4.heap.size (y.map bv) _ _ rfl rfl (Blk.new w4 30 (List.replicate 16 (Value.int .u8 0))) (by rw [List.length_map, HY.out]; kernel_rfl) (by rw [List.length_map, HY.out]; rfl) (bv_one _) ?_; intro w5 ht hb; have hbb : Below w4.heap.size w4 w5 := ht.below (below_new w4 (.cells (List.replicate 16 (Value.int .u8 0)).toArray 30)) (Nat.le_refl _); have HR25 := hideIt hb; have HR15 := hideIt (HR14.out.kept hbb HR14.out.lt); have HI5 := hideIt (HI4.out.keepT (KeepT.of_below hbb ((show _ ≤ _ by have h9 := HI4.out.hash.lt; have h8 := HI4.out.size; omega)))); have HE5 := hideIt (HE4.out.trans (hbb.mono HE4.out.size)); clear HI4 HE4 HR14; clear ht hb hbb))
    go_ret3
    exact ⟨rfl, HE5.out⟩
  | true =>
    cases f2 with
    | false =>
      clear hno
      go_enter Tryd.func51, Tryd.ntmps51
      go_wp2_with (first
        | ((with_reducible refine at_load ?_); refine wpList_get rfl 30 (.tmp 9) rfl (w.heap.size) (a.map bv) 30 (.array 16 5) rfl HKA.out (by kernel_rfl) rfl (isize16 _ HA.out) ?_)
        | (go_at_call 48; refine (HC1.out _ HI0.out HBE.out).mono ?_; rintro e w2 ⟨rfl, hi, hk⟩; have HI1 := hideIt hi; have HE1 := hideIt (HBE.out.trans (hk.below.mono hB0)); have HKB1 := hideIt (HKB.out.kept hi.bel (by omega)); clear hi hk HC1 HI0 HBE HKA HKB)
        | ((with_reducible refine at_store ?_); refine wpList_put rfl 30 (.tmp 19) (.tmp 31) rfl w2.heap.size (x.map bv) _ _ rfl rfl (Blk.new w2 30 (List.replicate 16 (Value.int .u8 0))) (by rw [List.length_map, HX.out]; kernel_rfl) (by rw [List.length_map, HX.out]; rfl) (bv_one _) ?_; intro w3 ht hb; have hbb : Below w2.heap.size w2 w3 := ht.below (below_new w2 (.cells (List.replicate 16 (Value.int .u8 0)).toArray 30)) (Nat.le_refl _); have HR1 := hideIt hb; have HI13 := hideIt (HI1.out.keepT (KeepT.of_below hbb HI1.out.size)); have HE3 := hideIt (HE1.out.trans (hbb.mono HE1.out.size)); have HKB3 := hideIt (HKB1.out.kept hbb HKB1.out.lt); obtain ⟨v1, hcm⟩ := HI13.out.one; obtain ⟨hI2, hlt⟩ := I1.next HI13.out hcm; have HI23 := hideIt hI2; have HLT := hideIt hlt; clear HI1 HE1 HKB1 hcm hI2 hlt; clear ht hb hbb)
        | ((with_reducible refine at_load ?_); refine wpList_get rfl 30 (.tmp 10) rfl (w.heap.size + 1) (b.map bv) 30 (.array 16 5) rfl HKB3.out (by kernel_rfl) rfl (isize16 _ HB.out) ?_)
        | (go_at_call 48; refine (HC2.out _ _ _ HLT.out HI23.out HE3.out).mono ?_; rintro e w4 ⟨rfl, hi, hk⟩; have HI4 := hideIt hi; have HE4 := hideIt (HE3.out.trans (hk.below.mono hB0)); have HR14 := hideIt (HR1.out.keepT hk (by decide)); clear hi hk HC2 HI23 HE3 HKB3)
        | ((with_reducible refine at_store ?_); refine wpList_put rfl 30 (.tmp 21) (.tmp 40) rfl w4.heap.size (y.map bv) _ _ rfl rfl (Blk.new w4 30 (List.replicate 16 (Value.int .u8 0))) (by rw [List.length_map, HY.out]; kernel_rfl) (by rw [List.length_map, HY.out]; rfl) (bv_one _) ?_; intro w5 ht hb; have hbb : Below w4.heap.size w4 w5 := ht.below (below_new w4 (.cells (List.replicate 16 (Value.int .u8 0)).toArray 30)) (Nat.le_refl _); have HR25 := hideIt hb; have HR15 := hideIt (HR14.out.kept hbb HR14.out.lt); have HI5 := hideIt (HI4.out.keepT (KeepT.of_below hbb ((show _ ≤ _ by have h9 := HI4.out.hash.lt; have h8 := HI4.out.size; omega)))); have HE5 := hideIt (HE4.out.trans (hbb.mono HE4.out.size)); clear HI4 HE4 HR14; clear ht hb hbb))
      go_ret3
      exact ⟨rfl, HE5.out⟩
    | true =>
      have heq := HEQ.out
      have hxy : decide (x = y) = false := by simpa using hno
      rw [hxy] at heq
      clear hno hxy
      go_enter Tryd.func51, Tryd.ntmps51
      go_wp2_with (first
        | ((with_reducible refine at_load ?_); refine wpList_get rfl 30 (.tmp 9) rfl (w.heap.size) (a.map bv) 30 (.array 16 5) rfl HKA.out (by kernel_rfl) rfl (isize16 _ HA.out) ?_)
        | (go_at_call 48; refine (HC1.out _ HI0.out HBE.out).mono ?_; rintro e w2 ⟨rfl, hi, hk⟩; have HI1 := hideIt hi; have HE1 := hideIt (HBE.out.trans (hk.below.mono hB0)); have HKB1 := hideIt (HKB.out.kept hi.bel (by omega)); clear hi hk HC1 HI0 HBE HKA HKB)
        | ((with_reducible refine at_store ?_); refine wpList_put rfl 30 (.tmp 19) (.tmp 31) rfl w2.heap.size (x.map bv) _ _ rfl rfl (Blk.new w2 30 (List.replicate 16 (Value.int .u8 0))) (by rw [List.length_map, HX.out]; kernel_rfl) (by rw [List.length_map, HX.out]; rfl) (bv_one _) ?_; intro w3 ht hb; have hbb : Below w2.heap.size w2 w3 := ht.below (below_new w2 (.cells (List.replicate 16 (Value.int .u8 0)).toArray 30)) (Nat.le_refl _); have HR1 := hideIt hb; have HI13 := hideIt (HI1.out.keepT (KeepT.of_below hbb HI1.out.size)); have HE3 := hideIt (HE1.out.trans (hbb.mono HE1.out.size)); have HKB3 := hideIt (HKB1.out.kept hbb HKB1.out.lt); obtain ⟨v1, hcm⟩ := HI13.out.one; obtain ⟨hI2, hlt⟩ := I1.next HI13.out hcm; have HI23 := hideIt hI2; have HLT := hideIt hlt; clear HI1 HE1 HKB1 hcm hI2 hlt; clear ht hb hbb)
        | ((with_reducible refine at_load ?_); refine wpList_get rfl 30 (.tmp 10) rfl (w.heap.size + 1) (b.map bv) 30 (.array 16 5) rfl HKB3.out (by kernel_rfl) rfl (isize16 _ HB.out) ?_)
        | (go_at_call 48; refine (HC2.out _ _ _ HLT.out HI23.out HE3.out).mono ?_; rintro e w4 ⟨rfl, hi, hk⟩; have HI4 := hideIt hi; have HE4 := hideIt (HE3.out.trans (hk.below.mono hB0)); have HR14 := hideIt (HR1.out.keepT hk (by decide)); clear hi hk HC2 HI23 HE3 HKB3)
        | ((with_reducible refine at_store ?_); refine wpList_put rfl 30 (.tmp 21) (.tmp 40) rfl w4.heap.size (y.map bv) _ _ rfl rfl (Blk.new w4 30 (List.replicate 16 (Value.int .u8 0))) (by rw [List.length_map, HY.out]; kernel_rfl) (by rw [List.length_map, HY.out]; rfl) (bv_one _) ?_; intro w5 ht hb; have hbb : Below w4.heap.size w4 w5 := ht.below (below_new w4 (.cells (List.replicate 16 (Value.int .u8 0)).toArray 30)) (Nat.le_refl _); have HR25 := hideIt hb; have HR15 := hideIt (HR14.out.kept hbb HR14.out.lt); have HI5 := hideIt (HI4.out.keepT (KeepT.of_below hbb ((show _ ≤ _ by have h9 := HI4.out.hash.lt; have h8 := HI4.out.size; omega)))); have HE5 := hideIt (HE4.out.trans (hbb.mono HE4.out.size)); clear HI4 HE4 HR14; clear ht hb hbb)
        | ((with_reducible refine at_load ?_); refine wpList_get_g (by kernel_rfl) 30 (.tmp 19) rfl (w2.heap.size) (x.map bv) 30 (.array 16 5) rfl HR15.out (by kernel_rfl) rfl (isize16 _ HX.out) ?_)
        | ((with_reducible refine at_load ?_); refine wpList_get_g (by kernel_rfl) 30 (.tmp 21) rfl (w4.heap.size) (y.map bv) 30 (.array 16 5) rfl HR25.out (by kernel_rfl) rfl (isize16 _ HY.out) ?_))
      go_ret3
      exact ⟨rfl, HE5.out⟩

end Go.Proofs.YtkjnimcapjjfdaaDoor
