/-
  Roots, walked: digest.Of, digest.Root.
  Roots, walked: digest.Root.
-/
import Derived.Test.YtkjnimcapjjfdaaDoorMsg
import Derived.Test.YtkjnimcapjjfdaaDoorSplit
import Derived.Test.YtkjnimcapjjfdaaDoorQuiet
import Derived.Deep.CutRange
import Derived.BigQuiet
namespace Go.Proofs.YtkjnimcapjjfdaaDoor
open Go.RowKit
set_option linter.unusedVariables false

/-- The root of the tree of a list. -/
def rootD (l : List (List UInt8)) : List UInt8 :=
  if h : 2 ≤ l.length then nodeD (rootD (l.take (splitK l.length))) (rootD (l.drop (splitK l.length)))
  else match l with
    | [] => cutD (msgB 1 [])
    | d :: _ => leafD d
termination_by l.length
decreasing_by
  · have := splitK_spec _ h; rw [List.length_take]; omega
  · have := splitK_spec _ h; rw [List.length_drop]; omega
theorem rootD_nil : rootD [] = cutD (msgB 1 []) := by rw [rootD]; rfl
theorem rootD_one (d : List UInt8) : rootD [d] = leafD d := by rw [rootD]; rfl
theorem rootD_two (l : List (List UInt8)) (h : 2 ≤ l.length) : rootD l = nodeD (rootD (l.take (splitK l.length))) (rootD (l.drop (splitK l.length))) := by
  rw [rootD, dif_pos h]
theorem rootD_len (l : List (List UInt8)) : (rootD l).length = 16 := by
  by_cases h : 2 ≤ l.length
  · rw [rootD_two l h]; exact cutD_len _
  · match l, h with
    | [], _ => rw [rootD_nil]; exact cutD_len _
    | [d], _ => rw [rootD_one]; exact cutD_len _
    | _ :: _ :: _, h => simp at h

theorem nodeIn_len (x y : List UInt8) (hx : x.length = 16) (hy : y.length = 16) : (nodeIn x y).length ≤ 100 := by
  have h1 := enc_le ((16 : Nat) : Int) (by omega) (by omega)
  simp only [nodeIn, msgB, List.flatMap_cons, List.flatMap_nil, List.length_cons, List.length_append, List.length_nil, encB, hx, hy]
  omega
theorem leafIn_len (x : List UInt8) (hx : x.length = 16) : (leafIn x).length ≤ 100 := by
  have h1 := enc_le ((16 : Nat) : Int) (by omega) (by omega)
  simp only [leafIn, msgB, List.flatMap_cons, List.flatMap_nil, List.length_cons, List.length_append, List.length_nil, encB, hx]
  omega

theorem cut_own {w : World} {base : Nat} {v : Value} {b : List UInt8} (h : w.ownsRow base 5 1 v b.length (b.map bv)) (hb : b.length ≤ 1000000000) (hT : Tab w 1) :
    Calls Tryd.prog 35 #[v] w fun e w' => e = .returned (dv (cutD b)) ∧ Below w.heap.size w w' := by
  obtain ⟨A, c, rfl, h1, h2⟩ := own_form h
  exact cut_any A w.heap.size c b w (Sl.of_own h) h1 hb (Nat.le_refl _) hT

set_option maxHeartbeats 400000 in
set_option maxRecDepth 100000 in
theorem of_any (A : Option Addr) (B c : Nat) (t : Int) (ps : List ByteArray) (w : World) (hx : Sl w B A 1 ps.length (ps.map Value.string)) (hps : ps.length ≤ 1000) (hs : ∀ s ∈ ps, s.size ≤ 100000) (hB : B ≤ w.heap.size) (hT : Tab w 1) :
    Calls Tryd.prog 13 #[.int .i64 t, .slice A ps.length c] w fun e w' => e = .returned (dv (cutD (msgS (tagB t) ps))) ∧ Below w.heap.size w w' := by
  have HX := hideIt hx
  have HT := hideIt hT
  have HS := hideIt hs
  have hle := msgS_le (tagB t) ps hs
  have HM := hideIt (fun (W : World) (h : Sl W B A 1 ps.length (ps.map Value.string)) (hW : B ≤ W.heap.size) => message_any A B c t ps W h hps hs hW)
  obtain ⟨b, hb⟩ : ∃ b, b = msgS (tagB t) ps := ⟨_, rfl⟩
  rw [← hb] at hle HM ⊢
  obtain ⟨d, hd⟩ : ∃ d, d = cutD b := ⟨_, rfl⟩
  have HDL : Hid (d.length = 16) := by rw [hd]; exact cutD_len b
  have HC := hideIt (fun (W : World) (base : Nat) (v : Value) (h : W.ownsRow base 5 1 v b.length (b.map bv)) (h2 : Tab W 1) => cut_own h (by omega) h2)
  rw [← hd] at HC ⊢
  clear hx hT hs hb hd
  go_enter Tryd.func13, Tryd.ntmps13
  go_wp2_with (first
    | (go_at_call 36; refine (HM.out _ (HX.out.below ((Below.refl _ _).alloc hB _)) (by simp; omega)).mono ?_; rintro e w1 ⟨v1, rfl, hown, hb1⟩; have HO := hideIt hown; have HB1 := hideIt hb1; clear hown hb1)
    | (go_at_call 35; refine (HC.out _ _ _ HO.out ((HT.out.keep (below_new w _)).keep HB1.out)).mono ?_; rintro e w2 ⟨rfl, hb2⟩; have HB2 := hideIt hb2; clear hb2)
    | ((with_reducible refine at_store ?_); refine wpList_put rfl 30 (.tmp 4) (.tmp 8) rfl w.heap.size (d.map bv) _ _ rfl rfl (((Blk.new w 30 (List.replicate 16 (.int .u8 0))).kept HB1.out (by simp)).kept HB2.out (by have := HB1.out.size; simp at this; omega)) (by rw [List.length_map, HDL.out]; kernel_rfl) (by rw [List.length_map, HDL.out]; rfl) (bv_one _) ?_; intro w3 ht3 hb3; have HT3 := hideIt ht3; have HB3 := hideIt hb3; clear ht3 hb3))
  exact bodyPost_ret (ret_blk rfl HB3.out (.array 16 5) rfl (by kernel_rfl) rfl (by rw [List.length_map, HDL.out]; kernel_rfl)) rfl ⟨rfl, HT3.out.below (((below_new w _).trans (HB1.out.mono (by simp))).trans (HB2.out.mono (by have := HB1.out.size; simp at this; omega))) (Nat.le_refl _)⟩

theorem flatten_take : ∀ (l : List (List UInt8)) (k : Nat), (∀ d ∈ l, d.length = 16) → (l.take k).flatten = l.flatten.take (k * 16)
  | [], k, _ => by simp
  | d :: r, 0, _ => by simp
  | d :: r, k + 1, h => by
    have hd := h d (by simp)
    rw [List.take_succ_cons, List.flatten_cons, List.flatten_cons, flatten_take r k (fun x hx => h x (by simp [hx])), List.take_append, hd, show (k + 1) * 16 - 16 = k * 16 by omega, List.take_of_length_le (l := d) (by omega)]
theorem flatten_drop : ∀ (l : List (List UInt8)) (k : Nat), (∀ d ∈ l, d.length = 16) → (l.drop k).flatten = l.flatten.drop (k * 16)
  | [], k, _ => by simp
  | d :: r, 0, _ => by simp
  | d :: r, k + 1, h => by
    have hd := h d (by simp)
    rw [List.drop_succ_cons, List.flatten_cons, flatten_drop r k (fun x hx => h x (by simp [hx])), List.drop_append, hd, show (k + 1) * 16 - 16 = k * 16 by omega, List.drop_of_length_le (l := d) (by omega), List.nil_append]
theorem Has16.below {w w' : World} {b o B : Nat} {d : List UInt8} (h : Has16 w ⟨b, o, none⟩ d) (hb : b < B) (hB : Below B w w') : Has16 w' ⟨b, o, none⟩ d :=
  ⟨h.1, fun j u hu => by have := h.2 j u hu; rw [addr_add] at this ⊢; exact (hB.cell (p := ⟨b, o + j, none⟩) hb).trans this⟩
/-- A list of digests in memory. -/
def Ds (w : World) (B : Nat) (A : Option Addr) (n : Nat) (l : List (List UInt8)) : Prop := l.length = n ∧ (∀ d ∈ l, d.length = 16) ∧ Sl w B A 16 n (l.flatten.map bv)
theorem Ds.below {w w' : World} {B B' n : Nat} {A : Option Addr} {l : List (List UInt8)} (h : Ds w B A n l) (hb : Below B' w w') (hB : B ≤ B') : Ds w' B A n l := ⟨h.1, h.2.1, h.2.2.below (hb.mono hB)⟩
theorem Ds.wide {w : World} {B B' n : Nat} {A : Option Addr} {l : List (List UInt8)} (h : Ds w B A n l) (hB : B ≤ B') : Ds w B' A n l := ⟨h.1, h.2.1, h.2.2.wide hB⟩
/-- A list of digests, cut at its end. -/
theorem Ds.hi {w : World} {B n : Nat} {A : Option Addr} {l : List (List UInt8)} (h : Ds w B A n l) (k : Nat) (hk : k ≤ n) : Ds w B A k (l.take k) := by
  obtain ⟨h1, h2, h3⟩ := h
  refine ⟨by rw [List.length_take]; omega, fun d hd => h2 d (List.mem_of_mem_take hd), ?_⟩
  have := h3.take hk
  rw [flatten_take l k h2, List.map_take]
  exact this
theorem dig_elem : Tryd.prog.elem 34 = 30 := by kernel_rfl
theorem run_hi (A : Option Addr) {n cap k : Nat} (hk : k ≤ cap) (W : World) :
    (Instr.sliceAt 34 (.slice A n cap) none (some (.int .i64 (k : Int))) none).run Tryd.prog W = .ok (.slice A k cap) W := by
  have hs : (sizeOf 30).run Tryd.prog W = .ok 16 W := by kernel_rfl
  rw [run_sliceAt_slice W _ _ _ _ _ (by rw [dig_elem]; exact Tryd.underlying34), run_slice_h W _ A n cap (by rw [dig_elem]; exact Tryd.underlying34) .i64 k (by omega) (by omega), dig_elem, hs]
  cases A <;> simp [Result.andThen, sliced, Addr.add]
theorem run_lo (A : Option Addr) {n cap k : Nat} (hk : k ≤ n) (hn : n ≤ cap) : ∃ A', (∀ W, (Instr.sliceAt 34 (.slice A n cap) (some (.int .i64 (k : Int))) none none).run Tryd.prog W = .ok (.slice A' (n - k) (cap - k)) W) ∧
    ∀ w B l, Ds w B A n l → Ds w B A' (n - k) (l.drop k) := by
  obtain ⟨A', h1, h2⟩ := cut_from (P := Tryd.prog) (T := 34) (e := 30) (size := 16) Tryd.underlying34 (fun W => by kernel_rfl) A hk hn
  refine ⟨A', h1, fun w B l h => ⟨by rw [List.length_drop, h.1], fun d hd => h.2.1 d (List.mem_of_mem_drop hd), ?_⟩⟩
  have := h2 w B _ h.2.2
  rw [flatten_drop l k h.2.1, List.map_drop]
  exact this

set_option maxHeartbeats 1000000 in
set_option maxRecDepth 100000 in
theorem root_any (N : Nat) : ∀ (l : List (List UInt8)) (A : Option Addr) (B n c : Nat) (w : World), n ≤ N → n ≤ 1000000000 → Ds w B A n l → n ≤ c → B ≤ w.heap.size → Tab w 1 →
    Calls Tryd.prog 19 #[.slice A n c] w fun e w' => e = .returned (dv (rootD l)) ∧ Below w.heap.size w w' := by
  induction N with
  | zero =>
    intro l A B n c w hN _ hD hnc hB hT
    obtain rfl : n = 0 := by omega
    obtain rfl : l = [] := List.length_eq_zero_iff.1 hD.1
    have HT := hideIt hT
    obtain ⟨d, hd⟩ : ∃ d, d = rootD [] := ⟨_, rfl⟩
    have HDL : Hid (d.length = 16) := by rw [hd]; exact rootD_len _
    have HO : Hid (∀ W, Tab W 1 → Calls Tryd.prog 13 #[.int .i64 1, .slice none 0 0] W fun e w' => e = .returned (dv d) ∧ Below W.heap.size W w') := by
      rw [hd, rootD_nil]
      exact fun W hW => of_any none 0 0 1 [] W (Sl.nil _ _ _ _) (by simp) (by simp) (by omega) hW
    rw [← hd]
    clear hd hT hD
    go_enter Tryd.func19, Tryd.ntmps19
    go_wp2_with (first
      | (go_at_call 13; refine (HO.out _ (HT.out.keep (below_new w _))).mono ?_; rintro e w2 ⟨rfl, hb2⟩; have HB2 := hideIt hb2; clear hb2)
      | ((with_reducible refine at_store ?_); refine wpList_put rfl 30 (.tmp 2) (.tmp 8) rfl w.heap.size (d.map bv) _ _ rfl rfl ((Blk.new w 30 (List.replicate 16 (.int .u8 0))).kept HB2.out (by simp)) (by rw [List.length_map, HDL.out]; kernel_rfl) (by rw [List.length_map, HDL.out]; rfl) (bv_one _) ?_; intro w3 ht3 hb3; have HT3 := hideIt ht3; have HB3 := hideIt hb3; clear ht3 hb3))
    exact bodyPost_ret (ret_blk rfl HB3.out (.array 16 5) rfl (by kernel_rfl) rfl (by rw [List.length_map, HDL.out]; kernel_rfl)) rfl ⟨rfl, HT3.out.below ((below_new w _).trans (HB2.out.mono (by simp))) (Nat.le_refl _)⟩
  | succ N ih =>
    intro l A B n c w hN hn9 hD hnc hB hT
    by_cases h0 : n = 0
    · exact ih l A B n c w (by omega) hn9 hD hnc hB hT
    by_cases h1 : n = 1
    · subst h1
      obtain ⟨d0, rfl⟩ : ∃ d0, l = [d0] := by
        have := hD.1
        match l, this with
        | [d0], _ => exact ⟨d0, rfl⟩
      have hd0 : d0.length = 16 := hD.2.1 d0 (by simp)
      have HT := hideIt hT
      obtain ⟨b, off, rfl, hb, hc⟩ := Sl.dig (ds := [d0]) hD.2.2 hD.2.1 (k := 0) (by simp)
      have hc : Has16 w ⟨b, off, none⟩ d0 := by simpa using hc
      have HC := hideIt hc
      have HD0 := hideIt hd0
      obtain ⟨m, hm⟩ : ∃ m, m = leafIn d0 := ⟨_, rfl⟩
      have hml : m.length ≤ 100 := by rw [hm]; exact leafIn_len d0 hd0
      have HLM := hideIt (fun (W : World) => leafMessage_any d0 hd0 W)
      rw [← hm] at HLM
      obtain ⟨d, hd⟩ : ∃ d, d = cutD m := ⟨_, rfl⟩
      have HDL : Hid (d.length = 16) := by rw [hd]; exact cutD_len _
      have HCU := hideIt (fun (W : World) (base : Nat) (v : Value) (h : W.ownsRow base 5 1 v m.length (m.map bv)) (h2 : Tab W 1) => cut_own h (by omega) h2)
      rw [← hd] at HCU
      rw [rootD_one, leafD, ← hm, ← hd]
      clear hT hD hc hd0 hm hd
      go_enter Tryd.func19, Tryd.ntmps19
      go_wp2_with (first
        | ((with_reducible refine at_load ?_); refine wpList_load_mid rfl 30 (.tmp 12) rfl b off rfl (d0.map bv) (.array 16 5) (range16 (HC.out.below (by omega) (below_new w _))) (by kernel_rfl) rfl (isize16 _ HD0.out) ?_)
        | (go_at_call 43; refine (HLM.out _).mono ?_; rintro e w1 ⟨v1, rfl, hown, hb1⟩; have HO := hideIt hown; have HB1 := hideIt hb1; clear hown hb1)
        | (go_at_call 35; refine (HCU.out _ _ _ HO.out ((HT.out.keep (below_new w _)).keep HB1.out)).mono ?_; rintro e w2 ⟨rfl, hb2⟩; have HB2 := hideIt hb2; clear hb2)
        | ((with_reducible refine at_store ?_); refine wpList_put rfl 30 (.tmp 2) (.tmp 15) rfl w.heap.size (d.map bv) _ _ rfl rfl (((Blk.new w 30 (List.replicate 16 (.int .u8 0))).kept HB1.out (by simp)).kept HB2.out (by have := HB1.out.size; simp at this; omega)) (by rw [List.length_map, HDL.out]; kernel_rfl) (by rw [List.length_map, HDL.out]; rfl) (bv_one _) ?_; intro w3 ht3 hb3; have HT3 := hideIt ht3; have HB3 := hideIt hb3; clear ht3 hb3))
      exact bodyPost_ret (ret_blk rfl HB3.out (.array 16 5) rfl (by kernel_rfl) rfl (by rw [List.length_map, HDL.out]; kernel_rfl)) rfl ⟨rfl, HT3.out.below (((below_new w _).trans (HB1.out.mono (by simp))).trans (HB2.out.mono (by have := HB1.out.size; simp at this; omega))) (Nat.le_refl _)⟩
    · have h2 : 2 ≤ n := by omega
      have hsp := splitK_spec n h2
      have HSP := hideIt (fun W => split_any n h2 (by omega) W)
      have hroot := rootD_two l (by have := hD.1; omega)
      rw [hD.1] at hroot
      obtain ⟨k, hk⟩ : ∃ k, k = splitK n := ⟨_, rfl⟩
      rw [← hk] at hsp hroot HSP
      obtain ⟨A', hlo, hDs⟩ := run_lo A (n := n) (cap := c) (k := k) (by omega) hnc
      have hhi := fun W => run_hi A (n := n) (cap := c) (k := k) (by omega) W
      obtain ⟨x, hx⟩ : ∃ x, x = rootD (l.take k) := ⟨_, rfl⟩
      obtain ⟨y, hy⟩ : ∃ y, y = rootD (l.drop k) := ⟨_, rfl⟩
      have hxl : x.length = 16 := by rw [hx]; exact rootD_len _
      have hyl : y.length = 16 := by rw [hy]; exact rootD_len _
      have ih1 := fun (W : World) (h : Ds W B A k (l.take k)) (hB : B ≤ W.heap.size) (hT : Tab W 1) => ih (l.take k) A B k c W (by omega) (by omega) h (by omega) hB hT
      have ih2 := fun (W : World) (h : Ds W B A' (n - k) (l.drop k)) (hB : B ≤ W.heap.size) (hT : Tab W 1) => ih (l.drop k) A' B (n - k) (c - k) W (by omega) (by omega) h (by omega) hB hT
      rw [← hx] at ih1
      rw [← hy] at ih2
      obtain ⟨m, hm⟩ : ∃ m, m = nodeIn x y := ⟨_, rfl⟩
      have hml : m.length ≤ 100 := by rw [hm]; exact nodeIn_len x y hxl hyl
      have HNM := hideIt (fun (W : World) => nodeMessage_any x y hxl hyl W)
      rw [← hm] at HNM
      obtain ⟨d, hd⟩ : ∃ d, d = cutD m := ⟨_, rfl⟩
      have HDL : Hid (d.length = 16) := by rw [hd]; exact cutD_len _
      have HCU := hideIt (fun (W : World) (base : Nat) (v : Value) (h : W.ownsRow base 5 1 v m.length (m.map bv)) (h2 : Tab W 1) => cut_own h (by omega) h2)
      rw [← hd] at HCU
      rw [hroot, ← hx, ← hy, nodeD, ← hm, ← hd]
      have HD1 := hideIt (hD.hi k (by omega))
      have HD2 := hideIt (hDs w B l hD)
      have HT := hideIt hT
      have HI1 := hideIt ih1
      have HI2 := hideIt ih2
      obtain ⟨s1, s2, s3⟩ := hsp
      clear ih hD hDs hT ih1 ih2 hx hy hm hd hroot hk hxl hyl
      go_enter Tryd.func19, Tryd.ntmps19
      go_upto_region 7 with (go_at_call 44; refine (HSP.out _).mono ?_; rintro e w' ⟨rfl, rfl⟩)
      have HR1 : Hid (Blk (w.alloc (.cells (List.replicate 16 (.int .u8 0)).toArray 30)) w.heap.size 30 (List.replicate 16 (.int .u8 0))) := Blk.new w _ _
      have HB1 : Hid (Below w.heap.size w (w.alloc (.cells (List.replicate 16 (.int .u8 0)).toArray 30))) := below_new w _
      have hsz1 : (w.alloc (.cells (List.replicate 16 (.int .u8 0)).toArray 30)).heap.size = w.heap.size + 1 := by simp
      generalize hw1 : w.alloc (.cells (List.replicate 16 (.int .u8 0)).toArray 30) = w1 at HR1 HB1 hsz1
      rw [show w.alloc (.cells #[Value.int .u8 0, Value.int .u8 0, Value.int .u8 0, Value.int .u8 0, Value.int .u8 0, Value.int .u8 0, Value.int .u8 0, Value.int .u8 0, Value.int .u8 0, Value.int .u8 0, Value.int .u8 0, Value.int .u8 0, Value.int .u8 0, Value.int .u8 0, Value.int .u8 0, Value.int .u8 0] 30) = w1 from hw1]
      obtain ⟨B1, hB1e⟩ : ∃ b, b = w1.heap.size := ⟨_, rfl⟩
      have HB1e := hideIt hB1e
      clear hB1e
      have HL1 : Hid (∀ W, Below B1 w1 W → Calls Tryd.prog 19 #[.slice A k c] W fun e w' => e = .returned (dv x) ∧ Below B1 w1 w') := fun W hW =>
        (HI1.out W ((HD1.out.below HB1.out hB).below hW (by have := HB1e.out; omega)) (Nat.le_trans (show B ≤ w1.heap.size by omega) hW.size) ((HT.out.keep HB1.out).below (show 1 < B1 by have := HB1e.out; have := HT.out.1; omega) hW)).mono fun e w' ⟨h1, h2⟩ => ⟨h1, hW.trans (h2.mono (by have := hW.size; have := HB1e.out; omega))⟩
      have HL2 : Hid (∀ W, Below B1 w1 W → Calls Tryd.prog 19 #[.slice A' (n - k) (c - k)] W fun e w' => e = .returned (dv y) ∧ Below B1 w1 w') := fun W hW =>
        (HI2.out W ((HD2.out.below HB1.out hB).below hW (by have := HB1e.out; omega)) (Nat.le_trans (show B ≤ w1.heap.size by omega) hW.size) ((HT.out.keep HB1.out).below (show 1 < B1 by have := HB1e.out; have := HT.out.1; omega) hW)).mono fun e w' ⟨h1, h2⟩ => ⟨h1, hW.trans (h2.mono (by have := hW.size; have := HB1e.out; omega))⟩
      have hB1a : w.heap.size < B1 := by have := HB1e.out; omega
      clear HI1 HI2 HD1 HD2 HSP hw1 hsz1
      refine calm_tail (C := fun W => Below B1 w1 W) 8 (by kernel_rfl) (by kernel_rfl) ((Below.refl _ _).drew) ?_
      simp only [List.take_succ_cons, List.take_zero, List.drop_succ_cons, List.drop_zero]
      repeat (go_big_quiet_step (first | (intro hb; with_reducible exact HL1.out _ hb) | (intro hb; with_reducible exact HL2.out _ hb) | (intro _; rfl) | (intro _; exact ⟨rfl, rfl⟩)))
      refine wpQuiet_nil ?_
      intro W0 hW0
      have HW0 := hideIt hW0
      clear hW0
      go_wp2_with (first
        | (go_at_call 45; refine (HNM.out _).mono ?_; rintro e w3 ⟨v3, rfl, hown, hb3⟩; have HO := hideIt hown; have HB3 := hideIt hb3; clear hown hb3)
        | (go_at_call 35; refine (HCU.out _ _ _ HO.out ((((HT.out.keep HB1.out).below (show 1 < B1 by have := HT.out.1; omega) HW0.out).keep HB3.out))).mono ?_; rintro e w4 ⟨rfl, hb4⟩; have HB4 := hideIt hb4; clear hb4)
        | ((with_reducible refine at_store ?_); refine wpList_put rfl 30 (.tmp 2) (.tmp 28) rfl w.heap.size (d.map bv) _ _ rfl rfl (((HR1.out.kept HW0.out (by omega)).kept HB3.out (by have := HW0.out.size; have := HB1e.out; omega)).kept HB4.out (by have := HW0.out.size; have := HB1e.out; have := HB3.out.size; omega)) (by rw [List.length_map, HDL.out]; kernel_rfl) (by rw [List.length_map, HDL.out]; rfl) (bv_one _) ?_; intro w5 ht5 hb5; have HT5 := hideIt ht5; have HB5 := hideIt hb5; clear ht5 hb5))
      have z1 := HW0.out.size
      have z2 := HB3.out.size
      have z3 := HB1e.out
      exact bodyPost_ret (ret_blk rfl HB5.out (.array 16 5) rfl (by kernel_rfl) rfl (by rw [List.length_map, HDL.out]; kernel_rfl)) rfl ⟨rfl, HT5.out.below ((((HB1.out.trans (HW0.out.mono (by omega))).trans (HB3.out.mono (by omega)))).trans (HB4.out.mono (by omega))) (Nat.le_refl _)⟩

end Go.Proofs.YtkjnimcapjjfdaaDoor
