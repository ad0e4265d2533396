/-
  Digests of messages, walked: digest.cut, message, leafMessage, nodeMessage, Of.
  The inputs of digests, walked: digest.message, leafMessage, nodeMessage, Of.
  The inputs and digests of nodes and leaves, walked: digest.leafMessage, nodeMessage, Of.
-/
import Derived.Test.YtkjnimcapjjfdaaDoorSum
import Derived.Test.YtkjnimcapjjfdaaDoorQuiet
import Derived.Test.YtkjnimcapjjfdaaDoorWBytes
namespace Go.Proofs.YtkjnimcapjjfdaaDoor
open Go.RowKit
set_option linter.unusedVariables false

def cutD (b : List UInt8) : List UInt8 := (sha b).take 16
theorem cutD_len (b : List UInt8) : (cutD b).length = 16 := by unfold cutD; rw [List.length_take, sha_len]; omega
/-- The input of a digest: a tag and the encodings of the parts. -/
def msgB (t : UInt8) (ps : List (List UInt8)) : List UInt8 := t :: ps.flatMap encB
def leafIn (d : List UInt8) : List UInt8 := msgB 1 [d]
def nodeIn (x y : List UInt8) : List UInt8 := msgB 2 [x, y]
def leafD (d : List UInt8) : List UInt8 := cutD (leafIn d)
def nodeD (x y : List UInt8) : List UInt8 := cutD (nodeIn x y)

theorem range_take {w : World} {g n : Nat} {t : TypeId} {z d : List UInt8} (h : Blk w g t (z.map bv)) (hd : d = z.take n) : w.rangeAt g 0 (d.map bv) := fun j v hv => by
  rw [h.cell, Nat.zero_add]
  subst hd
  rw [List.map_take, List.getElem?_take] at hv
  split at hv
  · exact hv
  · cases hv

set_option maxHeartbeats 800000 in
set_option maxRecDepth 100000 in
theorem cut_any (A : Option Addr) (B c : Nat) (b : List UInt8) (w : World) (hx : Sl w B A 1 b.length (b.map bv)) (hbc : b.length ≤ c) (hb : b.length ≤ 1000000000) (hB : B ≤ w.heap.size) (hT : Tab w 1) :
    Calls Tryd.prog 35 #[.slice A b.length c] w fun e w' => e = .returned (dv (cutD b)) ∧ Below w.heap.size w w' := by
  have HX := hideIt hx
  have HT := hideIt hT
  clear hx hT
  obtain ⟨z, hz⟩ : ∃ z, z = sha b := ⟨_, rfl⟩
  have hzl : z.length = 32 := by rw [hz, sha_len]
  obtain ⟨d, hd⟩ : ∃ d, d = cutD b := ⟨_, rfl⟩
  have hdl : d.length = 16 := by rw [hd, cutD_len]
  have hdz : d = z.take 16 := by rw [hd, hz]; rfl
  have HS : Hid (∀ W, Sl W B A 1 b.length (b.map bv) → B ≤ W.heap.size → Tab W 1 → Calls Tryd.prog 11 #[.slice A b.length c] W fun e w' => e = .returned (.agg (z.map bv).toArray) ∧ Below W.heap.size W w') := by
    intro W h1 h2 h3; rw [hz]; exact sum_any A B c b W h1 hbc hb h2 h3
  have HZL := hideIt hzl
  have HDL := hideIt hdl
  have HDZ := hideIt hdz
  rw [← hd]
  clear hz hzl hd hdl hdz
  have hsl : ∀ (g : Nat) (W : World), (Instr.sliceAt 24 (.pointer (some ⟨g, 0, none⟩)) none (some (.int .i64 16)) none).run Tryd.prog W = .ok (.slice (some ⟨g, 0, none⟩) 16 32) W := fun g W => by
    kernel_rfl
  have har : ∀ (g : Nat) (W : World), (Instr.arrayAt 30 (.slice (some ⟨g, 0, none⟩) 16 32)).run Tryd.prog W = .ok (.pointer (some ⟨g, 0, none⟩)) W := fun g W => by
    kernel_rfl
  go_enter Tryd.func35, Tryd.ntmps35
  go_wp2_with (first
    | (go_at_call 11; refine (HS.out _ (HX.out.below ((Below.refl _ _).alloc hB _)) (by simp; omega) (HT.out.keep (below_new w _))).mono ?_; rintro e w1 ⟨rfl, hb1⟩; have HB1 := hideIt hb1; have hsz1 := hb1.size; simp only [World.size_alloc] at hsz1; clear hb1)
    | ((with_reducible refine at_store ?_); refine wpList_put rfl 24 (.tmp 3) (.tmp 5) rfl w1.heap.size (z.map bv) _ _ rfl rfl (Blk.new w1 24 (List.replicate 32 (.int .u8 0))) (by rw [List.length_map, HZL.out]; kernel_rfl) (by rw [List.length_map, HZL.out]; rfl) (bv_one _) ?_; intro w2 ht2 hb2; have HT2 := hideIt ht2; have HB2 := hideIt hb2; clear ht2 hb2)
    | ((with_reducible refine at_load ?_); refine wpList_load_mid rfl 30 (.tmp 7) rfl w1.heap.size 0 rfl (d.map bv) (.array 16 5) (range_take HB2.out (by rw [HDZ.out])) (by kernel_rfl) rfl (isize16 d HDL.out) ?_)
    | ((with_reducible refine at_store ?_); refine wpList_put rfl 30 (.tmp 2) (.tmp 8) rfl w.heap.size (d.map bv) _ _ rfl rfl (HT2.out.blk ((((Blk.new w 30 (List.replicate 16 (.int .u8 0))).kept HB1.out (by simp)).alloc _)) (by omega)) (by rw [List.length_map, HDL.out]; kernel_rfl) (by rw [List.length_map, HDL.out]; rfl) (bv_one _) ?_; intro w3 ht3 hb3; have HT3 := hideIt ht3; have HB3 := hideIt hb3; clear ht3 hb3))
  exact bodyPost_ret (ret_blk rfl HB3.out (.array 16 5) rfl (by kernel_rfl) rfl (by rw [List.length_map, HDL.out]; kernel_rfl)) rfl ⟨rfl, HT3.out.below (HT2.out.below ((((below_new w _).trans (HB1.out.mono (by simp))).trans ((below_new w1 _).mono (by omega)))) (by omega)) (Nat.le_refl _)⟩

def txt (s : ByteArray) : List UInt8 := s.data.toList
def str (l : List UInt8) : ByteArray := ⟨l.toArray⟩
theorem txt_str (l : List UInt8) : txt (str l) = l := rfl
theorem txt_len (s : ByteArray) : (txt s).length = s.size := by unfold txt; rw [Array.length_toList]; rfl
def tagB (t : Int) : UInt8 := UInt8.ofNat (t % 256).toNat
def msgS (t : UInt8) (ps : List ByteArray) : List UInt8 := msgB t (ps.map txt)
theorem tag_cell (t : Int) : (.int .u8 (t % 256) : Value) = bv (tagB t) := by
  unfold bv tagB
  congr 1
  rw [UInt8.toNat_ofNat']
  omega
theorem encB_len_le (s : ByteArray) (h : s.size ≤ 100000) : (encB (txt s)).length ≤ 100009 := by
  have h1 := txt_len s
  have := enc_le ((txt s).length : Int) (by omega) (by omega)
  unfold encB
  rw [List.length_append]; omega
theorem msgS_le (t : UInt8) (ps : List ByteArray) (h : ∀ s ∈ ps, s.size ≤ 100000) : (msgS t ps).length ≤ 1 + 100009 * ps.length := by
  induction ps with
  | nil => simp [msgS, msgB]
  | cons s r ih =>
    have h1 := ih fun x hx => h x (by simp [hx])
    have h2 := encB_len_le s (h s (by simp))
    simp only [msgS, msgB, List.map_cons, List.flatMap_cons, List.length_cons, List.length_append] at h1 ⊢
    omega
theorem msgS_snoc (t : UInt8) (ps : List ByteArray) (s : ByteArray) : msgS t (ps ++ [s]) = msgS t ps ++ encB (txt s) := by simp [msgS, msgB]
theorem Sl.str {w : World} {B : Nat} {A : Option Addr} {ps : List ByteArray} (h : Sl w B A 1 ps.length (ps.map Value.string)) {k : Nat} (hk : k < ps.length) :
    ∃ b off, A = some ⟨b, off, none⟩ ∧ b < B ∧ w.cell? ⟨b, off + k, none⟩ = some (.string ps[k]) := by
  obtain ⟨b, off, u, e, hb, hu, hc⟩ := h.at_ hk
  rw [List.getElem?_map, List.getElem?_eq_getElem hk] at hu
  simp only [Option.map_some, Option.some.injEq] at hu
  exact ⟨b, off, e, hb, hu ▸ hc⟩

set_option maxHeartbeats 800000 in
set_option maxRecDepth 100000 in
theorem message_any (A : Option Addr) (B c : Nat) (t : Int) (ps : List ByteArray) (w : World) (hx : Sl w B A 1 ps.length (ps.map Value.string)) (hps : ps.length ≤ 1000) (hs : ∀ s ∈ ps, s.size ≤ 100000) (hB : B ≤ w.heap.size) :
    Calls Tryd.prog 36 #[.int .i64 t, .slice A ps.length c] w fun e w' =>
      ∃ v', e = .returned v' ∧ w'.ownsRow w.heap.size 5 1 v' (msgS (tagB t) ps).length ((msgS (tagB t) ps).map bv) ∧ Below w.heap.size w w' := by
  obtain ⟨i0, hi, hz0, hz1, hz2⟩ := info_parts Tryd.info5
  have HX := hideIt hx
  have HS := hideIt hs
  have hcv : ∀ W, (convert 3 5 (.int .i64 t)).run Tryd.prog W = .ok (bv (tagB t)) W := fun W => by
    rw [run_convert_int (P := Tryd.prog) W 3 5 .i64 t (by kernel_rfl) (by kernel_rfl), show Tryd.prog.intKind 5 = .u8 by kernel_rfl, IntKind.wrap_u8', tag_cell]
  obtain ⟨tb, htb⟩ : ∃ tb, tb = tagB t := ⟨_, rfl⟩
  rw [← htb] at hcv ⊢
  clear hx hs htb
  go_enter Tryd.func36, Tryd.ntmps36
  go_wp2
  go_loopg [5, 13] ps.length (fun g s5 s13 wr => ∃ k : Nat, g + k = ps.length ∧ s13 = .int .i64 k ∧ Hid (wr.ownsRow w.heap.size 5 1 s5 (msgS tb (ps.take k)).length ((msgS tb (ps.take k)).map bv)) ∧ Hid (Below w.heap.size w wr))
  case atStart => exact ⟨0, by omega, rfl, ⟨by simp [msgS, msgB], .inr ⟨w.heap.size, 1, #[bv tb], rfl, Nat.le_refl _, heap_alloc_new w _, by simp [msgS, msgB], by decide, rfl, by simp [msgS, msgB]⟩⟩, below_new w _⟩
  case round =>
    obtain ⟨k, hg, rfl, HO, HB⟩ := hrel
    by_cases hk : k < ps.length
    · obtain ⟨b, off, rfl, hb, hc⟩ := (HX.out.below (HB.out.mono hB)).str hk
      have hsz : ps[k].size ≤ 100000 := HS.out _ (List.getElem_mem hk)
      obtain ⟨s, hs⟩ : ∃ s, s = ps[k] := ⟨_, rfl⟩
      rw [← hs] at hc hsz
      have HST : Hid (msgS tb (ps.take (k + 1)) = msgS tb (ps.take k) ++ encB (txt s)) := by rw [take_snoc ps k hk, msgS_snoc, ← hs]; exact rfl
      obtain ⟨L, hL⟩ : ∃ L, L = msgS tb (ps.take k) := ⟨_, rfl⟩
      have hLl : L.length ≤ 200000000 := by
        have := msgS_le tb (ps.take k) (fun x hx => HS.out x (List.mem_of_mem_take hx))
        rw [List.length_take] at this
        rw [hL]; omega
      have hel := encB_len_le s hsz
      rw [← hL] at HO HST
      clear hs hL
      obtain ⟨w1, rfl⟩ : ∃ x, x = wr := ⟨wr, rfl⟩
      obtain ⟨E, hE⟩ : ∃ E, E = encB (txt s) := ⟨_, rfl⟩
      have HBY := bytes_any s w1 (by omega)
      rw [show encB s.data.toList = E from hE.symm] at HBY
      rw [← hE] at HST hel
      have HBY := hideIt HBY
      clear hE
      go_wp2_with (first
        | (go_at_call 55; refine HBY.out.mono ?_; rintro e w2 ⟨v2, rfl, hown2, hb2⟩; obtain ⟨A2, c2, rfl, hc21, hc22⟩ := own_form hown2; have HS2 := hideIt (Sl.of_own hown2); have HB2 := hideIt hb2; clear hown2 hb2)
        | ((with_reducible refine at_append ?_); refine wpList_app rfl (.tmp 17) (.tmp 19) 22 rfl w.heap.size 5 i0 (.int .u8 0) 1 1 Tryd.underlying22 hi hz0 hz1 hz2 rfl (by decide) _ L.length (L.map bv) rfl (own_kept HO.out HB2.out) _ _ E.length _ (E.map bv) rfl HS2.out (bv_one _) (by unfold maxLen; omega) (by omega) (Nat.le_trans HB.out.size HB2.out.size) ?_; intro v3 w3 ho3 hb3; have HO3 := own_is (n' := (L ++ E).length) (xs' := (L ++ E).map bv) ho3 (by rw [List.length_append]) (by rw [List.map_append]); have HB3 := hideIt ((HB.out.trans (HB2.out.mono HB.out.size)).trans hb3); clear ho3 hb3))
      go_roundg (gk - 1)
      case measure => omega
      case rel => exact ⟨k + 1, by omega, by go_num, by rw [HST.out]; exact HO3, HB3⟩
    · go_wp2
      go_ret
      have hkl : k = ps.length := by omega
      have := HO.out
      rw [hkl, List.take_length] at this
      exact ⟨_, rfl, this, HB.out⟩

theorem leaf_is (d : List UInt8) : msgS (tagB 1) [str d] = leafIn d := rfl
theorem node_is (x y : List UInt8) : msgS (tagB 2) [str x, str y] = nodeIn x y := rfl
theorem str_size (d : List UInt8) : (str d).size = d.length := by simp [str, ByteArray.size]
/-- A new block of a digest, as a slice of all. -/
theorem dig_sl {w : World} {g : Nat} {t : TypeId} {d : List UInt8} (h : Blk w g t (d.map bv)) : Sl w w.heap.size (some ⟨g, 0, none⟩) 1 d.length (d.map bv) := blk_sl h (by rw [List.length_map])

theorem sl_two (w : World) (t : TypeId) (u v : Value) : Sl (w.alloc (.cells #[u, v] t)) (w.heap.size + 1) (some ⟨w.heap.size, 0, none⟩) 1 2 [u, v] :=
  ⟨rfl, fun _ => ⟨w.heap.size, 0, rfl, Nat.lt_succ_self _, fun j x hj => by rw [show (w.alloc (.cells #[u, v] t)).cell? ⟨w.heap.size, 0 + j, none⟩ = [u, v][0 + j]? from (Blk.new w t [u, v]).cell _, Nat.zero_add]; exact hj⟩⟩

set_option maxHeartbeats 400000 in
set_option maxRecDepth 100000 in
theorem leafMessage_any (d : List UInt8) (hd : d.length = 16) (w : World) :
    Calls Tryd.prog 43 #[dv d] w fun e w' =>
      ∃ v', e = .returned v' ∧ w'.ownsRow w.heap.size 5 1 v' (leafIn d).length ((leafIn d).map bv) ∧ Below w.heap.size w w' := by
  have HD := hideIt hd
  have hsl := arr16_all
  have hcv : (convert 22 9 (.slice (some ⟨w.heap.size, 0, none⟩) 16 16)).run Tryd.prog (w.alloc (.cells (d.map bv).toArray 30)) = .ok (.string (str d)) (w.alloc (.cells (d.map bv).toArray 30)) := by
    have := conv_bytes (P := Tryd.prog) (T := 22) (S := 9) (e := 5) Tryd.underlying22 Tryd.underlying5 Tryd.underlying9 (c := 16) (dig_sl (Blk.new w 30 (d.map bv)))
    rw [hd] at this
    exact this
  have HM : Hid (∀ W A B c, Sl W B A 1 1 [Value.string (str d)] → B ≤ W.heap.size → Calls Tryd.prog 36 #[.int .i64 1, .slice A 1 c] W fun e w' =>
      ∃ v', e = .returned v' ∧ w'.ownsRow W.heap.size 5 1 v' (leafIn d).length ((leafIn d).map bv) ∧ Below W.heap.size W w') := fun W A B c h hB =>
    message_any A B c 1 [str d] W h (by simp) (fun s hs => by rw [List.mem_singleton] at hs; subst hs; rw [str_size, hd]; omega) hB
  clear hd
  go_enter Tryd.func43, Tryd.ntmps43
  go_wp2_with (go_at_call 36; refine (HM.out _ _ _ _ (by have := sl_one (w.alloc (.cells (d.map bv).toArray 30)) 9 (.string (str d)); simpa using this) (by simp)).mono ?_; rintro e w1 ⟨v1, rfl, hown, hb1⟩; have HO := hideIt hown; have HB := hideIt hb1; clear hown hb1)
  go_ret
  exact ⟨_, rfl, own_low HO.out (by simp; omega), ((below_new w _).trans ((below_new _ _).mono (by simp))).trans (HB.out.mono (by simp; omega))⟩

set_option maxHeartbeats 400000 in
set_option maxRecDepth 100000 in
theorem nodeMessage_any (x y : List UInt8) (hx : x.length = 16) (hy : y.length = 16) (w : World) :
    Calls Tryd.prog 45 #[dv x, dv y] w fun e w' =>
      ∃ v', e = .returned v' ∧ w'.ownsRow w.heap.size 5 1 v' (nodeIn x y).length ((nodeIn x y).map bv) ∧ Below w.heap.size w w' := by
  have hsl := arr16_all
  have hcx : ∀ W : World, Blk W w.heap.size 30 (x.map bv) → (convert 22 9 (.slice (some ⟨w.heap.size, 0, none⟩) 16 16)).run Tryd.prog W = .ok (.string (str x)) W := fun W hW => by
    have := conv_bytes (P := Tryd.prog) (T := 22) (S := 9) (e := 5) Tryd.underlying22 Tryd.underlying5 Tryd.underlying9 (c := 16) (dig_sl hW)
    rw [hx] at this
    exact this
  have hcy : ∀ W : World, Blk W (w.heap.size + 1) 30 (y.map bv) → (convert 22 9 (.slice (some ⟨w.heap.size + 1, 0, none⟩) 16 16)).run Tryd.prog W = .ok (.string (str y)) W := fun W hW => by
    have := conv_bytes (P := Tryd.prog) (T := 22) (S := 9) (e := 5) Tryd.underlying22 Tryd.underlying5 Tryd.underlying9 (c := 16) (dig_sl hW)
    rw [hy] at this
    exact this
  have HCX := hideIt hcx
  have HCY := hideIt hcy
  have HM : Hid (∀ W A B c, Sl W B A 1 2 [Value.string (str x), .string (str y)] → B ≤ W.heap.size → Calls Tryd.prog 36 #[.int .i64 2, .slice A 2 c] W fun e w' =>
      ∃ v', e = .returned v' ∧ w'.ownsRow W.heap.size 5 1 v' (nodeIn x y).length ((nodeIn x y).map bv) ∧ Below W.heap.size W w') := fun W A B c h hB =>
    message_any A B c 2 [str x, str y] W h (by simp) (fun s hs => by
      simp only [List.mem_cons, List.mem_nil_iff, or_false] at hs
      rcases hs with rfl | rfl
      · rw [str_size, hx]; omega
      · rw [str_size, hy]; omega) hB
  clear hx hy hcx hcy
  go_enter Tryd.func45, Tryd.ntmps45
  go_wp2_with fail
  refine still_tail 4 (by kernel_rfl) (by kernel_rfl) ?_
  intro w2 hw2
  have HW2 := hideIt hw2
  have hX2 : Blk w2 w.heap.size 30 (x.map bv) := by rw [hw2]; exact (Blk.new w 30 (x.map bv)).alloc _
  have hY2 : Blk w2 (w.heap.size + 1) 30 (y.map bv) := by rw [hw2]; exact Blk.new2 w (.cells (x.map bv).toArray 30) 30 (y.map bv)
  have HB2 : Hid (Below w.heap.size w w2) := by rw [hw2]; exact (((below_new w _).trans ((below_new _ _).mono (by simp))).drew)
  have hsz2 : w2.heap.size = w.heap.size + 2 := by rw [hw2]; show ((w.alloc _).alloc _).heap.size = _; simp
  have HSZ := hideIt hsz2
  have h1 := HCX.out w2 hX2
  have h2 := HCY.out w2 hY2
  have HX2 := hideIt hX2
  have HY2 := hideIt hY2
  clear hw2 hX2 hY2 hsz2
  simp only [List.take_succ_cons, List.take_zero, List.drop_succ_cons, List.drop_zero]
  repeat still_step
  refine wpStill_nil ?_
  go_wp2_with (go_at_call 36; refine (HM.out _ _ (w2.heap.size + 1) _ (sl_two w2 _ _ _) (by simp)).mono ?_; rintro e w3 ⟨v3, rfl, hown, hb3⟩; have HO := hideIt hown; have HB3 := hideIt hb3; clear hown hb3)
  go_ret
  have hsz := HSZ.out
  exact ⟨_, rfl, own_low HO.out (by simp; omega), (HB2.out.trans ((below_new w2 _).mono (by omega))).trans (HB3.out.mono (by simp; omega))⟩

end Go.Proofs.YtkjnimcapjjfdaaDoor
