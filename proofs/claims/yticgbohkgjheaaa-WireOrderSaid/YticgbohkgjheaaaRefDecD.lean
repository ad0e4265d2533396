/-
  The reference's decoding of a list of digests, walked: GetDigests.
-/
import Derived.Test.YticgbohkgjheaaaRefDec
import Derived.Test.YticgbohkgjheaaaDecD
import Derived.Great.BuildSlice
namespace Go.Proofs.Yticgbohkgjheaaa
open Go.RowKit
set_option linter.unusedVariables false

theorem fill_one (z : Array Value) (d : List UInt8) (hd : d.length = 16) (hz : z.size = 16) : Instr.fill (fun i => some (i * 16, 16)) z [(0, dv d)] = some (d.map bv).toArray := by
  have hc : (dv d).cells = (d.map bv).toArray := rfl
  obtain ⟨r, hr, hsz, hk⟩ := Great.fill_dense (s := 16) (by omega) [dv d] 0 z (by intro v hv; rw [List.mem_singleton] at hv; subst hv; rw [hc]; simp [hd]) (by simp [hz])
  have e : r = (d.map bv).toArray := by
    apply Array.ext_getElem?
    intro k
    rw [hk k]
    by_cases h : k < 16
    · have h1 : k / 16 = 0 := by omega
      have h2 : k % 16 = k := by omega
      rw [if_pos (by simp; omega), h1, h2, Nat.sub_zero]
      simp [hc]
    · rw [if_neg (by simp; omega)]
      simp [hz, hd, Nat.le_of_not_lt h]
  rw [← e, ← hr]
  rfl

theorem set_bytes (xs : List UInt8) (m : Nat) (v : UInt8) (i : Nat) (hi : i = xs.length) : (xs.map bv ++ List.replicate (m + 1) (Value.int .u8 0)).set i (bv v) = (xs ++ [v]).map bv ++ List.replicate m (Value.int .u8 0) := by
  subst hi
  rw [List.set_append_right _ _ (by simp), List.length_map, Nat.sub_self, List.replicate_succ, List.set_cons_zero]
  simp

theorem digs_new (w : World) (t : TypeId) (cs : List Value) : ∀ j u, cs[j]? = some u → (w.alloc (.cells cs.toArray t)).cell? ((⟨w.heap.size, 0, none⟩ : Addr).add j) = some u := by
  intro j u hj
  rw [addr_add, Nat.zero_add, (Blk.new w t cs).cell]
  exact hj

set_option maxHeartbeats 1000000 in
set_option maxRecDepth 100000 in
theorem refGetDigests_any (A : Option Addr) (cap : Nat) (l : List UInt8) (w : World) (hx : Sl w w.heap.size A 1 l.length (l.map bv)) (hlc : l.length ≤ cap) (hc : cap ≤ maxLen) (hsm : l.length ≤ 1000000000) :
    Calls Try.prog 29 #[.slice A l.length cap] w fun x w' =>
      ∃ v', x = .returned (.tuple #[v', .int .i64 ((decD l).2.1 : Int), .int .i64 ((decD l).2.2 : Int)]) ∧ w'.ownsRow w.heap.size 51 16 v' (decD l).1.length ((decD l).1.flatten.map bv) ∧ Below w.heap.size w w' := by
  obtain ⟨i0, hi, hz0, hz1, hz2⟩ := info_parts Try.info51
  have hcm := hc
  unfold maxLen at hcm
  obtain ⟨n, u, e, hd⟩ : ∃ n u e, decLen 16 l = (n, u, e) := ⟨_, _, _, rfl⟩
  have h1 := decLen_ok 16 (by omega) l
  rw [hd] at h1
  simp only at h1
  have hL : decD l = if e ≠ 0 then ([], 0, e) else (cut16 (l.drop u) n, u + 16 * n, 0) := by unfold decD; rw [hd]
  have HL := hideIt hL
  have HG := hideIt (count16_c A cap l w hx hlc hc hsm n u e hd)
  have HX := hideIt hx
  clear hL hd hx
  by_cases he : e = 0
  · have h2 := h1 he
    clear h1
    obtain ⟨b1, b2, b3⟩ := h2
    have HV := hideIt (HL.out.trans (if_neg (by simp [he])))
    have T0 : ((e : Int) != 0) = false := by rw [he]; rfl
    clear he
    go_enter Try.func29, Try.ntmps29
    go_wp2_with (go_at_call 35; refine HG.out.mono ?_; rintro x w1 ⟨rfl, hb⟩; have HB := hideIt hb; clear hb)
    go_loopg [6, 8, 9] n (fun gg s6 s8 s9 wr => ∃ (k a : Nat), gg + k = n ∧ Hid (a = u + 16 * k) ∧ s9 = .int .i64 k ∧ s6 = .int .i64 a ∧
      Hid (wr.ownsRow w.heap.size 51 16 s8 k ((cut16 (l.drop u) k).flatten.map bv)) ∧ Hid (Below w.heap.size w wr))
    case atStart => exact ⟨0, u, by omega, (by omega : u = u + 16 * 0), rfl, rfl, World.ownsRow_nil _ _ _ _, HB⟩
    case round =>
      obtain ⟨k, a, hg, HA, rfl, rfl, HOW, HBL⟩ := hrel
      obtain ⟨w2, rfl⟩ : ∃ x, x = wr := ⟨wr, rfl⟩
      obtain ⟨g1, rfl⟩ : ∃ x, x = gk := ⟨gk, rfl⟩
      by_cases hk : k < n
      · obtain ⟨b, off, rfl, hb⟩ : ∃ b off, A = some ⟨b, off, none⟩ ∧ b < w.heap.size := by
          obtain ⟨b, off, e, hb, _⟩ := HX.out.byte (k := 0) (by omega)
          exact ⟨b, off, e, hb⟩
        have hszw := HBL.out.size
        have hal : a + 16 ≤ l.length := by have := HA.out; omega
        go_wp2
        go_loopg [11] 16 (fun g s11 wx => ∃ i : Nat, g + i = 16 ∧ s11 = .int .i64 i ∧ Hid (Blk wx w2.heap.size 51 (((l.drop a).take i).map bv ++ List.replicate (16 - i) (.int .u8 0))) ∧ Hid (Below w2.heap.size w2 wx))
        case atStart => exact ⟨0, by omega, rfl, Blk.new w2 _ (List.replicate 16 (.int .u8 0)), (Below.refl _ _).alloc (Nat.le_refl _) _⟩
        case round =>
          obtain ⟨i, hg2, rfl, HBK, HB2⟩ := hrel
          by_cases hi16 : i < 16
          · have hai : a + i < l.length := by omega
            have hc1 : wr.cell? ⟨b, off + (a + i), none⟩ = some (bv l[a + i]) := by
              obtain ⟨b', off', e, _, hcc⟩ := (HX.out.below (HBL.out.trans (HB2.out.mono HBL.out.size))).byte hai
              injection e with e
              injection e with e1 e2
              subst e1 e2
              exact hcc
            obtain ⟨m, hm⟩ : ∃ m, 16 - i = m + 1 := ⟨15 - i, by omega⟩
            rw [hm] at HBK
            have hlen : ((l.drop a).take i).length = i := by rw [List.length_take, List.length_drop]; omega
            have hc2 : wr.cell? ⟨w2.heap.size, i, none⟩ = some (.int .u8 0) := by
              rw [HBK.out.cell, List.getElem?_append_right (by simp; omega), List.length_map, hlen, Nat.sub_self]
              rfl
            have hf2 : wr.frozen? ⟨w2.heap.size, i, none⟩ = false := HBK.out.free i
            have hst := HBK.out.store i (bv l[a + i])
            have hts := take_snoc (l.drop a) i (by rw [List.length_drop]; omega)
            rw [List.getElem_drop] at hts
            rw [set_bytes _ m _ i hlen.symm, ← hts] at hst
            have h15 : 16 - (i + 1) = m := by omega
            rw [← h15] at hst
            have HST := hideIt hst
            have hidx : ((a : Int) + (i : Int)).toNat = a + i := by omega
            clear hst hts hlen hm h15
            go_wp2
            go_roundg (gk - 1)
            case measure => omega
            case rel => exact ⟨i + 1, by omega, by go_num, HST, HB2.out.setCell (Nat.le_refl _) _⟩
          · have h16 : i = 16 := by omega
            subst h16
            obtain ⟨d, hdd⟩ : ∃ d, d = (l.drop a).take 16 := ⟨_, rfl⟩
            have hdl : d.length = 16 := by rw [hdd, List.length_take, List.length_drop]; omega
            have hblk : Blk wr w2.heap.size 51 (d.map bv) := by
              have := HBK.out
              rw [← hdd] at this
              simpa using this
            have HDL := hideIt hdl
            have HDD := hideIt hdd
            have HBK2 := hideIt hblk
            have HR : Hid (Has16 wr ⟨w2.heap.size, 0, none⟩ d) := ⟨hdl, fun j u hu => by rw [addr_add, Nat.zero_add, hblk.cell]; exact hu⟩
            have hbn : Below w2.heap.size w2 (wr.alloc (.cells (d.map bv).toArray 51)) := HB2.out.alloc HB2.out.size _
            have HBN := hideIt hbn
            clear hblk hdd hbn HBK hdl
            go_wp2_with (first
              | (refine wpList_load_mid rfl 51 (.tmp 10) rfl w2.heap.size 0 rfl (d.map bv) (.array 16 5) (range16 HR.out) (by kernel_rfl) rfl (isize16 _ HDL.out) ?_)
              | (refine wpList_buildSlice rfl 23 51 1 #[(0, .tmp 39)] rfl (d.map bv).toArray i0 (.agg (List.replicate 16 (.int .u8 0)).toArray) Try.underlying23 hi hz0 (by rw [hz1]; omega) (by rw [hz1]; omega) (by rw [hz1, Array.toList_map]; exact fill_one _ d HDL.out (by simp)) ?_)
              | (at_builtin; refine wpList_append_own _ rfl (.tmp 38) (.tmp 40) 23 rfl w.heap.size 51 i0 (.agg (List.replicate 16 (.int .u8 0)).toArray) 16 16 Try.underlying23 hi hz0 hz1 hz2 rfl (by decide) _ k ((cut16 (l.drop u) k).flatten.map bv) rfl (own_kept HOW.out HBN.out) ⟨wr.heap.size, 0, none⟩ 1 1 (d.map bv) rfl (by rw [List.length_map, HDL.out]) (digs_new wr 51 _) (bv_one _) (by unfold maxLen; omega) (by omega) (Nat.le_trans HBL.out.size HBN.out.size) ?_; intro v9 w9 hown9 hg9 _; have HB9 := hideIt (below_grown (HBL.out.trans (HBN.out.mono HBL.out.size)) (own_kept HOW.out HBN.out) (Nat.le_refl _) (Nat.le_trans HBL.out.size HBN.out.size) hg9); have HO9 := hideIt hown9; clear hown9 hg9))
            go_roundg (g1 - 1)
            case measure => omega
            case rel =>
              refine ⟨k + 1, a + 16, by omega, (by have := HA.out; omega : a + 16 = u + 16 * (k + 1)), by go_num, by go_num, ?_, HB9.out⟩
              have h9 := HO9.out
              rw [← List.map_append] at h9
              have e9 : (cut16 (l.drop u) (k + 1)).flatten = (cut16 (l.drop u) k).flatten ++ d := by
                rw [HDD.out, HA.out]
                conv => lhs; unfold cut16
                rw [List.flatten_append, List.flatten_singleton, List.drop_drop, Nat.mul_comm k 16]
              rw [e9]
              exact h9
      · go_wp2
        go_ret3
        have hkn : k = n := by omega
        have ha := HA.out
        rw [hkn] at ha
        subst ha
        rw [HV.out]
        refine ⟨_, rfl, ?_, HBL.out⟩
        have h5 := HOW.out
        rw [hkn] at h5
        have h6 := (cut16_len (l.drop u) n (by rw [List.length_drop]; omega)).2
        simp only
        rw [h6]
        exact h5
  · have HV := hideIt (HL.out.trans (if_pos he))
    have T0 : ((e : Int) != 0) = true := by rw [bne_iff_ne]; omega
    clear he h1
    go_enter Try.func29, Try.ntmps29
    go_wp2_with (go_at_call 35; refine HG.out.mono ?_; rintro x w1 ⟨rfl, hb⟩; have HB := hideIt hb; clear hb)
    go_ret3
    rw [HV.out]
    exact ⟨_, rfl, World.ownsRow_nil _ _ _ _, HB.out⟩

end Go.Proofs.Yticgbohkgjheaaa
