/-
  The decoding of a list of digests, walked: the closure of wire.GetDigests, wire.getList at digests, wire.GetDigests.
-/
import Derived.Test.YticgbohkgjheaaaDecI
import Derived.Test.YticgbohkgjheaaaDig
import Derived.Laws.Cover3
namespace Go.Proofs.Yticgbohkgjheaaa
open Go.RowKit
set_option linter.unusedVariables false

set_option maxHeartbeats 400000 in
set_option maxRecDepth 100000 in
theorem elemDig (A : Option Addr) (B cap g k : Nat) (l : List UInt8) (w : World) (hcl : w.cell? ⟨g, 0, none⟩ = some (.slice A l.length cap)) (hx : Sl w B A 1 l.length (l.map bv)) (hB : B ≤ w.heap.size) (hgB : g < w.heap.size)
    (hlc : l.length ≤ cap) (hc : cap ≤ maxLen) (hk : k + 16 ≤ l.length) :
    Calls Try.prog 38 #[.int .i64 (k : Int), .pointer (some ⟨g, 0, none⟩)] w fun x w' =>
      x = .returned (.tuple #[dv ((l.drop k).take 16), .int .i64 16, .int .i64 0]) ∧ Below w.heap.size w w' := by
  obtain ⟨A', hcut, hsl⟩ := cut_both Try.underlying26 size1_8 A (n := l.length) (cap := cap) (k := k) (h := k + 16) (by omega) (by omega) hlc
  have hlen : ((l.drop k).take 16).length = 16 := by rw [List.length_take, List.length_drop]; omega
  have hS : Sl w B A' 1 16 (((l.drop k).take 16).map bv) := by
    have := hsl w B _ hx
    simpa [List.map_take, List.map_drop, Nat.add_sub_cancel_left] using this
  obtain ⟨b, o, rfl, hb, hcc⟩ := hS.2 (by rw [List.length_map, hlen]; omega)
  have hcut1 : ∀ W, (Instr.sliceAt 26 (.slice A l.length cap) (some (.int .i64 (k : Int))) (some (.int .i64 ((k : Int) + 16))) none).run Try.prog W = .ok (.slice (some ⟨b, o, none⟩) 16 (cap - k)) W := fun W => by
    have := hcut W (k : Int) ((k : Int) + 16) rfl (by omega)
    rwa [Nat.add_sub_cancel_left] at this
  have harr : ∀ W, (Instr.arrayAt 51 (.slice (some ⟨b, o, none⟩) 16 (cap - k))).run Try.prog W = .ok (.pointer (some ⟨b, o, none⟩)) W := fun W =>
    run_arrayAt W 51 5 16 _ 16 _ (by kernel_rfl) (Nat.le_refl _)
  have hH : Has16 w ⟨b, o, none⟩ ((l.drop k).take 16) := ⟨hlen, fun j u hu => by rw [addr_add]; exact hcc j u hu⟩
  have HH := hideIt hH
  have HLEN := hideIt hlen
  have hcm := hc
  unfold maxLen at hcm
  clear hS hsl hx hcut hc hH hlen hcc
  generalize (l.drop k).take 16 = d at *
  have HND := hideIt (newdig w (List.replicate 16 (.int .u8 0)) 51 rfl d HLEN.out)
  have HR : Hid (Has16 (w.alloc (.cells (List.replicate 16 (.int .u8 0)).toArray 51)) ⟨b, o, none⟩ d) :=
    ⟨HLEN.out, fun j u hu => by rw [← HH.out.2 j u hu, addr_add]; exact World.cell?_alloc_past _ _ _ (by show b < _; omega)⟩
  go_enter Try.func38, Try.ntmps38
  go_wp2_with (first
    | (refine wpList_load_mid rfl 51 (.tmp 11) rfl b o rfl (d.map bv) (.array 16 5) (range16 HR.out) (by kernel_rfl) rfl (isize16 _ HLEN.out) ?_)
    | (refine wpList_store_mid rfl 51 (.tmp 3) (.tmp 12) rfl w.heap.size 0 (d.map bv).toArray rfl rfl (there_blk (Blk.new w _ _) (by simp [HLEN.out])) (isize16' _ HLEN.out) (one16 _) ?_; go_simp))
  refine bodyPost_ret (results_dig rfl _ _ rfl HND.out.2) rfl ⟨rfl, HND.out.1⟩

theorem Try.info51 : (Try.prog.info? 51).map (fun i => (i.zero, i.size, i.bytes)) = some (some (.agg (List.replicate 16 (Value.int .u8 0)).toArray), 16, 16) := by kernel_rfl

theorem made16 (n : Nat) : (madeCells (Value.agg (List.replicate 16 (Value.int .u8 0)).toArray).cells (n * 16)).toList = List.replicate (n * 16) (.int .u8 0) := by
  have hz : (Value.agg (List.replicate 16 (Value.int .u8 0)).toArray).cells = (List.replicate 16 (Value.int .u8 0)).toArray := rfl
  rw [hz]
  apply List.ext_getElem?
  intro j
  by_cases hj : j < n * 16
  · rw [List.getElem?_replicate, if_pos hj]
    have h16 : j % 16 < 16 := Nat.mod_lt _ (by omega)
    simp only [madeCells, Array.toList_map, Array.toList_range, List.getElem?_map, List.getElem?_range hj, Option.map_some, List.size_toArray, List.length_replicate, Option.some.injEq]
    rw [getElem!_pos _ _ (by simpa using h16)]
    simp only [List.getElem_toArray]
    exact List.getElem_replicate _
  · rw [List.getElem?_eq_none (by simp [madeCells]; omega), List.getElem?_eq_none (by simp; omega)]

/-- A run of cells written into what a call owns. -/
theorem own_setCells {base : Nat} {e : TypeId} {size g n cap : Nat} : ∀ (vs P Q R : List Value) (w : World), Q.length = vs.length → w.ownsRow base e size (.slice (some ⟨g, 0, none⟩) n cap) n (P ++ Q ++ R) →
    (w.setCells g P.length vs).ownsRow base e size (.slice (some ⟨g, 0, none⟩) n cap) n (P ++ vs ++ R)
  | [], P, Q, R, w, hq, h => by
    obtain rfl : Q = [] := List.length_eq_zero_iff.1 (by simpa using hq)
    exact h
  | v :: vs, P, [], R, w, hq, h => by simp at hq
  | v :: vs, P, q :: Q, R, w, hq, h => by
    have h1 := (h.stored P.length v).1
    have e1 : (P ++ q :: Q ++ R).set P.length v = (P ++ [v]) ++ Q ++ R := by
      rw [List.append_assoc, List.set_append_right _ _ (by omega), Nat.sub_self]
      simp
    rw [e1] at h1
    have h2 := own_setCells vs (P ++ [v]) Q R _ (by simpa using hq) h1
    rw [List.length_append, List.length_singleton] at h2
    have e2 : P ++ v :: vs ++ R = P ++ [v] ++ vs ++ R := by simp
    rw [e2]
    exact h2
theorem there_own {w : World} {base : Nat} {e : TypeId} {size g n cap o m : Nat} {xs : List Value} (h : w.ownsRow base e size (.slice (some ⟨g, 0, none⟩) n cap) n xs) (hm : o + m ≤ n * size) : w.there g o m := fun j hj => by
  refine ⟨?_, h.frozenAt _⟩
  rw [h.cellAt _ (by omega), List.getElem?_eq_getElem (by have := h.1; omega)]
  rfl

theorem cut16_len (l : List UInt8) : ∀ n, n * 16 ≤ l.length → (∀ d ∈ cut16 l n, d.length = 16) ∧ (cut16 l n).length = n
  | 0, _ => by simp [cut16]
  | n + 1, h => by
    obtain ⟨h1, h2⟩ := cut16_len l n (by omega)
    unfold cut16
    refine ⟨fun d hd => ?_, by rw [List.length_append, h2]; rfl⟩
    rcases List.mem_append.1 hd with hd | hd
    · exact h1 d hd
    · rw [List.mem_singleton] at hd
      subst hd
      rw [List.length_take, List.length_drop]
      omega

/-- A digest goes into the list that is being made. -/
theorem store_dig {B g n k m : Nat} {wr w2 w0 : World} {X : List Value} {d : List UInt8} {t : TypeId} (how : wr.ownsRow B t 16 (.slice (some ⟨g, 0, none⟩) n n) n (X ++ List.replicate ((m + 1) * 16) (.int .u8 0)))
    (hX : X.length = k * 16) (hm : m + 1 + k = n) (hd : d.length = 16) (hb2 : Below wr.heap.size wr w2) (hb0 : Below B w0 wr) (hB : B ≤ wr.heap.size) (hg : B ≤ g) (T : TypeId) :
    ((w2.alloc (.cells (List.replicate 16 (.int .u8 0)).toArray T)).setCells w2.heap.size 0 (d.map bv)).there g (k * 16) (d.map bv).toArray.size ∧
    (((w2.alloc (.cells (List.replicate 16 (.int .u8 0)).toArray T)).setCells w2.heap.size 0 (d.map bv)).setCells g (k * 16) (d.map bv)).ownsRow B t 16 (.slice (some ⟨g, 0, none⟩) n n) n (X ++ d.map bv ++ List.replicate (m * 16) (.int .u8 0)) ∧
    Below B w0 (((w2.alloc (.cells (List.replicate 16 (.int .u8 0)).toArray T)).setCells w2.heap.size 0 (d.map bv)).setCells g (k * 16) (d.map bv)) := by
  have hnd := newdig w2 (List.replicate 16 (.int .u8 0)) T rfl d hd
  have h3 := own_kept (own_kept how hb2) hnd.1
  have hsz : (d.map bv).toArray.size = 16 := by rw [List.size_toArray, List.length_map, hd]
  refine ⟨there_own h3 (by rw [hsz]; omega), ?_, below_setCells hg _ _ _ (hb0.trans ((hb2.mono hB).trans (hnd.1.mono (Nat.le_trans hB hb2.size))))⟩
  have e1 : X ++ List.replicate ((m + 1) * 16) (.int .u8 0) = X ++ List.replicate 16 (.int .u8 0) ++ List.replicate (m * 16) (Value.int .u8 0) := by
    rw [List.append_assoc, List.replicate_append_replicate]
    congr 2
    omega
  rw [e1] at h3
  have h4 := own_setCells (d.map bv) X (List.replicate 16 (.int .u8 0)) (List.replicate (m * 16) (.int .u8 0)) _ (by simp [hd]) h3
  rw [hX] at h4
  exact h4

set_option maxHeartbeats 1000000 in
set_option maxRecDepth 100000 in
theorem getListDig_any (A : Option Addr) (B cap g : Nat) (l : List UInt8) (w : World) (hcl : w.cell? ⟨g, 0, none⟩ = some (.slice A l.length cap)) (hx : Sl w B A 1 l.length (l.map bv)) (hB : B ≤ w.heap.size) (hgB : g < w.heap.size)
    (hlc : l.length ≤ cap) (hc : cap ≤ maxLen) (hsm : l.length ≤ 1000000000) :
    Calls Try.prog 39 #[.slice A l.length cap, .int .i64 16, .func (.func 38) #[] #[.pointer (some ⟨g, 0, none⟩)]] w fun x w' =>
      ∃ v', x = .returned (.tuple #[v', .int .i64 ((decD l).2.1 : Int), .int .i64 ((decD l).2.2 : Int)]) ∧ w'.ownsRow w.heap.size 51 16 v' (decD l).1.length ((decD l).1.flatten.map bv) ∧ Below w.heap.size w w' := by
  obtain ⟨i0, hi, hz0, hz1, hz2⟩ := info_parts Try.info51
  have hcm := hc
  unfold maxLen at hcm
  obtain ⟨n, u, e, hd⟩ : ∃ n u e, decLen 16 l = (n, u, e) := ⟨_, _, _, rfl⟩
  have h1 := decLen_ok 16 (by omega) l
  rw [hd] at h1
  simp only at h1
  have hL : decD l = if e ≠ 0 then ([], 0, e) else (cut16 (l.drop u) n, u + 16 * n, 0) := by unfold decD; rw [hd]
  have HL := hideIt hL
  have hgl := getLength16_any A B cap l w hx hlc hc
  rw [hd] at hgl
  have hgl2 : Calls Try.prog 34 #[.slice A l.length cap, .int .i64 16] w fun x w' => x = .returned (.tuple #[.int .i64 (n : Int), .int .i64 (u : Int), .int .i64 (e : Int)]) ∧ w = w' := hgl
  have HG := hideIt hgl2
  have HX := hideIt hx
  have HCL := hideIt hcl
  clear hL hd hgl hgl2 hx hcl
  by_cases he : e = 0
  · have h2 := h1 he
    clear h1
    obtain ⟨b1, b2, b3⟩ := h2
    have HV := hideIt (HL.out.trans (if_neg (by simp [he])))
    have T0 : ((e : Int) != 0) = false := by rw [he]; rfl
    clear he
    go_enter Try.func39, Try.ntmps39
    go_wp2_with (first
      | (go_at_call 34; refine HG.out.mono ?_; rintro x w' ⟨rfl, rfl⟩)
      | (at_make; refine wpList_make_full _ rfl (.tmp 27) (.tmp 27) 23 rfl w.heap.size 51 i0 (.agg (List.replicate 16 (Value.int .u8 0)).toArray) 16 Try.underlying23 hi hz0 hz1 .i64 .i64 n n n rfl rfl rfl rfl (by rw [hz2]; omega) (by unfold maxLen; omega) (Nat.le_refl _) ?_; intro w1 hown1 hg1; have HO := hideIt hown1; have HGR := hideIt ((Below.refl w.heap.size w).grown hg1 (Nat.le_refl _) (by simp)); have HS1 := hideIt hg1.size; clear hown1 hg1))
    go_loopg [10, 31] n (fun gg s10 s31 wr => ∃ (k i m : Nat), gg + k = n ∧ m + k = n ∧ i ≤ l.length ∧ i = u + 16 * k ∧ s31 = .int .i64 k ∧ s10 = .int .i64 i ∧
      Hid (wr.ownsRow w.heap.size 51 16 (.slice (some ⟨w.heap.size, 0, none⟩) n n) n ((cut16 (l.drop u) k).flatten.map bv ++ List.replicate (m * 16) (.int .u8 0))) ∧ Hid (Below w.heap.size w wr))
    case atStart =>
      refine ⟨0, u, n, by omega, by omega, by omega, by omega, rfl, rfl, ?_, HGR⟩
      have := HO.out
      rw [made16] at this
      exact this
    case round =>
      obtain ⟨k, i, m, hg, hm, hil, hiu, rfl, rfl, HOW, HBL⟩ := hrel
      have HIU := hideIt hiu
      have hin : i ≤ u + 16 * k := by omega
      have hin2 : u + 16 * k ≤ i := by omega
      clear hiu
      by_cases hk : k < n
      · obtain ⟨m', rfl⟩ : ∃ m', m = m' + 1 := ⟨m - 1, by omega⟩
        have hi16 : i + 16 ≤ l.length := by omega
        have hwl : w.heap.size < wr.heap.size := (HOW.out.lt w.heap.size rfl).2
        have hcg : wr.cell? ⟨g, 0, none⟩ = some (.slice A l.length cap) := (HBL.out.cell (p := ⟨g, 0, none⟩) hgB).trans HCL.out
        have HE := hideIt (elemDig A B cap g i l wr hcg (HX.out.below (HBL.out.mono hB)) (by omega) (by omega) hlc hc hi16)
        have HLD : Hid (((l.drop i).take 16).length = 16) := by show _ = _; rw [List.length_take, List.length_drop]; omega
        have HCUT : Hid (cut16 (l.drop u) (k + 1) = cut16 (l.drop u) k ++ [(l.drop i).take 16]) := by
          show cut16 (l.drop u) (k + 1) = _
          conv => lhs; unfold cut16
          rw [List.drop_drop, HIU.out, Nat.mul_comm k 16]
        have HLEN := hideIt (cut16_len (l.drop u) k (by rw [List.length_drop]; omega))
        clear hcg
        generalize (l.drop i).take 16 = d at *
        go_wp2_with (first
          | (go_at_call 38; refine HE.out.mono ?_; rintro x w2 ⟨rfl, hb2⟩; have HB2 := hideIt hb2; have hs2 := hb2.size; clear hb2)
          | (refine wpList_store_mid rfl 51 (.tmp 14) (.tmp 38) rfl w2.heap.size 0 (d.map bv).toArray rfl rfl (there_blk (Blk.new w2 _ _) (by simp [HLD.out])) (isize16' _ HLD.out) (one16 _) ?_; go_simp)
          | (have hnd := newdig w2 (List.replicate 16 (.int .u8 0)) 51 rfl d HLD.out; refine wpList_load_mid rfl 51 (.tmp 14) rfl w2.heap.size 0 rfl (d.map bv) (.array 16 5) (range16 hnd.2) (by kernel_rfl) rfl (isize16 _ HLD.out) ?_; clear hnd)
          | (have hst := store_dig (t := 51) (k := k) (d := d) HOW.out (by rw [List.length_map, flatten_len _ HLEN.out.1, HLEN.out.2]) hm HLD.out HB2.out HBL.out (Nat.le_of_lt hwl) (Nat.le_refl _) 51; refine wpList_store_mid rfl 51 (.tmp 47) (.tmp 46) rfl w.heap.size (k * 16) (d.map bv).toArray rfl rfl hst.1 (isize16' _ HLD.out) (one16 _) ?_; have HST := hideIt hst.2; clear hst; go_simp))
        go_roundg (gk - 1)
        case measure => omega
        case rel =>
          refine ⟨k + 1, i + 16, m', by omega, by omega, by omega, by have := HIU.out; omega, by go_num, by go_num, ?_, HST.out.2⟩
          have h7 := HST.out.1
          rw [HCUT.out, List.flatten_append, List.flatten_singleton, List.map_append]
          exact h7
      · go_wp2
        go_ret3
        have hm0 : m = 0 := by omega
        have hkn : k = n := by omega
        subst hm0 hkn
        have h5 := HOW.out
        rw [Nat.zero_mul, List.replicate_zero, List.append_nil] at h5
        have h6 := (cut16_len (l.drop u) k (by rw [List.length_drop]; omega)).2
        rw [HV.out, HIU.out]
        refine ⟨_, rfl, ?_, HBL.out⟩
        simp only [h6]
        exact h5
  · have HV := hideIt (HL.out.trans (if_pos he))
    have T0 : ((e : Int) != 0) = true := by rw [bne_iff_ne]; omega
    clear he h1
    go_enter Try.func39, Try.ntmps39
    go_wp2_with (go_at_call 34; refine HG.out.mono ?_; rintro x w' ⟨rfl, rfl⟩)
    go_ret3
    rw [HV.out]
    exact ⟨_, rfl, World.ownsRow_nil _ _ _ _, Below.refl _ _⟩

set_option maxHeartbeats 400000 in
set_option maxRecDepth 100000 in
theorem getDigests_any (A : Option Addr) (B cap : Nat) (l : List UInt8) (w : World) (hx : Sl w B A 1 l.length (l.map bv)) (hB : B ≤ w.heap.size)
    (hlc : l.length ≤ cap) (hc : cap ≤ maxLen) (hsm : l.length ≤ 1000000000) :
    Calls Try.prog 28 #[.slice A l.length cap] w fun x w' =>
      ∃ v', x = .returned (.tuple #[v', .int .i64 ((decD l).2.1 : Int), .int .i64 ((decD l).2.2 : Int)]) ∧ w'.ownsRow w.heap.size 51 16 v' (decD l).1.length ((decD l).1.flatten.map bv) ∧ Below w.heap.size w w' := by
  have hmf : ∀ (fn : Fn) (first cap : Array Value) (w : World), (Instr.makeFunc fn first cap).run Try.prog w = .ok (.func fn first cap) w := fun _ _ _ _ => rfl
  have hcl : (w.alloc (.cells #[.slice A l.length cap] 26)).cell? ⟨w.heap.size, 0, none⟩ = some (.slice A l.length cap) := by
    rw [World.cell?_alloc_at _ _ _ _ rfl]; rfl
  have hbw : Below w.heap.size w (w.alloc (.cells #[.slice A l.length cap] 26)) := (Below.refl _ _).alloc (Nat.le_refl _) _
  have HG := hideIt (getListDig_any A B cap w.heap.size l _ hcl (hx.below (hbw.mono hB)) (Nat.le_trans hB hbw.size) (by simp) hlc hc hsm)
  have HB := hideIt hbw
  clear hx hbw
  generalize decD l = r at *
  go_enter Try.func28, Try.ntmps28
  go_wp2_with (go_at_call 39; refine HG.out.mono ?_; rintro x w' ⟨v', rfl, h1, h2⟩; have H1 := hideIt h1; have H2 := hideIt h2; clear h1 h2)
  go_ret3
  refine ⟨v', rfl, ?_, HB.out.trans (H2.out.mono HB.out.size)⟩
  have := H1.out
  exact ⟨this.1, this.2.imp id fun ⟨g, cp, cur, q1, q2, q3⟩ => ⟨g, cp, cur, q1, Nat.le_trans HB.out.size q2, q3⟩⟩

end Go.Proofs.Yticgbohkgjheaaa
