/-
  The decoding of a list of integers, walked: the closure of wire.GetInts, wire.getList at int, wire.GetInts.
-/
import Derived.Test.YticgbohkgjheaaaDec
namespace Go.Proofs.Yticgbohkgjheaaa
open Go.RowKit
set_option linter.unusedVariables false

theorem Try.info3 : (Try.prog.info? 3).map (fun i => (i.zero, i.size, i.bytes)) = some (some (.int .i64 0), 1, 8) := by kernel_rfl

set_option maxHeartbeats 400000 in
set_option maxRecDepth 100000 in
theorem elemInt (A : Option Addr) (B cap g k : Nat) (l : List UInt8) (w : World) (hcl : w.cell? ⟨g, 0, none⟩ = some (.slice A l.length cap)) (hx : Sl w B A 1 l.length (l.map bv)) (hlc : l.length ≤ cap) (hc : cap ≤ maxLen)
    (hk : k ≤ l.length) (n : Int) (u e : Nat) (hd : dec (l.drop k) = (n, u, e)) :
    Calls Try.prog 36 #[.int .i64 (k : Int), .pointer (some ⟨g, 0, none⟩)] w fun x w' => x = .returned (.tuple #[.int .i64 n, .int .i64 (u : Int), .int .i64 (e : Int)]) ∧ w = w' := by
  obtain ⟨A', hcut, hsl⟩ := cut_from Try.underlying26 size1_8 A hk hlc
  have hS : Sl w B A' 1 (l.drop k).length ((l.drop k).map bv) := by
    have := hsl w B _ hx
    simpa [List.map_drop] using this
  have hcut1 := hcut w
  have hG := getInt_c A' B (cap - k) (l.drop k) w hS (by rw [List.length_drop]; omega) (by omega) n u e hd
  rw [List.length_drop] at hG
  have HG := hideIt hG
  have hcm := hc
  unfold maxLen at hcm
  clear hS hsl hx hG hcut hd hc
  go_enter Try.func36, Try.ntmps36
  go_wp2_with (go_at_call 21; refine HG.out.mono ?_; rintro x w' ⟨rfl, rfl⟩)
  go_ret3
  exact ⟨rfl, rfl⟩

theorem set_mid (xs : List Int) (n : Nat) (v : Int) : (xs.map iv ++ List.replicate (n + 1) (iv 0)).set xs.length (iv v) = (xs ++ [v]).map iv ++ List.replicate n (iv 0) := by
  rw [List.set_append_right _ _ (by simp), List.length_map, Nat.sub_self, List.replicate_succ, List.set_cons_zero]
  simp

theorem glue_bad {α : Type} (xs : List α) (e : Nat) (he : e ≠ 0) : glue xs (([], 0, e) : List α × Nat × Nat) = ([], 0, e) := by
  unfold glue; rw [if_pos he]
theorem glue_end {α : Type} (xs : List α) (i : Nat) : glue xs (([], i, 0) : List α × Nat × Nat) = (xs, i, 0) := by
  unfold glue; simp
theorem glue_step {α : Type} (xs : List α) (x : α) (r : List α × Nat × Nat) : glue xs (glue [x] r) = glue (xs ++ [x]) r := by
  unfold glue
  by_cases h : r.2.2 = 0
  · rw [if_neg (by simp [h])]; simp [h]
  · rw [if_pos h]; simp [h]

theorem glue_nil (l : List UInt8) (n i : Nat) : glue [] (decIs l n i) = decIs l n i := by
  cases n with
  | zero => exact glue_end [] i
  | succ n =>
    unfold decIs
    by_cases h : (dec (l.drop i)).2.2 = 0
    · rw [if_neg (by simp [h])]; exact glue_step [] _ _
    · rw [if_pos h]; exact glue_bad [] _ h
theorem decIs_bad {l : List UInt8} {m i : Nat} {n : Int} {u e : Nat} (hd : dec (l.drop i) = (n, u, e)) (he : e ≠ 0) (xs : List Int) : glue xs (decIs l (m + 1) i) = ([], 0, e) := by
  unfold decIs
  rw [hd, if_pos he, glue_bad _ _ he]
theorem decIs_go {l : List UInt8} {m i : Nat} {n : Int} {u : Nat} (hd : dec (l.drop i) = (n, u, 0)) (xs : List Int) : glue xs (decIs l (m + 1) i) = glue (xs ++ [n]) (decIs l m (i + u)) := by
  conv => lhs; unfold decIs
  rw [hd, if_neg (by simp), glue_step]

set_option maxHeartbeats 800000 in
set_option maxRecDepth 100000 in
theorem getListInt_any (A : Option Addr) (B cap g : Nat) (l : List UInt8) (w : World) (hcl : w.cell? ⟨g, 0, none⟩ = some (.slice A l.length cap)) (hx : Sl w B A 1 l.length (l.map bv)) (hB : B ≤ w.heap.size) (hgB : g < w.heap.size)
    (hlc : l.length ≤ cap) (hc : cap ≤ maxLen) (hsm : l.length ≤ 1000000000) :
    Calls Try.prog 37 #[.slice A l.length cap, .int .i64 1, .func (.func 36) #[] #[.pointer (some ⟨g, 0, none⟩)]] w fun x w' =>
      ∃ v', x = .returned (.tuple #[v', .int .i64 ((decI l).2.1 : Int), .int .i64 ((decI l).2.2 : Int)]) ∧ w'.ownsRow w.heap.size 3 1 v' (decI l).1.length ((decI l).1.map iv) ∧ Below w.heap.size w w' := by
  obtain ⟨i0, hi, hz0, hz1, hz2⟩ := info_parts Try.info3
  have hcm := hc
  unfold maxLen at hcm
  obtain ⟨n, u, e, hd⟩ : ∃ n u e, decLen 1 l = (n, u, e) := ⟨_, _, _, rfl⟩
  have h1 := decLen_ok 1 (by omega) l
  rw [hd] at h1
  simp only at h1
  have hL : decI l = if e ≠ 0 then ([], 0, e) else decIs l n u := by unfold decI; rw [hd]
  have HL := hideIt hL
  have hgl := getLength1_any A B cap l w hx hlc hc
  rw [hd] at hgl
  have hgl2 : Calls Try.prog 34 #[.slice A l.length cap, .int .i64 1] w fun x w' => x = .returned (.tuple #[.int .i64 (n : Int), .int .i64 (u : Int), .int .i64 (e : Int)]) ∧ w = w' := hgl
  have HG := hideIt hgl2
  have HX := hideIt hx
  have HCL := hideIt hcl
  clear hL hd hgl hgl2 hx hcl
  by_cases he : e = 0
  · have h2 := h1 he
    clear h1
    obtain ⟨b1, b2, b3⟩ := h2
    have HV := hideIt (HL.out.trans (if_neg (by simp [he])))
    have T0 : ((e : Int) != 0) = false := by rw [he]; rfl
    clear he
    go_enter Try.func37, Try.ntmps37
    go_wp2_with (first
      | (go_at_call 34; refine HG.out.mono ?_; rintro x w' ⟨rfl, rfl⟩)
      | (at_make; refine wpList_make_full _ rfl (.tmp 27) (.tmp 27) 22 rfl w.heap.size 3 i0 (.int .i64 0) 1 Try.underlying22 hi hz0 hz1 .i64 .i64 n n n rfl rfl rfl rfl (by rw [hz2]; omega) (by unfold maxLen; omega) (Nat.le_refl _) ?_; intro w1 hown1 hg1; have HO := hideIt hown1; have HGR := hideIt ((Below.refl w.heap.size w).grown hg1 (Nat.le_refl _) (by simp)); clear hown1 hg1))
    go_loopg [10, 31] n (fun gg s10 s31 wr => ∃ (k i : Nat) (xs : List Int), gg + k = n ∧ i ≤ l.length ∧ s31 = .int .i64 k ∧ s10 = .int .i64 i ∧ Hid (xs.length = k) ∧
      Hid (wr.ownsRow w.heap.size 3 1 (.slice (some ⟨w.heap.size, 0, none⟩) n n) n (xs.map iv ++ List.replicate (n - k) (iv 0))) ∧ Hid (Below w.heap.size w wr) ∧ Hid (decIs l n u = glue xs (decIs l (n - k) i)))
    case atStart =>
      refine ⟨0, u, [], by omega, by omega, rfl, rfl, rfl, ?_, HGR, (glue_nil l n u).symm⟩
      have := HO.out
      rw [Nat.mul_one] at this
      have e0 : (madeCells (Value.int .i64 0).cells n).toList = List.replicate n (.int .i64 0) := toList_madeCells_one _ n
      rw [e0] at this
      exact this
    case round =>
      obtain ⟨k, i, xs, hg, hil, rfl, rfl, HXL, HOW, HBL, HDI⟩ := hrel
      by_cases hk : k < n
      · obtain ⟨m, hm⟩ : ∃ m, n - k = m + 1 := ⟨n - k - 1, by omega⟩
        obtain ⟨n', u', e', hd'⟩ : ∃ n' u' e', dec (l.drop i) = (n', u', e') := ⟨_, _, _, rfl⟩
        have h1' := dec_ok (l.drop i)
        rw [hd', List.length_drop] at h1'
        simp only at h1'
        rw [hm] at HOW HDI
        have hc1 : wr.cell? ⟨w.heap.size, k, none⟩ = some (.int .i64 0) := by
          rw [HOW.out.cellAt k (by omega), List.getElem?_append_right (by simp [HXL.out]), List.length_map, HXL.out, Nat.sub_self]
          rfl
        have hf1 : wr.frozen? ⟨w.heap.size, k, none⟩ = false := HOW.out.frozenAt k
        have hcg : wr.cell? ⟨g, 0, none⟩ = some (.slice A l.length cap) := (HBL.out.cell (p := ⟨g, 0, none⟩) hgB).trans HCL.out
        have HE := hideIt (elemInt A B cap g i l wr hcg (HX.out.below (HBL.out.mono hB)) hlc hc hil n' u' e' hd')
        have HD' := hideIt hd'
        have HM := hideIt hm
        clear hcg hd' hm
        by_cases he' : e' = 0
        · obtain ⟨c1, c2, c3, c4, c5⟩ := h1' he'
          have HD2 : Hid (dec (l.drop i) = (n', u', 0)) := by rw [← he']; exact HD'
          have T1 : ((e' : Int) != 0) = false := by rw [he']; rfl
          clear he' h1'
          go_wp2_with (go_at_call 36; refine HE.out.mono ?_; rintro x w' ⟨rfl, rfl⟩)
          go_roundg (gk - 1)
          case measure => omega
          case rel =>
            refine ⟨k + 1, i + u', xs ++ [n'], by omega, by omega, by go_num, by go_num, by show (xs ++ [n']).length = k + 1; rw [List.length_append, HXL.out]; rfl, ?_, HBL.out.setCell (Nat.le_refl _) _, ?_⟩
            · have h7 := (HOW.out.stored k (.int .i64 n')).1
              have h8 := set_mid xs m n'
              rw [HXL.out] at h8
              rw [h8] at h7
              have h9 : n - (k + 1) = m := by have := HM.out; omega
              rw [h9]
              exact h7
            · have h9 : n - (k + 1) = m := by have := HM.out; omega
              rw [h9]
              exact HDI.out.trans (decIs_go HD2.out xs)
        · have HE' := hideIt he'
          have T1 : ((e' : Int) != 0) = true := by rw [bne_iff_ne]; omega
          clear he' h1'
          go_wp2_with (go_at_call 36; refine HE.out.mono ?_; rintro x w' ⟨rfl, rfl⟩)
          go_ret3
          rw [HV.out, HDI.out, decIs_bad HD'.out HE'.out]
          exact ⟨_, rfl, World.ownsRow_nil _ _ _ _, HBL.out⟩
      · go_wp2
        go_ret3
        have hkn : n - k = 0 := by omega
        have h3 := HDI.out
        rw [hkn] at h3
        have h4 : decIs l n u = (xs, i, 0) := h3.trans (glue_end xs i)
        rw [HV.out, h4]
        have h5 := HOW.out
        rw [hkn, List.replicate_zero, List.append_nil] at h5
        have h6 : n = xs.length := by have := HXL.out; omega
        refine ⟨_, rfl, ?_, HBL.out⟩
        simp only [← h6]
        exact h5
  · have HV := hideIt (HL.out.trans (if_pos he))
    have T0 : ((e : Int) != 0) = true := by rw [bne_iff_ne]; omega
    clear he h1
    go_enter Try.func37, Try.ntmps37
    go_wp2_with (go_at_call 34; refine HG.out.mono ?_; rintro x w' ⟨rfl, rfl⟩)
    go_ret3
    rw [HV.out]
    exact ⟨_, rfl, World.ownsRow_nil _ _ _ _, Below.refl _ _⟩

set_option maxHeartbeats 400000 in
set_option maxRecDepth 100000 in
theorem getInts_any (A : Option Addr) (B cap : Nat) (l : List UInt8) (w : World) (hx : Sl w B A 1 l.length (l.map bv)) (hB : B ≤ w.heap.size)
    (hlc : l.length ≤ cap) (hc : cap ≤ maxLen) (hsm : l.length ≤ 1000000000) :
    Calls Try.prog 25 #[.slice A l.length cap] w fun x w' =>
      ∃ v', x = .returned (.tuple #[v', .int .i64 ((decI l).2.1 : Int), .int .i64 ((decI l).2.2 : Int)]) ∧ w'.ownsRow w.heap.size 3 1 v' (decI l).1.length ((decI l).1.map iv) ∧ Below w.heap.size w w' := by
  have hmf : ∀ (fn : Fn) (first cap : Array Value) (w : World), (Instr.makeFunc fn first cap).run Try.prog w = .ok (.func fn first cap) w := fun _ _ _ _ => rfl
  have hcl : (w.alloc (.cells #[.slice A l.length cap] 26)).cell? ⟨w.heap.size, 0, none⟩ = some (.slice A l.length cap) := by
    rw [World.cell?_alloc_at _ _ _ _ rfl]; rfl
  have hbw : Below w.heap.size w (w.alloc (.cells #[.slice A l.length cap] 26)) := (Below.refl _ _).alloc (Nat.le_refl _) _
  have HG := hideIt (getListInt_any A B cap w.heap.size l _ hcl (hx.below (hbw.mono hB)) (Nat.le_trans hB hbw.size) (by simp) hlc hc hsm)
  have HB := hideIt hbw
  clear hx hbw
  generalize decI l = r at *
  go_enter Try.func25, Try.ntmps25
  go_wp2_with (go_at_call 37; refine HG.out.mono ?_; rintro x w' ⟨v', rfl, h1, h2⟩; have H1 := hideIt h1; have H2 := hideIt h2; clear h1 h2)
  go_ret3
  refine ⟨v', rfl, ?_, HB.out.trans (H2.out.mono HB.out.size)⟩
  have := H1.out
  exact ⟨this.1, this.2.imp id fun ⟨g, cp, cur, q1, q2, q3⟩ => ⟨g, cp, cur, q1, Nat.le_trans HB.out.size q2, q3⟩⟩

end Go.Proofs.Yticgbohkgjheaaa
