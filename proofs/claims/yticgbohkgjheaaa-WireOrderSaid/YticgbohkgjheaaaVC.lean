/-
  What decoded values are bounded by; the closure of WireCanonical, walked.
-/
import Derived.Test.YticgbohkgjheaaaVT
namespace Go.Proofs.Yticgbohkgjheaaa
open Go.RowKit
set_option linter.unusedVariables false

theorem Sl.drewN2 {w : World} {size n : Nat} {A : Option Addr} {xs : List Value} (h : Sl w w.heap.size A size n xs) (k : Nat) : Sl (w.drewN k) (w.drewN k).heap.size A size n xs := h
theorem Sl.next {w w' : World} {size n : Nat} {A : Option Addr} {xs : List Value} (h : Sl w w.heap.size A size n xs) (hb : Below w.heap.size w w') : Sl w' w'.heap.size A size n xs := (h.below hb).wide hb.size
theorem decB_len (l : List UInt8) : (decB l).1.length ≤ l.length := by
  unfold decB
  by_cases he : (decLen 1 l).2.2 = 0
  · rw [if_neg (by simp [he])]
    simp only [List.length_take, List.length_drop]
    omega
  · rw [if_pos he]; simp
theorem decIs_facts (l : List UInt8) : ∀ (n i : Nat), (decIs l n i).1.length ≤ n ∧ ∀ x ∈ (decIs l n i).1, -9223372036854775808 ≤ x ∧ x ≤ 9223372036854775807
  | 0, i => by simp [decIs]
  | n + 1, i => by
    unfold decIs
    by_cases he : (dec (l.drop i)).2.2 = 0
    · rw [if_neg (by simp [he])]
      obtain ⟨_, _, _, b4, b5⟩ := dec_ok _ he
      obtain ⟨q1, q2⟩ := decIs_facts l n (i + (dec (l.drop i)).2.1)
      unfold glue
      split
      · simp
      · simp only [List.singleton_append, List.length_cons]
        exact ⟨by omega, fun x hx => by rcases List.mem_cons.1 hx with rfl | hx; exact ⟨b4, b5⟩; exact q2 x hx⟩
    · rw [if_pos he]; simp
theorem decI_facts (l : List UInt8) : (decI l).1.length ≤ l.length ∧ ∀ x ∈ (decI l).1, -9223372036854775808 ≤ x ∧ x ≤ 9223372036854775807 := by
  unfold decI
  by_cases he : (decLen 1 l).2.2 = 0
  · rw [if_neg (by simp [he])]
    have h1 := decLen_ok 1 (by omega) l he
    obtain ⟨q1, q2⟩ := decIs_facts l (decLen 1 l).1 (decLen 1 l).2.1
    exact ⟨by omega, q2⟩
  · rw [if_pos he]; simp
theorem decD_facts (l : List UInt8) : (decD l).1.length ≤ l.length ∧ ∀ d ∈ (decD l).1, d.length = 16 := by
  unfold decD
  by_cases he : (decLen 16 l).2.2 = 0
  · rw [if_neg (by simp [he])]
    have h1 := decLen_ok 16 (by omega) l he
    obtain ⟨q1, q2⟩ := cut16_len (l.drop (decLen 16 l).2.1) (decLen 16 l).1 (by rw [List.length_drop]; omega)
    exact ⟨by simp only; omega, q1⟩
  · rw [if_pos he]; simp
theorem dec_range (l : List UInt8) : -9223372036854775808 ≤ (dec l).1 ∧ (dec l).1 ≤ 9223372036854775807 := by
  by_cases he : (dec l).2.2 = 0
  · exact (dec_ok l he).2.2.2
  · rw [(dec_bad l he).1]; omega
theorem dec_used (l : List UInt8) : (dec l).2.1 ≤ 9 := by
  by_cases he : (dec l).2.2 = 0
  · exact (dec_ok l he).2.1
  · rw [(dec_bad l he).2.1]; omega

set_option maxHeartbeats 400000 in
set_option maxRecDepth 100000 in
theorem is_any (g : Nat) (A : Option Addr) (cap : Nat) (l : List UInt8) (A' : Option Addr) (c' : Nat) (cl : List UInt8) (u e : Nat) (w : World) (hcl : w.cell? ⟨g, 0, none⟩ = some (.slice A l.length cap)) (hx : Sl w w.heap.size A 1 l.length (l.map bv))
    (hlc : l.length ≤ cap) (hc : cap ≤ maxLen) (hl : l.length ≤ 1000000) (hS : Sl w w.heap.size A' 1 cl.length (cl.map bv)) (hcl2 : cl.length ≤ 1000000000) (h : e = 0 → cl = l.take u ∧ u ≤ l.length) :
    Calls Try.prog 31 #[.slice A' cl.length c', .int .i64 (u : Int), .int .i64 (e : Int), .pointer (some ⟨g, 0, none⟩)] w fun x w' => x = .returned (.bool true) ∧ ∃ n, w' = w.drewN n := by
  have hcm := hc
  unfold maxLen at hcm
  by_cases he : e = 0
  · obtain ⟨h1, h2⟩ := h he
    subst he
    have hm1 : min (u : Int) (l.length : Int) = u := by omega
    have hm2 : max 0 (u : Int) = u := by omega
    obtain ⟨Ax, hcut, hsl⟩ := cut_to Try.underlying26 size1_8 A (h := u) h2 hlc
    have hcut1 := hcut w
    have hq := hsl w _ _ hx
    have hlt : (l.take u).length = u := by rw [List.length_take]; omega
    rw [Nat.mul_one, ← List.map_take] at hq
    have hsame := same_any A' Ax _ _ c' cap cl (l.take u) w hS (by rw [hlt]; exact hq) hcl2 (by omega)
    rw [hlt] at hsame
    have HS := hideIt hsame
    have HE := hideIt h1
    clear h hx hS hcut hsl hq hlt hsame h1
    go_enter Try.func31, Try.ntmps31
    go_wp2_with (go_at_call 12; refine HS.out.mono ?_; rintro x w' ⟨rfl, n, rfl⟩)
    go_ret
    exact ⟨ret_b (decide_eq_true HE.out), n, rfl⟩
  · have T0 : ((e : Int) != 0) = true := by rw [bne_iff_ne]; omega
    clear h hx hS
    go_enter Try.func31, Try.ntmps31
    go_wp2
    go_ret
    exact ⟨rfl, 0, rfl⟩

end Go.Proofs.Yticgbohkgjheaaa
