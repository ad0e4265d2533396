/-
  The program's isPerUnit, isIndex, alike, walked.
-/
import Derived.Test.YtpjgmekpnlpjaaaDoorEraE
namespace Go.Proofs.YtpjgmekpnlpjaaaDoor
open Go.RowKit
set_option linter.unusedVariables false
set_option linter.unusedSimpArgs false

abbrev bl (b : Bool) : Value := .bool b
def perB (x : Cd) (n : Nat) : Bool := decide (0 < n ∧ (n : Int) = wC x)

set_option maxHeartbeats 1000000 in
theorem perb_any (x : Cd) (A : Option Addr) (c : Nat) (w : World) (hT : Tabs w) (hx : CIn w x A) (D : Option Addr) (n cd : Nat) :
    Calls Tryd.prog 69 #[x.v A c, .slice D n cd] w fun e w' => e = .returned (.bool (perB x n)) ∧ Below w.heap.size w w' := by
  obtain ⟨W, hW⟩ : ∃ W, W = w.alloc (.cells (x.cs A c).toArray 24) := ⟨_, rfl⟩
  have hbw : Below w.heap.size w W := by rw [hW]; exact below_new w _
  have HB := hideIt hbw
  have HBC := hideIt (show BC W w.heap.size x A c by rw [hW]; exact BC.new c hx)
  have HV := hideIt (width_any x A c W (hT.keep hbw) HBC.out.cin)
  have hq := i_eql 3 .i64 (n : Int) (wC x)
  have HWE := hideIt hW
  clear hbw hT hx hW
  unfold perB
  by_cases h0 : (n : Int) > 0
  · by_cases h1 : (n : Int) = wC x
    · rw [decide_eq_true ⟨by omega, h1⟩]
      rw [decide_eq_true h1] at hq
      clear h1
      generalize wC x = z at *
      go_enter Tryd.func69, Tryd.ntmps69
      go_wp2_with (first
        | (go_at_call 21; rw [← HWE.out]; refine HV.out.mono ?_; rintro e w1 ⟨rfl, hb1⟩; have HB1 := hideIt hb1; clear hb1))
      go_ret
      exact ⟨rfl, HB.out.trans (HB1.out.mono HB.out.size)⟩
    · rw [decide_eq_false fun h => h1 h.2]
      rw [decide_eq_false h1] at hq
      clear h1
      generalize wC x = z at *
      go_enter Tryd.func69, Tryd.ntmps69
      go_wp2_with (first
        | (go_at_call 21; rw [← HWE.out]; refine HV.out.mono ?_; rintro e w1 ⟨rfl, hb1⟩; have HB1 := hideIt hb1; clear hb1))
      go_ret
      exact ⟨rfl, HB.out.trans (HB1.out.mono HB.out.size)⟩
  · rw [decide_eq_false fun h => h0 (by omega)]
    go_enter Tryd.func69, Tryd.ntmps69
    go_wp2_with fail
    go_ret
    rw [← HWE.out]
    exact ⟨rfl, HB.out⟩
set_option maxHeartbeats 1000000 in
theorem pers_any (x : Cd) (A : Option Addr) (c : Nat) (w : World) (hT : Tabs w) (hx : CIn w x A) (D : Option Addr) (n cd : Nat) :
    Calls Tryd.prog 73 #[x.v A c, .slice D n cd] w fun e w' => e = .returned (.bool (perB x n)) ∧ Below w.heap.size w w' := by
  obtain ⟨W, hW⟩ : ∃ W, W = w.alloc (.cells (x.cs A c).toArray 24) := ⟨_, rfl⟩
  have hbw : Below w.heap.size w W := by rw [hW]; exact below_new w _
  have HB := hideIt hbw
  have HBC := hideIt (show BC W w.heap.size x A c by rw [hW]; exact BC.new c hx)
  have HV := hideIt (width_any x A c W (hT.keep hbw) HBC.out.cin)
  have hq := i_eql 3 .i64 (n : Int) (wC x)
  have HWE := hideIt hW
  clear hbw hT hx hW
  unfold perB
  by_cases h0 : (n : Int) > 0
  · by_cases h1 : (n : Int) = wC x
    · rw [decide_eq_true ⟨by omega, h1⟩]
      rw [decide_eq_true h1] at hq
      clear h1
      generalize wC x = z at *
      go_enter Tryd.func73, Tryd.ntmps73
      go_wp2_with (first
        | (go_at_call 21; rw [← HWE.out]; refine HV.out.mono ?_; rintro e w1 ⟨rfl, hb1⟩; have HB1 := hideIt hb1; clear hb1))
      go_ret
      exact ⟨rfl, HB.out.trans (HB1.out.mono HB.out.size)⟩
    · rw [decide_eq_false fun h => h1 h.2]
      rw [decide_eq_false h1] at hq
      clear h1
      generalize wC x = z at *
      go_enter Tryd.func73, Tryd.ntmps73
      go_wp2_with (first
        | (go_at_call 21; rw [← HWE.out]; refine HV.out.mono ?_; rintro e w1 ⟨rfl, hb1⟩; have HB1 := hideIt hb1; clear hb1))
      go_ret
      exact ⟨rfl, HB.out.trans (HB1.out.mono HB.out.size)⟩
  · rw [decide_eq_false fun h => h0 (by omega)]
    go_enter Tryd.func73, Tryd.ntmps73
    go_wp2_with fail
    go_ret
    rw [← HWE.out]
    exact ⟨rfl, HB.out⟩

theorem isIndex_any (D : Option Addr) (n cd : Nat) (u : Int) (w : World) :
    Calls Tryd.prog 50 #[.slice D n cd, .int .i64 u] w fun e w' => e = .returned (.bool (decide (0 ≤ u ∧ u < n))) ∧ w = w' := by
  by_cases h0 : u ≥ 0
  · by_cases h1 : u < (n : Int)
    · rw [decide_eq_true ⟨h0, h1⟩]
      go_enter Tryd.func50, Tryd.ntmps50
      go_wp2_with fail
      go_ret
      exact ⟨rfl, rfl⟩
    · rw [decide_eq_false fun h => h1 h.2]
      go_enter Tryd.func50, Tryd.ntmps50
      go_wp2_with fail
      go_ret
      exact ⟨rfl, rfl⟩
  · rw [decide_eq_false fun h => h0 h.1]
    go_enter Tryd.func50, Tryd.ntmps50
    go_wp2_with fail
    go_ret
    exact ⟨rfl, rfl⟩

/-- Units of one length that consist of whole symbols. -/
def alk (m : Nat) (us : List (List UInt8)) : Bool := us.all fun u => decide (u.length = ul us ∧ u.length % (m / 8) = 0)

set_option maxHeartbeats 2000000 in
theorem alike_any (m : Nat) (hm : Fm m) (us : List (List UInt8)) (hl : us.length ≤ 100000) (D : Option Addr) (cd : Nat) (w : World) (hs : Sl w w.heap.size D 1 us.length (us.map sv)) (hbig : ∀ u ∈ us, u.length ≤ 9223372036854775807) :
    Calls Tryd.prog 41 #[.int .i64 (m : Int), .slice D us.length cd] w fun e w' => e = .returned (.bool (alk m us)) ∧ w = w' := by
  have HS := hideIt hs
  have HBG := hideIt hbig
  have hquo : binOp .quo 3 (.int .i64 (m : Int)) (.int .i64 8) = pure (.int .i64 ((m / 8 : Nat) : Int)) := nquo 3 m 8 (by decide) (by have := fm_le hm; omega)
  have hq0 := m8_pos hm
  have HQ0 := hideIt hq0
  obtain ⟨r, hr⟩ : ∃ r, r = alk m us := ⟨_, rfl⟩
  rw [← hr]
  have HR := hideIt hr
  unfold alk at HR
  have HREM := hideIt (fun x => nrem 3 x (m / 8) hq0)
  generalize m / 8 = q at *
  clear hs hr hbig hq0
  obtain ⟨n, hn⟩ : ∃ n, n = us.length := ⟨_, rfl⟩
  have HN := hideIt hn
  rw [← hn] at hl ⊢
  clear hn
  go_enter Tryd.func41, Tryd.ntmps41
  go_wp2_with fail
  go_loopg [9] n (fun g s9 wr => ∃ k : Nat, k + g = n ∧ s9 = .int .i64 (k : Int) ∧ wr = w ∧ Aside ((us.take k).all (fun u => decide (u.length = ul us ∧ u.length % q = 0)) = true))
  case atStart => exact ⟨0, by omega, rfl, rfl, by simp [Aside]⟩
  case round =>
    obtain ⟨k, hk, rfl, rfl, HI⟩ := hrel
    obtain ⟨w, rfl⟩ : ∃ x, x = wr := ⟨wr, rfl⟩
    by_cases hlt : k < n
    · have hku : k < us.length := by rw [← HN.out]; exact hlt
      have h0u : 0 < us.length := by omega
      obtain ⟨b, o, rfl, hb, hcell⟩ := HS.out.strs h0u
      have hc1 := hcell k hku
      have hc0 : w.cell? ⟨b, o, none⟩ = some (.string (str us[0])) := hcell 0 h0u
      have hsz := str_size us[k]
      have hsz0 := str_size us[0]
      rw [ul_zero us h0u] at hsz0
      have HT := hideIt (take_snoc us k hku)
      have HF := hideIt (fun h => all_at (p := fun u : List UInt8 => decide (u.length = ul us ∧ u.length % q = 0)) hku h)
      have hinc := inc_c 3 k (by omega)
      have hki : (k : Int) < (n : Int) := by omega
      have h0i : (0 : Int) < (n : Int) := by omega
      have hbg := HBG.out _ (List.getElem_mem hku)
      generalize us[k] = u at *
      generalize str u = su at *
      generalize str us[0] = s0 at *
      clear hcell hku h0u hb HS
      by_cases hlen : u.length = ul us
      · have hnq := neqF 3 (ul us)
        rw [← hlen] at hnq hsz0
        have HLN := hideIt hlen
        have hrem := HREM.out u.length
        clear hlen
        by_cases hz : u.length % q = 0
        · rw [hz] at hrem
          have hn2 := neqF 3 0
          have HZ := hideIt hz
          clear hz
          go_wp2_with fail
          go_roundg (gk - 1)
          case measure => omega
          case rel =>
            refine ⟨k + 1, by omega, by go_num, rfl, ?_⟩
            show (us.take (k + 1)).all _ = true
            rw [HT.out, List.all_append, HI.out]
            simp [HLN.out, ← HZ.out]
        · have hn2 : binOp .neq 3 (.int .i64 ((u.length % q : Nat) : Int)) (.int .i64 0) = pure (.bool true) := neqT (a := u.length % q) (b := 0) 3 hz
          have HE := hideIt (HF.out (decide_eq_false fun h => hz h.2))
          clear hz
          generalize u.length % q = rr at *
          go_wp2_with fail
          go_ret
          exact ⟨by rw [HR.out, HE.out]; rfl, rfl⟩
      · have hnq := neqT 3 hlen
        have HE := hideIt (HF.out (decide_eq_false fun h => hlen h.1))
        clear hlen
        go_wp2_with fail
        go_ret
        exact ⟨by rw [HR.out, HE.out]; rfl, rfl⟩
    · have hki : ¬ (k : Int) < (n : Int) := by omega
      have HE : Hid (r = true) := by
        have := HI.out
        rw [List.take_of_length_le (by rw [← HN.out]; omega)] at this
        rw [HR.out]; exact this
      go_wp2_with fail
      go_ret
      exact ⟨by rw [HE.out]; rfl, rfl⟩
end Go.Proofs.YtpjgmekpnlpjaaaDoor
