/-
  Combine, walked: combinable, Combine.
-/
import Derived.Test.YtihepogccgcfkaaDoorFOk
import Derived.BigQuiet
namespace Go.Proofs.YtihepogccgcfkaaDoor
open Go.RowKit Go.Shelf
set_option linter.unusedVariables false

/-- A string as a cell. -/
abbrev sv (l : List UInt8) : Value := .string (str l)
theorem Sl.strs {w : World} {B : Nat} {A : Option Addr} {us : List (List UInt8)} (h : Sl w B A 1 us.length (us.map sv)) (h0 : 0 < us.length) :
    ∃ b off, A = some ⟨b, off, none⟩ ∧ b < B ∧ ∀ k (hk : k < us.length), w.cell? ⟨b, off + k, none⟩ = some (.string (str us[k])) := by
  obtain ⟨b, off, e, hb, hc⟩ := h.2 (by rw [List.length_map]; exact h0)
  refine ⟨b, off, e, hb, fun k hk => hc k _ ?_⟩
  rw [List.getElem?_map, List.getElem?_eq_getElem hk]
  rfl
theorem Sl.nums {w : World} {B : Nat} {A : Option Addr} {cs : List Int} (h : Sl w B A 1 cs.length (cs.map iv)) (h0 : 0 < cs.length) :
    ∃ b off, A = some ⟨b, off, none⟩ ∧ b < B ∧ ∀ k (hk : k < cs.length), w.cell? ⟨b, off + k, none⟩ = some (.int .i64 cs[k]) := by
  obtain ⟨b, off, e, hb, hc⟩ := h.2 (by rw [List.length_map]; exact h0)
  refine ⟨b, off, e, hb, fun k hk => hc k _ ?_⟩
  rw [List.getElem?_map, List.getElem?_eq_getElem hk]
  rfl
/-- The length of the first unit. -/
def ul (us : List (List UInt8)) : Nat := (us.headD []).length
theorem ul_zero (us : List (List UInt8)) (h : 0 < us.length) : us[0].length = ul us := by
  cases us with
  | nil => simp at h
  | cons u r => rfl
/-- Has a combination a result? -/
def Gd (m : Int) (cs : List Int) (us : List (List UInt8)) : Prop := 0 < cs.length ∧ cs.length = us.length ∧ (∀ c ∈ cs, vd m c = true) ∧ (∀ u ∈ us, u.length = ul us) ∧ ul us % (m.toNat / 8) = 0
instance (m : Int) (cs : List Int) (us : List (List UInt8)) : Decidable (Gd m cs us) := by unfold Gd; infer_instance

set_option maxHeartbeats 1000000 in
set_option maxRecDepth 100000 in
theorem combinable_any (m : Int) (A : Option Addr) (ca : Nat) (cs : List Int) (D : Option Addr) (cd : Nat) (us : List (List UInt8)) (w : World) (hT : Tabs w) (hl : cs.length ≤ 100000)
    (hc : Sl w w.heap.size A 1 cs.length (cs.map iv)) (hu : Sl w w.heap.size D 1 us.length (us.map sv)) :
    Calls Tryd.prog 36 #[.int .i64 m, .slice A cs.length ca, .slice D us.length cd] w fun e w' => e = .returned (.bool (decide (Gd m cs us))) ∧ Below w.heap.size w w' := by
  by_cases h0 : cs.length = 0
  · rw [decide_eq_false (fun h => by have := h.1; omega)]
    have hq := int_eqlT 3 (a := (cs.length : Int)) (b := 0) (by omega)
    clear hT hc hu hl h0
    generalize cs.length = n at *
    generalize us.length = k at *
    go_enter Tryd.func36, Tryd.ntmps36
    go_wp2_with fail
    go_ret
    exact ⟨rfl, Below.refl _ _⟩
  have hq := int_eqlF 3 (a := (cs.length : Int)) (b := 0) (by omega)
  by_cases h1 : cs.length = us.length
  · have hq2 := neqF 3 us.length
    have h2 : 0 < us.length := by omega
    obtain ⟨bc, oc, rfl, hbc, hcc⟩ := hc.nums (by omega)
    obtain ⟨bu, ou, rfl, hbu, hcu⟩ := hu.strs h2
    rw [h1] at hq hl ⊢
    have HT := hideIt hT
    have HCC := hideIt hcc
    have HCU := hideIt hcu
    have HBC := hideIt hbc
    have HBU := hideIt hbu
    have HN := hideIt h1
    have HL := hideIt hl
    obtain ⟨n, hn⟩ : ∃ n, n = us.length := ⟨_, rfl⟩
    rw [← hn] at h2 hq hq2 ⊢
    have HNN := hideIt hn
    have HP := hideIt h2
    obtain ⟨bb, hbb⟩ : ∃ bb, bb = decide (Gd m cs us) := ⟨_, rfl⟩
    rw [← hbb]
    have HZ := hideIt hbb
    clear hbb hT hcc hcu hbc hbu h1 hl hn h2 hc hu h0
    go_enter Tryd.func36, Tryd.ntmps36
    go_wp2_with fail
    go_loopg [21] n (fun g s21 wr => ∃ k : Nat, k + g = n ∧ s21 = .int .i64 (k : Int) ∧ Aside (Below w.heap.size w wr ∧ (∀ c ∈ cs.take k, vd m c = true) ∧ (∀ u ∈ us.take k, u.length = ul us)))
    case atStart => exact ⟨0, by omega, rfl, Below.refl _ _, by simp, by simp⟩
    case round =>
      obtain ⟨k, hk, rfl, HI⟩ := hrel
      by_cases hlt : k < n
      · have hkc : k < cs.length := by rw [HN.out, ← HNN.out]; exact hlt
        have hku : k < us.length := by rw [← HNN.out]; exact hlt
        have h0u : 0 < us.length := by rw [← HNN.out]; exact HP.out
        have hc1 := (HI.out.1.cell (p := ⟨bc, oc + k, none⟩) HBC.out).trans (HCC.out k hkc)
        have hc2 := (HI.out.1.cell (p := ⟨bu, ou + k, none⟩) HBU.out).trans (HCU.out k hku)
        have hc3 : wr.cell? ⟨bu, ou, none⟩ = some (.string (str us[0])) := (HI.out.1.cell (p := ⟨bu, ou + 0, none⟩) HBU.out).trans (HCU.out 0 h0u)
        have hn0 : (0 : Int) < (us.length : Int) := by omega
        rw [← HNN.out] at hn0
        have hT1 := HT.out.keep HI.out.1
        have HS1 := hideIt (take_snoc cs k hkc)
        have HS2 := hideIt (take_snoc us k hku)
        have hm1 : cs[k] ∈ cs := List.getElem_mem hkc
        have hm2 : us[k] ∈ us := List.getElem_mem hku
        have hsz := str_size us[k]
        have hsz0 := str_size us[0]
        rw [ul_zero us h0u] at hsz0
        have hinc := inc_c 3 k (by have := HL.out; have := HNN.out; omega)
        have hki : (k : Int) < (n : Int) := by omega
        have HV := hideIt (fun j => valid_dr m cs[k] wr hT1 j)
        generalize hcv : cs[k] = c at *
        generalize huv : us[k] = u at *
        have HM1 := hideIt hm1
        have HM2 := hideIt hm2
        generalize str u = su at *
        generalize str us[0] = s0 at *
        clear hcv huv hm1 hm2 hkc hku h0u hT1
        by_cases hv : vd m c = true
        · rw [hv] at HV
          by_cases hlen : u.length = ul us
          · have hnq := neqF 3 (ul us)
            rw [← hlen] at hnq hsz0
            have HLN := hideIt hlen
            have HVD := hideIt hv
            clear hlen hv
            go_wp2_with fail
            go_quiet ((go_at_call 20; refine (HV.out _).mono ?_; rintro e w' ⟨rfl, hw⟩; exact ⟨rfl, _, hw.symm⟩))
            go_wp2_with fail
            go_roundg (gk - 1)
            case measure => omega
            case rel =>
              refine ⟨k + 1, by omega, by go_num, below_drewN HI.out.1 _, ?_, ?_⟩
              · rw [HS1.out]
                intro c' hc'
                rcases List.mem_append.1 hc' with h | h
                · exact HI.out.2.1 c' h
                · rw [List.mem_singleton] at h; rw [h]; exact HVD.out
              · rw [HS2.out]
                intro c' hc'
                rcases List.mem_append.1 hc' with h | h
                · exact HI.out.2.2 c' h
                · rw [List.mem_singleton] at h; rw [h]; exact HLN.out
          · have hnq := neqT 3 hlen
            have HE := hideIt (HZ.out.trans (decide_eq_false (fun h : Gd m cs us => hlen (h.2.2.2.1 u HM2.out))))
            clear hlen hv
            go_wp2_with fail
            go_quiet ((go_at_call 20; refine (HV.out _).mono ?_; rintro e w' ⟨rfl, hw⟩; exact ⟨rfl, _, hw.symm⟩))
            go_wp2_with fail
            go_ret
            exact ⟨by rw [HE.out]; rfl, below_drewN HI.out.1 _⟩
        · have HE := hideIt (HZ.out.trans (decide_eq_false (fun h : Gd m cs us => hv (h.2.2.1 c HM1.out))))
          rw [Bool.eq_false_iff.2 hv] at HV
          clear hv
          go_wp2_with fail
          go_quiet ((go_at_call 20; refine (HV.out _).mono ?_; rintro e w' ⟨rfl, hw⟩; exact ⟨rfl, _, hw.symm⟩))
          go_wp2_with fail
          go_ret
          exact ⟨by rw [HE.out]; rfl, below_drewN HI.out.1 _⟩
      · obtain rfl : k = n := by omega
        have hki : ¬ (k : Int) < (k : Int) := by omega
        have h0u : 0 < us.length := by rw [← HNN.out]; exact HP.out
        have hc3 : wr.cell? ⟨bu, ou, none⟩ = some (.string (str us[0])) := (HI.out.1.cell (p := ⟨bu, ou + 0, none⟩) HBU.out).trans (HCU.out 0 h0u)
        have hn0 : (0 : Int) < (us.length : Int) := by omega
        rw [← HNN.out] at hn0
        have hall1 : ∀ c ∈ cs, vd m c = true := by
          have h := HI.out.2.1
          rw [List.take_of_length_le (by rw [HN.out, ← HNN.out]; omega)] at h
          exact h
        have hall2 : ∀ u ∈ us, u.length = ul us := by
          have h := HI.out.2.2
          rw [List.take_of_length_le (by rw [← HNN.out]; omega)] at h
          exact h
        have hc0 : 0 < cs.length := by rw [HN.out]; exact h0u
        have hv0 := hall1 cs[0] (List.getElem_mem hc0)
        obtain ⟨mm, x, rfl, hx0, hm, _⟩ := vd_spec hv0
        have HW := hideIt (fun W => whole_any mm us[0] hm W)
        rw [ul_zero us h0u] at HW
        have hg : decide (Gd (mm : Int) cs us) = decide (ul us % (mm / 8) = 0) := by
          apply decide_eq_decide.2
          exact ⟨fun h => h.2.2.2.2, fun h => ⟨hc0, HN.out, hall1, hall2, h⟩⟩
        rw [← hg, ← HZ.out] at HW
        generalize str us[0] = s0 at *
        clear hx0 hv0
        clear hg hall1 hall2 hc0 hm h0u
        go_wp2_with (go_at_call 39; refine (HW.out _).mono ?_; rintro e w' ⟨rfl, rfl⟩)
        go_ret
        exact ⟨rfl, HI.out.1⟩
  · have hq2 := neqT 3 h1
    rw [decide_eq_false (fun h => h1 h.2.1)]
    clear hT hc hu hl h0 h1
    generalize cs.length = n at *
    generalize us.length = k at *
    go_enter Tryd.func36, Tryd.ntmps36
    go_wp2_with fail
    go_ret
    exact ⟨rfl, Below.refl _ _⟩

end Go.Proofs.YtihepogccgcfkaaDoor
