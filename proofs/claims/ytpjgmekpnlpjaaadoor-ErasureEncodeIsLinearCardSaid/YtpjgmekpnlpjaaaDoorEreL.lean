/-
  Encoding is linear.
-/
import Derived.Test.YtpjgmekpnlpjaaaDoorLwE
namespace Go.Proofs.YtpjgmekpnlpjaaaDoor
open Go.RowKit
set_option linter.unusedVariables false
set_option linter.unusedSimpArgs false

theorem alk_eq (m : Nat) (us : List (List UInt8)) : alk m us = (us.map List.length).all fun n => decide (n = (us.map List.length).headD 0 ∧ n % (m / 8) = 0) := by
  unfold alk ul
  cases us with
  | nil => rfl
  | cons u r => simp [List.all_map, Function.comp_def]
theorem zip_len {a b : List (List UInt8)} (hl : a.map List.length = b.map List.length) : (List.zipWith xr a b).map List.length = a.map List.length := by
  have hab : a.length = b.length := by simpa using congrArg List.length hl
  refine List.ext_getElem (by simp; omega) fun i h1 h2 => ?_
  simp only [List.length_map, List.length_zipWith] at h1 h2
  simp only [List.getElem_map, List.getElem_zipWith]
  have : (a.map List.length)[i]'(by simp; omega) = (b.map List.length)[i]'(by simp; omega) := by simp only [hl]
  simp only [List.getElem_map] at this
  exact xr_len _ _ this
theorem xr_zz (n : Nat) : xr (List.replicate n 0) (List.replicate n 0) = List.replicate n 0 := by
  unfold xr
  rw [List.zipWith_replicate]
  simp
theorem alk_gd {m : Nat} {r : List Int} {a : List (List UInt8)} (hr : r.length = a.length) (h0 : 0 < r.length) (hv : ∀ c ∈ r, vd (m : Int) c = true) (hal : alk m a = true) : Gd (m : Int) r a := by
  unfold alk at hal
  rw [List.all_eq_true] at hal
  have h := fun u hu => of_decide_eq_true (hal u hu)
  refine ⟨h0, hr, hv, fun u hu => (h u hu).1, ?_⟩
  rw [Int.toNat_natCast]
  have h1 := h a[0] (List.getElem_mem (by omega))
  rw [← h1.1]
  exact h1.2
theorem cbS_is {m : Nat} {r : List Int} {a : List (List UInt8)} (h : Gd (m : Int) r a) : cbS (m : Int) r a = cmbF m (List.replicate (ul a) 0) ((r.map Int.toNat).zip a) := by
  unfold cbS
  rw [if_pos h, Int.toNat_natCast]
  unfold cmbK prs
  rw [List.take_of_length_le (by simp; omega)]
theorem cbS_len {m : Nat} (hm : Fm m) {r : List Int} {a : List (List UInt8)} (h : Gd (m : Int) r a) : (cbS (m : Int) r a).length = ul a := by
  unfold cbS
  rw [if_pos h, Int.toNat_natCast]
  have h5 := h.2.2.2.2
  rw [Int.toNat_natCast] at h5
  exact cmbK_len hm r a h.2.2.2.1 h5 _
theorem ul_map (a : List (List UInt8)) : ul a = (a.map List.length).headD 0 := by
  unfold ul
  cases a <;> rfl
theorem cbS_add {m : Nat} (hm : Fm m) {r : List Int} {a b : List (List UInt8)} (hr : r.length = a.length) (h0 : 0 < r.length) (hv : ∀ c ∈ r, vd (m : Int) c = true) (hal : alk m a = true) (hl : a.map List.length = b.map List.length) :
    cbS (m : Int) r (List.zipWith xr a b) = xr (cbS (m : Int) r a) (cbS (m : Int) r b) ∧ (cbS (m : Int) r a).length = (cbS (m : Int) r b).length := by
  have hab : a.length = b.length := by simpa using congrArg List.length hl
  have hz := zip_len hl
  have hzl : (List.zipWith xr a b).length = a.length := by simp; omega
  have ga := alk_gd hr h0 hv hal
  have gb := alk_gd (hr.trans hab) h0 hv (by rw [alk_eq, ← hl, ← alk_eq]; exact hal)
  have gz := alk_gd (hr.trans hzl.symm) h0 hv (by rw [alk_eq, hz, ← alk_eq]; exact hal)
  have ub : ul b = ul a := by rw [ul_map, ul_map, hl]
  have uz : ul (List.zipWith xr a b) = ul a := by rw [ul_map, ul_map, hz]
  have h5 := ga.2.2.2.2
  rw [Int.toNat_natCast] at h5
  refine ⟨?_, by rw [cbS_len hm ga, cbS_len hm gb, ub]⟩
  rw [cbS_is ga, cbS_is gb, cbS_is gz, ub, uz]
  have := cmb_add hm (ul a) (r.map Int.toNat) a b (List.replicate (ul a) 0) (List.replicate (ul a) 0) (by unfold whl; rw [List.length_replicate]; exact h5) (by simp) (by simp) (by simp; omega) (by simp; omega) ga.2.2.2.1 (fun u hu => by rw [← ub]; exact gb.2.2.2.1 u hu)
  rw [xr_zz] at this
  exact this
/-- The units of the exclusive or of two lists of data units. -/
theorem enc_lin (x : Cd) {a b : List (List UInt8)} (hl : a.map List.length = b.map List.length) :
    (encR x a).2 = (encR x (List.zipWith xr a b)).2 ∧ (encR x b).2 = (encR x (List.zipWith xr a b)).2 ∧ (encR x (List.zipWith xr a b)).1 = List.zipWith xr (encR x a).1 (encR x b).1 ∧ (encR x a).1.map List.length = (encR x b).1.map List.length := by
  have hab : a.length = b.length := by simpa using congrArg List.length hl
  have hz := zip_len hl
  have hzl : (List.zipWith xr a b).length = a.length := by simp; omega
  have eb : alk (fC x) b = alk (fC x) a := by rw [alk_eq, ← hl, ← alk_eq]
  have ez : alk (fC x) (List.zipWith xr a b) = alk (fC x) a := by rw [alk_eq, hz, ← alk_eq]
  unfold encR
  rw [show alk x.field.toNat b = alk x.field.toNat a from eb, show alk x.field.toNat (List.zipWith xr a b) = alk x.field.toNat a from ez, hzl, ← hab]
  by_cases h : vC x = true ∧ (a.length : Int) = x.data ∧ alk x.field.toNat a = true
  · rw [if_pos h, if_pos h, if_pos h]
    obtain ⟨m, n, hvc⟩ := vC_spec h.1
    have han : a.length = n := by have := h.2.1; rw [hvc.d] at this; omega
    have hal : alk m a = true := by have := h.2.2; rw [hvc.fn] at this; exact this
    have key : ∀ r ∈ x.par, cbS x.field r (List.zipWith xr a b) = xr (cbS x.field r a) (cbS x.field r b) ∧ (cbS x.field r a).length = (cbS x.field r b).length := fun r hr => by
      obtain ⟨q1, q2, _⟩ := hvc.row r hr
      have hp := hvc.pos
      rw [hvc.f] at q2 ⊢
      exact cbS_add hvc.fm (q1.trans han.symm) (by omega) q2 hal hl
    refine ⟨rfl, rfl, ?_, ?_⟩
    · show List.zipWith xr a b ++ _ = List.zipWith xr (a ++ _) (b ++ _)
      rw [List.zipWith_append hab]
      congr 1
      refine List.ext_getElem (by simp) fun i h1 h2 => ?_
      simp only [List.length_map] at h1
      simp only [List.getElem_map, List.getElem_zipWith]
      exact (key _ (List.getElem_mem h1)).1
    · show (a ++ _).map List.length = (b ++ _).map List.length
      rw [List.map_append, List.map_append, hl, List.map_map, List.map_map]
      congr 1
      exact List.map_congr_left fun r hr => (key r hr).2
  · rw [if_neg h, if_neg h, if_neg h]
    exact ⟨rfl, rfl, rfl, rfl⟩
theorem enc_short (x : Cd) {a : List (List UInt8)} (ha : ∀ u ∈ a, u.length ≤ 64) : ∀ u ∈ (encR x a).1, u.length ≤ 64 := by
  intro u hu
  unfold encR at hu
  split at hu
  · next h =>
    rcases List.mem_append.1 hu with hu | hu
    · exact ha u hu
    · obtain ⟨r, hr, rfl⟩ := List.mem_map.1 hu
      obtain ⟨m, n, hvc⟩ := vC_spec h.1
      have han : a.length = n := by have := h.2.1; rw [hvc.d] at this; omega
      obtain ⟨q1, q2, _⟩ := hvc.row r hr
      have hp := hvc.pos
      have hal : alk m a = true := by have := h.2.2; rw [hvc.fn] at this; exact this
      rw [hvc.f] at q2 ⊢
      rw [cbS_len hvc.fm (alk_gd (q1.trans han.symm) (by omega) q2 hal), ← ul_zero a (by omega)]
      exact ha _ (List.getElem_mem _)
  · cases hu
theorem enc_len (x : Cd) (A : Option Addr) (c : Nat) (w : World) (hT : Tabs w) (hx : CIn w x A) (us : List (List UInt8)) (hl : us.length ≤ 50000) (hbig : ∀ u ∈ us, u.length ≤ 100000) (D : Option Addr) (cd : Nat) (hs : Sl w w.heap.size D 1 us.length (us.map sv)) (X : List (List UInt8)) (N : Nat) (ee : Int) (h1 : (encR x us).1 = X) (h2 : X.length = N) (h3 : (encR x us).2 = ee) :
    Calls Tryd.prog 16 #[x.v A c, .slice D us.length cd] w fun e w' => ∃ B cb, e = .returned (.tuple #[.slice B N cb, .int .i64 ee]) ∧ w'.ownsRow w.heap.size 9 1 (.slice B N cb) N (X.map sv) ∧ Below w.heap.size w w' := by
  have h := encode_any x A c w hT hx us hl hbig D cd hs
  refine h.mono ?_
  rintro e w' ⟨v, rfl, ho, hb⟩
  rw [h1, h2] at ho
  rw [h3]
  obtain ⟨B, cb, rfl, _, _⟩ := own_form ho
  exact ⟨B, cb, rfl, ho, hb⟩
end Go.Proofs.YtpjgmekpnlpjaaaDoor
