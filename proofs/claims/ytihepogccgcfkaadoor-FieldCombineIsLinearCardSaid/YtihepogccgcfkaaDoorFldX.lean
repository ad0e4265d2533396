/-
  Xor and Scale, walked; the examples that every statement of layer 5 plays first: sanity.
-/
import Derived.Test.YtihepogccgcfkaaDoorFldQ
namespace Go.Proofs.YtihepogccgcfkaaDoor
open Go.RowKit Go.Shelf
set_option linter.unusedVariables false

def xrS (a b : List UInt8) : List UInt8 := if a.length = b.length then xr a b else []
def xrE (a b : List UInt8) : Int := if a.length = b.length then 0 else 1
theorem below_of_keeps {w w1 w2 : World} {g : Nat} (h : Below w.heap.size w w1) (hk : Keeps (fun k => k = g) w1 w2) (hg : w.heap.size ≤ g) : Below w.heap.size w w2 :=
  h.trans (hk.below h.size (fun k hk he => by omega))

theorem str_nil : ({ data := #[] } : ByteArray) = str [] := rfl
set_option maxHeartbeats 400000 in
theorem xor_any (a b : List UInt8) (hl : a.length ≤ 100000) (w : World) :
    Calls Tryd.prog 26 #[.string (str a), .string (str b)] w fun e w' => e = .returned (.tuple #[.string (str (xrS a b)), .int .i64 (xrE a b)]) ∧ Below w.heap.size w w' := by
  have hsa := str_size a
  have hsb := str_size b
  by_cases h : a.length = b.length
  · rw [xrS, xrE, if_pos h, if_pos h]
    have hcv := Lib.run_convert_string_bytes w 9 51 5 (str a) Tryd.underlying9 Tryd.underlying51 Tryd.underlying5
    rw [str_size] at hcv
    have HB := hideIt (below_bytes w 5 (str a))
    have HO := hideIt (fun c => adds_any a b h hl w.heap.size c _ (brow_new w 5 a))
    have HCV := hideIt (fun c W (hr : BRow W w.heap.size (xr a b)) => conv_bytes (P := Tryd.prog) (c := c) Tryd.underlying51 Tryd.underlying5 Tryd.underlying9 hr.sl)
    rw [xr_len a b h] at HCV
    have hq := neqF 3 b.length
    have hlen : a.length = b.length := h
    rw [hlen] at hsa hcv HO HCV
    clear h hl hlen
    generalize Lib.bytesWorld w 5 (str a) = w1 at *
    generalize grownCap w b.length 0 5 = c at *
    generalize str a = s at *
    obtain ⟨t, ht⟩ : ∃ t, t = str b := ⟨_, rfl⟩
    rw [← ht] at hsb HO ⊢
    change Hid (∀ c W, BRow W w.heap.size (xr a b) → (convert 51 9 (.slice (some ⟨w.heap.size, 0, none⟩) b.length c)).run Tryd.prog W = .ok (.string (str (xr a b))) W) at HCV
    generalize hz : str (xr a b) = z at *
    clear ht hz
    generalize b.length = n at *
    go_enter Tryd.func26, Tryd.ntmps26
    go_wp2_with (go_at_call 40; refine (HO.out _).mono ?_; rintro e w' ⟨rfl, hr2, hk2⟩; have hcs := HCV.out c w' hr2; have HK2 := hideIt hk2; clear hr2 hk2 hcv)
    go_ret2
    exact ⟨rfl, below_of_keeps HB.out HK2.out (Nat.le_refl _)⟩
  · rw [xrS, xrE, if_neg h, if_neg h]
    have hq := neqT 3 h
    generalize str a = s at *
    generalize str b = t at *
    generalize a.length = n at *
    generalize b.length = k at *
    clear hl h
    go_enter Tryd.func26, Tryd.ntmps26
    go_wp2_with fail
    go_ret2
    exact ⟨rfl, Below.refl _ _⟩

/-- What Scale answers. -/
def scR (m c : Int) (l : List UInt8) : List UInt8 := if vd m c = true ∧ l.length % (m.toNat / 8) = 0 then sc m.toNat c.toNat l else []
def scE (m c : Int) (l : List UInt8) : Int := if vd m c = true ∧ l.length % (m.toNat / 8) = 0 then 0 else 1
theorem brow_of_own {w : World} {base g n k : Nat} {l : List UInt8} (h : w.ownsRow base 5 1 (.slice (some ⟨g, 0, none⟩) n k) n (l.map bv)) : BRow w g l := by
  have hl : l.length = n := by have := h.1; rw [List.length_map, Nat.mul_one] at this; exact this
  rcases h.2 with ⟨h0, _⟩ | ⟨g2, cap, cur, hv, hb, hg, h1, h2, h3, h4⟩
  · cases h0
  · injection hv with h5 h6 h7
    injection h5 with h5
    injection h5 with h5
    subst h5
    have hc : cur.toList = l.map bv ++ cur.toList.drop n := by rw [← h4, Nat.mul_one, List.take_append_drop]
    have hblk : Blk w g 5 (l.map bv ++ cur.toList.drop n) := by
      unfold Blk
      rw [← hc, hg]
    exact ⟨hblk.lt, fun i hi => row_byte hblk i hi, fun i _ => hblk.free i⟩
set_option maxHeartbeats 400000 in
theorem scale_any (m c : Int) (l : List UInt8) (hl : l.length ≤ 100000) (w : World) (hT : Tabs w) :
    Calls Tryd.prog 24 #[.int .i64 m, .int .i64 c, .string (str l)] w fun e w' => e = .returned (.tuple #[.string (str (scR m c l)), .int .i64 (scE m c l)]) ∧ Below w.heap.size w w' := by
  have HV := hideIt (valid_any m c w hT)
  by_cases hv : vd m c = true
  · obtain ⟨k, x, rfl, rfl, hm, hx⟩ := vd_spec hv
    have HW := hideIt (whole_any k l hm w)
    by_cases hw : l.length % (k / 8) = 0
    · rw [scR, scE, if_pos ⟨hv, hw⟩, if_pos ⟨hv, hw⟩, Int.toNat_natCast, Int.toNat_natCast]
      rw [hv] at HV
      rw [decide_eq_true hw] at HW
      have HP := hideIt (products_any k x l hm hx hw hl w hT)
      have HSL := hideIt (sc_len hm x l hw)
      have hcs : ∀ W g, W.ownsRow g 5 1 (.slice (some ⟨g, 0, none⟩) l.length l.length) l.length ((sc k x l).map bv) → (convert 51 9 (.slice (some ⟨g, 0, none⟩) l.length l.length)).run Tryd.prog W = .ok (.string (str (sc k x l))) W := fun W g ho => by
        have h := conv_bytes (P := Tryd.prog) (c := l.length) Tryd.underlying51 Tryd.underlying5 Tryd.underlying9 (brow_of_own ho).sl
        rw [sc_len hm x l hw] at h
        exact h
      have HCS := hideIt hcs
      clear hv hw hm hx hcs hl hT
      generalize str l = s at *
      go_enter Tryd.func24, Tryd.ntmps24
      go_wp2_with (first
        | (go_at_call 20; refine HV.out.mono ?_; rintro e w' ⟨rfl, rfl⟩)
        | (go_at_call 39; refine HW.out.mono ?_; rintro e w' ⟨rfl, rfl⟩)
        | (go_at_call 38; refine HP.out.mono ?_; rintro e w' ⟨g, rfl, hg, ho, hb⟩; have hc2 := HCS.out w' g (own_at ho rfl |> fun h => ⟨h.1, h.2⟩); have HB := hideIt hb; clear hg ho hb))
      go_ret2
      exact ⟨rfl, HB.out⟩
    · rw [scR, scE, if_neg (fun h => hw h.2), if_neg (fun h => hw h.2)]
      rw [hv] at HV
      rw [decide_eq_false hw] at HW
      clear hv hw hm hx hl hT
      generalize str l = s at *
      go_enter Tryd.func24, Tryd.ntmps24
      go_wp2_with (first
        | (go_at_call 20; refine HV.out.mono ?_; rintro e w' ⟨rfl, rfl⟩)
        | (go_at_call 39; refine HW.out.mono ?_; rintro e w' ⟨rfl, rfl⟩))
      go_ret2
      exact ⟨rfl, Below.refl _ _⟩
  · rw [scR, scE, if_neg (fun h => hv h.1), if_neg (fun h => hv h.1)]
    rw [Bool.not_eq_true] at hv
    rw [hv] at HV
    clear hv hl hT
    generalize str l = s at *
    go_enter Tryd.func24, Tryd.ntmps24
    go_wp2_with (go_at_call 20; refine HV.out.mono ?_; rintro e w' ⟨rfl, rfl⟩)
    go_ret2
    exact ⟨rfl, Below.refl _ _⟩

end Go.Proofs.YtihepogccgcfkaaDoor
