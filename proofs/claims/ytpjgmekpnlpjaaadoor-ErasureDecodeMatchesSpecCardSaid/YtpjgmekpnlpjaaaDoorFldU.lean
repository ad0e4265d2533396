/-
  Units as plain lists of bytes: symbols, the multiples of a unit, sums of units, linear combinations. No program stands behind this text.
-/
import Derived.Test.YtpjgmekpnlpjaaaDoorFldC
import Derived.WalkKit
namespace Go.Proofs.YtpjgmekpnlpjaaaDoor
set_option linter.unusedVariables false
set_option linter.unusedSimpArgs false

/-- The sum of two byte sequences. -/
def xr (a b : List UInt8) : List UInt8 := List.zipWith (· ^^^ ·) a b
theorem xr_len (a b : List UInt8) (h : a.length = b.length) : (xr a b).length = a.length := by
  unfold xr; rw [List.length_zipWith, ← h, Nat.min_self]
theorem xr_cons (x y : UInt8) (a b : List UInt8) : xr (x :: a) (y :: b) = (x ^^^ y) :: xr a b := rfl
theorem xr_zero : ∀ l : List UInt8, xr (List.replicate l.length 0) l = l
  | [] => rfl
  | x :: l => by
    show (0 ^^^ x) :: xr (List.replicate l.length 0) l = _
    rw [xr_zero l, UInt8.zero_xor]
theorem xr_four : ∀ a b c d : List UInt8, xr (xr a b) (xr c d) = xr (xr a c) (xr b d)
  | [], _, _, _ => by simp [xr]
  | _ :: _, [], _, _ => by simp [xr]
  | _ :: _, _ :: _, [], _ => by simp [xr]
  | _ :: _, _ :: _, _ :: _, [] => by simp [xr]
  | x :: a, y :: b, z :: c, t :: d => by
    rw [xr_cons, xr_cons, xr_cons, xr_cons, xr_cons, xr_cons, xr_four a b c d]
    congr 1
    rw [UInt8.xor_assoc, UInt8.xor_assoc, ← UInt8.xor_assoc y, UInt8.xor_comm y z, UInt8.xor_assoc]

/-- The symbols of a unit. -/
def sy16 : List UInt8 → List Nat
  | u :: v :: r => (256 * u.toNat + v.toNat) :: sy16 r
  | _ => []
def sy (m : Nat) (l : List UInt8) : List Nat := if m = 16 then sy16 l else l.map (·.toNat)
/-- The bytes of a symbol. -/
def byt (m p : Nat) : List UInt8 := if m = 16 then [UInt8.ofNat (p / 256), UInt8.ofNat p] else [UInt8.ofNat p]
/-- A unit, all of whose symbols are multiplied by c. -/
def sc (m c : Nat) (l : List UInt8) : List UInt8 := (sy m l).flatMap fun s => byt m (mul m s c)
def whl (m : Nat) (l : List UInt8) : Prop := l.length % (m / 8) = 0

theorem sc8_eq (c : Nat) (l : List UInt8) : sc 8 c l = l.map fun u => UInt8.ofNat (mul 8 u.toNat c) := by
  unfold sc sy byt
  rw [if_neg (by decide)]
  induction l with
  | nil => rfl
  | cons u l ih =>
    rw [List.map_cons, List.flatMap_cons, ih, if_neg (by decide)]
    rfl
theorem sc16_nil (c : Nat) : sc 16 c [] = [] := rfl
theorem sc16_cons (c : Nat) (u v : UInt8) (l : List UInt8) : sc 16 c (u :: v :: l) = UInt8.ofNat (mul 16 (256 * u.toNat + v.toNat) c / 256) :: UInt8.ofNat (mul 16 (256 * u.toNat + v.toNat) c) :: sc 16 c l := rfl

/-- Going through a unit in pairs. -/
theorem pairs {P : List UInt8 → Prop} (nil : P []) (step : ∀ u v l, whl 16 l → P l → P (u :: v :: l)) : ∀ l, whl 16 l → P l
  | [], _ => nil
  | [_], h => by simp [whl] at h
  | u :: v :: l, h => by
    have h2 : whl 16 l := by
      unfold whl at h ⊢
      simp only [List.length_cons] at h
      omega
    exact step u v l h2 (pairs nil step l h2)
theorem whl8 (l : List UInt8) : whl 8 l := by unfold whl; omega
theorem whl_of {m : Nat} {a b : List UInt8} (h : a.length = b.length) (hw : whl m a) : whl m b := by unfold whl at *; rw [← h]; exact hw

theorem ofNat_xor (a b : Nat) : UInt8.ofNat (a ^^^ b) = UInt8.ofNat a ^^^ UInt8.ofNat b := by
  apply UInt8.toNat_inj.1
  rw [UInt8.toNat_xor, UInt8.toNat_ofNat', UInt8.toNat_ofNat', UInt8.toNat_ofNat', ← Nat.xor_mod_two_pow]
theorem div256_xor (a b : Nat) : (a ^^^ b) / 256 = (a / 256) ^^^ (b / 256) := Nat.xor_div_two_pow (n := 8)
theorem sym_xor (u v x y : UInt8) : 256 * (u ^^^ x).toNat + (v ^^^ y).toNat = (256 * u.toNat + v.toNat) ^^^ (256 * x.toNat + y.toNat) := by
  apply Nat.eq_of_testBit_eq
  intro i
  have h1 := fun (a b : UInt8) => Nat.testBit_two_pow_mul_add a.toNat (i := 8) b.toNat_lt i
  rw [Nat.testBit_xor]
  have e : (256 : Nat) = 2 ^ 8 := rfl
  rw [e, h1, h1, h1, UInt8.toNat_xor, UInt8.toNat_xor]
  split <;> rw [Nat.testBit_xor]

theorem sym_lt (u v : UInt8) : 256 * u.toNat + v.toNat < 2 ^ 16 := by
  have := u.toNat_lt
  have := v.toNat_lt
  omega

theorem sc_len {m : Nat} (hm : Fm m) (c : Nat) (l : List UInt8) (h : whl m l) : (sc m c l).length = l.length := by
  rcases hm with rfl | rfl
  · rw [sc8_eq, List.length_map]
  · revert h
    refine pairs (P := fun l => (sc 16 c l).length = l.length) rfl ?_ l
    intro u v l _ ih
    rw [sc16_cons, List.length_cons, List.length_cons, ih]
    rfl
theorem sc_xr {m : Nat} (hm : Fm m) (c : Nat) (a b : List UInt8) (h : whl m a) (hl : a.length = b.length) : sc m c (xr a b) = xr (sc m c a) (sc m c b) := by
  rcases hm with rfl | rfl
  · rw [sc8_eq, sc8_eq, sc8_eq]
    clear h
    induction a generalizing b with
    | nil => cases b with
      | nil => rfl
      | cons _ _ => simp at hl
    | cons x a ih => cases b with
      | nil => simp at hl
      | cons y b =>
        simp only [xr_cons, List.map_cons]
        rw [ih b (by simpa using hl), UInt8.toNat_xor, mulL, ofNat_xor]
  · revert b
    revert h
    refine pairs (P := fun a => ∀ b : List UInt8, a.length = b.length → sc 16 c (xr a b) = xr (sc 16 c a) (sc 16 c b)) ?_ ?_ a
    · intro b hb
      cases b with
      | nil => rfl
      | cons _ _ => simp at hb
    · intro u v l _ ih b hb
      match b, hb with
      | x :: y :: b, hb =>
        rw [xr_cons, xr_cons, sc16_cons, sc16_cons, sc16_cons, xr_cons, xr_cons, ih b (by simpa using hb), sym_xor, mulL, ofNat_xor, div256_xor, ofNat_xor]
      | [], hb => simp at hb
      | [_], hb => simp at hb
theorem sc_zero {m : Nat} (hm : Fm m) (c n : Nat) (h : whl m (List.replicate n 0)) : sc m c (List.replicate n 0) = List.replicate n 0 := by
  rcases hm with rfl | rfl
  · rw [sc8_eq, List.map_replicate]
    show List.replicate n (UInt8.ofNat (mul 8 0 c)) = _
    rw [mul_zeroL]
    rfl
  · have key : ∀ k : Nat, sc 16 c (List.replicate (2 * k) 0) = List.replicate (2 * k) 0 := fun k => by
      induction k with
      | zero => rfl
      | succ k ih =>
        rw [show 2 * (k + 1) = 2 * k + 1 + 1 by omega, List.replicate_succ, List.replicate_succ, sc16_cons, ih]
        show UInt8.ofNat (mul 16 0 c / 256) :: UInt8.ofNat (mul 16 0 c) :: _ = _
        rw [mul_zeroL]
        rfl
    unfold whl at h
    rw [List.length_replicate] at h
    have := key (n / 2)
    rwa [show 2 * (n / 2) = n by omega] at this
theorem byte_of (p : Nat) (h : p < 65536) : 256 * (UInt8.ofNat (p / 256)).toNat + (UInt8.ofNat p).toNat = p := by
  rw [UInt8.toNat_ofNat', UInt8.toNat_ofNat']
  omega
theorem sc_comm {m : Nat} (hm : Fm m) (c d : Nat) (l : List UInt8) (h : whl m l) : sc m c (sc m d l) = sc m d (sc m c l) := by
  rcases hm with rfl | rfl
  · rw [sc8_eq, sc8_eq, sc8_eq, sc8_eq, List.map_map, List.map_map]
    apply List.map_congr_left
    intro u _
    have hu := u.toNat_lt
    have e : ∀ x, mul 8 u.toNat x < 256 := fun x => mul_lt (m := 8) (Or.inl rfl) x hu
    show UInt8.ofNat (mul 8 (UInt8.ofNat (mul 8 u.toNat d)).toNat c) = UInt8.ofNat (mul 8 (UInt8.ofNat (mul 8 u.toNat c)).toNat d)
    rw [UInt8.toNat_ofNat', UInt8.toNat_ofNat', Nat.mod_eq_of_lt (e d), Nat.mod_eq_of_lt (e c), mul_right]
  · revert h
    refine pairs (P := fun l => sc 16 c (sc 16 d l) = sc 16 d (sc 16 c l)) rfl ?_ l
    intro u v l _ ih
    have e : ∀ x, mul 16 (256 * u.toNat + v.toNat) x < 65536 := fun x => mul_lt (m := 16) (Or.inr rfl) x (sym_lt u v)
    rw [sc16_cons, sc16_cons, sc16_cons, sc16_cons, ih, byte_of _ (e d), byte_of _ (e c), mul_right]

/-- A linear combination of units of n bytes. -/
def cmbF (m : Nat) (acc : List UInt8) : List (Nat × List UInt8) → List UInt8
  | [] => acc
  | (c, u) :: r => cmbF m (xr acc (sc m c u)) r
theorem cmb_len {m : Nat} (hm : Fm m) : ∀ (l : List (Nat × List UInt8)) (acc : List UInt8), whl m acc → (∀ p ∈ l, p.2.length = acc.length) → (cmbF m acc l).length = acc.length
  | [], _, _, _ => rfl
  | (c, u) :: r, acc, hw, h => by
    have h1 : u.length = acc.length := h (c, u) (by simp)
    have h2 : (sc m c u).length = acc.length := by rw [sc_len hm c u (whl_of h1.symm hw), h1]
    have h3 : (xr acc (sc m c u)).length = acc.length := xr_len _ _ h2.symm
    rw [cmbF, cmb_len hm r _ (whl_of h3.symm hw) (fun p hp => by rw [h3]; exact h p (by simp [hp])), h3]
/-- Two rows of units, added one by one. -/
theorem cmb_add {m : Nat} (hm : Fm m) (n : Nat) (cs : List Nat) : ∀ (a b : List (List UInt8)) (x y : List UInt8), whl m x → x.length = n → y.length = n → a.length = cs.length → b.length = cs.length → (∀ u ∈ a, u.length = n) → (∀ u ∈ b, u.length = n) →
    cmbF m (xr x y) (cs.zip (List.zipWith xr a b)) = xr (cmbF m x (cs.zip a)) (cmbF m y (cs.zip b)) := by
  induction cs with
  | nil => intro a b x y _ _ _ _ _ _ _; rfl
  | cons c cs ih =>
    intro a b x y hw hx hy ha hb hua hvb
    cases a with
    | nil => simp at ha
    | cons u a =>
    cases b with
    | nil => simp at hb
    | cons v b =>
    have hu : u.length = n := hua u (by simp)
    have hv : v.length = n := hvb v (by simp)
    have hwu : whl m u := whl_of (hx.trans hu.symm) hw
    have hwv : whl m v := whl_of (hx.trans hv.symm) hw
    have e1 : (sc m c u).length = n := by rw [sc_len hm c u hwu, hu]
    have e2 : (sc m c v).length = n := by rw [sc_len hm c v hwv, hv]
    have e3 : (xr x (sc m c u)).length = n := by rw [xr_len _ _ (hx.trans e1.symm), hx]
    have e4 : (xr y (sc m c v)).length = n := by rw [xr_len _ _ (hy.trans e2.symm), hy]
    show cmbF m (xr (xr x y) (sc m c (xr u v))) (cs.zip (List.zipWith xr a b)) = xr (cmbF m (xr x (sc m c u)) (cs.zip a)) (cmbF m (xr y (sc m c v)) (cs.zip b))
    rw [sc_xr hm c u v hwu (hu.trans hv.symm), xr_four]
    exact ih a b _ _ (whl_of (hx.trans e3.symm) hw) e3 e4 (by simpa using ha) (by simpa using hb) (fun w hw => hua w (by simp [hw])) (fun w hw => hvb w (by simp [hw]))
/-- The units of a row, multiplied one by one. -/
theorem cmb_scale {m : Nat} (hm : Fm m) (n d : Nat) (cs : List Nat) : ∀ (a : List (List UInt8)) (x : List UInt8), whl m x → x.length = n → a.length = cs.length → (∀ u ∈ a, u.length = n) →
    cmbF m (sc m d x) (cs.zip (a.map (sc m d))) = sc m d (cmbF m x (cs.zip a)) := by
  induction cs with
  | nil => intro a x _ _ _ _; rfl
  | cons c cs ih =>
    intro a x hw hx ha hua
    cases a with
    | nil => simp at ha
    | cons u a =>
    have hu : u.length = n := hua u (by simp)
    have hwu : whl m u := whl_of (hx.trans hu.symm) hw
    have e1 : (sc m c u).length = n := by rw [sc_len hm c u hwu, hu]
    have e3 : (xr x (sc m c u)).length = n := by rw [xr_len _ _ (hx.trans e1.symm), hx]
    show cmbF m (xr (sc m d x) (sc m c (sc m d u))) (cs.zip (a.map (sc m d))) = sc m d (cmbF m (xr x (sc m c u)) (cs.zip a))
    rw [sc_comm hm c d u hwu, ← sc_xr hm d x (sc m c u) hw (hx.trans e1.symm)]
    exact ih a _ (whl_of (hx.trans e3.symm) hw) e3 (by simpa using ha) (fun w hw => hua w (by simp [hw]))

end Go.Proofs.YtpjgmekpnlpjaaaDoor
