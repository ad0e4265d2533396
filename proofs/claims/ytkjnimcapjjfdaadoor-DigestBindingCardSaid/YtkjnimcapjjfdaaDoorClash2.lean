/-
  The two climbs of clash: each leaves the inputs that it hashed in its closure's cell.
-/
import Derived.Test.YtkjnimcapjjfdaaDoorClash1
import Derived.Test.YtkjnimcapjjfdaaDoorClimb2
import Derived.Test.YtkjnimcapjjfdaaDoorRVerify
namespace Go.Proofs.YtkjnimcapjjfdaaDoor
open Go.RowKit
set_option linter.unusedVariables false

/-- A cell that holds a row of rows of bytes. -/
def CellMsgs (W : World) (base g : Nat) (vr : Value) (ms : List (List UInt8)) : Prop :=
  Blk W g 54 [vr] ∧ ∃ xs : List Value, W.ownsRow base 22 1 vr ms.length xs ∧ ∀ (k : Nat) (u : Value) (m : List UInt8), xs[k]? = some u → ms[k]? = some m → W.ownsRow 0 5 1 u m.length (m.map bv)
theorem CellMsgs.keepT {W W' : World} {base g B : Nat} {vr : Value} {ms : List (List UInt8)} {ts : List TypeId} (h : CellMsgs W base g vr ms) (hk : KeepT B ts W W') (h1 : 54 ∉ ts) (h2 : 22 ∉ ts) (h3 : 5 ∉ ts) : CellMsgs W' base g vr ms := by
  obtain ⟨hb, xs, ho, he⟩ := h
  exact ⟨hb.keepT hk h1, xs, own_keepT ho hk h2, fun k u m hu hm => own_keepT (he k u m hu hm) hk h3⟩
theorem CellMsgs.kept {W W' : World} {base g : Nat} {vr : Value} {ms : List (List UInt8)} (h : CellMsgs W base g vr ms) (hb : Below W.heap.size W W') : CellMsgs W' base g vr ms := by
  obtain ⟨hb', xs, ho, he⟩ := h
  exact ⟨hb'.kept hb hb'.lt, xs, own_kept ho hb, fun k u m hu hm => own_kept (he k u m hu hm) hb⟩
theorem CellMsgs.snoc {W W' : World} {base g n bx : Nat} {vr vr' v : Value} {ms : List (List UInt8)} {x : List UInt8} {xs : List Value} (hn : n = ms.length) (hF : Blk W g 54 [vr]) (ho : W.ownsRow base 22 1 vr n xs)
    (he : ∀ (k : Nat) (u : Value) (m : List UInt8), xs[k]? = some u → ms[k]? = some m → W.ownsRow 0 5 1 u m.length (m.map bv)) (hx : W.ownsRow bx 5 1 v x.length (x.map bv)) (ht : Touch g vr.ownBlock W W')
    (hF' : Blk W' g 54 [vr']) (ho' : W'.ownsRow base 22 1 vr' (n + 1) (xs ++ [v])) : CellMsgs W' base g vr' (ms ++ [x]) := by
  subst hn
  have hl : xs.length = ms.length := by rw [ho.1, Nat.mul_one]
  refine ⟨hF', xs ++ [v], by rw [List.length_append]; exact ho', fun k u m hu hm => ?_⟩
  by_cases hk : k < ms.length
  · rw [List.getElem?_append_left (by omega)] at hu hm
    exact ht.own (he k u m hu hm) hF ho (by decide) (by decide)
  · rw [List.getElem?_append_right (by omega)] at hu hm
    rw [hl] at hu
    cases hq : k - ms.length with
    | zero =>
      rw [hq] at hu hm
      simp only [List.getElem?_cons_zero, Option.some.injEq] at hu hm
      subst hu hm
      exact ht.own (own_low hx (Nat.zero_le _)) hF ho (by decide) (by decide)
    | succ q => rw [hq] at hu; simp at hu
/-- Another cell's row, below the base of the row that grows. -/
theorem CellMsgs.other {W W' : World} {base base2 g g2 n : Nat} {vr vr2 : Value} {ms : List (List UInt8)} {ys : List Value} (h : CellMsgs W base g vr ms) (hg : g ≠ g2) (hF : Blk W g2 54 [vr2]) (ho : W.ownsRow base2 22 1 vr2 n ys) (hlt : ∀ k, vr.ownBlock = some k → k < base2)
    (ht : Touch g2 vr2.ownBlock W W') : CellMsgs W' base g vr ms := by
  obtain ⟨hb, xs, h1, h2⟩ := h
  refine ⟨ht.blk hb hg (own_ne ho hb (by decide)), xs, ⟨h1.1, ?_⟩, fun k u m hu hm => ht.own (h2 k u m hu hm) hF ho (by decide) (by decide)⟩
  have hne := own_ne h1 hF (by decide)
  rcases h1.2 with h0 | ⟨k, cap, cur, rfl, hkb, hh, r⟩
  · exact .inl h0
  · refine .inr ⟨k, cap, cur, rfl, hkb, ?_, r⟩
    have hB : Blk W k 22 cur.toList := by unfold Blk; rw [hh]
    exact (ht.block k hB.lt (fun hc => hne (by rw [hc]; rfl)) (fun hc => by have h3 := (ho.lt k hc.symm).1; have h4 := hlt k rfl; omega)).trans hh

structure I1 (B : Nat) (w0 : World) (gH g1 g2 : Nat) (done : List (List UInt8)) (W : World) : Prop where
  bel : Below B w0 W
  size : B ≤ W.heap.size
  hash : Blk W gH 57 [.func (.func 35) #[] #[]]
  one : ∃ vr, CellMsgs W B g1 vr done
  two : Blk W g2 54 [.slice none 0 0]
structure I2 (B : Nat) (w0 : World) (gH g1 g2 b2 : Nat) (v1 : Value) (ms1 : List (List UInt8)) (done : List (List UInt8)) (W : World) : Prop where
  bel : Below B w0 W
  size : b2 ≤ W.heap.size
  hash : Blk W gH 57 [.func (.func 35) #[] #[]]
  one : CellMsgs W B g1 v1 ms1
  two : ∃ vr, CellMsgs W b2 g2 vr done
section
variable {B gH g1 g2 b2 : Nat} {w0 W W' : World} {done ms1 : List (List UInt8)} {v1 : Value}
theorem func_ne {W : World} {gH g : Nat} {v u : Value} (h : Blk W gH 57 [v]) (hF : Blk W g 54 [u]) : gH ≠ g := fun e => by
  subst e
  unfold Blk at hF h
  rw [h] at hF
  injection hF with hF
  injection hF with _ hF
  exact absurd hF (by decide)
theorem I1.keepT (h : I1 B w0 gH g1 g2 done W) (hk : KeepT B [30, 91, 4] W W') : I1 B w0 gH g1 g2 done W' := by
  obtain ⟨vr, h1⟩ := h.one
  exact ⟨h.bel.trans hk.below, Nat.le_trans h.size hk.size, h.hash.keepT hk (by decide), ⟨vr, h1.keepT hk (by decide) (by decide) (by decide)⟩, h.two.keepT hk (by decide)⟩
theorem I2.keepT (h : I2 B w0 gH g1 g2 b2 v1 ms1 done W) (hk : KeepT B [30, 91, 4] W W') : I2 B w0 gH g1 g2 b2 v1 ms1 done W' := by
  obtain ⟨vr, h1⟩ := h.two
  exact ⟨h.bel.trans hk.below, Nat.le_trans h.size hk.size, h.hash.keepT hk (by decide), h.one.keepT hk (by decide) (by decide) (by decide), ⟨vr, h1.keepT hk (by decide) (by decide) (by decide)⟩⟩
end
theorem hash1 (B : Nat) (w0 : World) (gH g1 g2 : Nat) (hB1 : 1 < B) (h1 : B ≤ g1) (h12 : g1 ≠ g2) (done : List (List UInt8)) (x : List UInt8) (v : Value) (bx : Nat) (W : World) (hx : x.length ≤ 100) (hd : done.length ≤ 100) (hI : I1 B w0 gH g1 g2 done W) (ho : W.ownsRow bx 5 1 v x.length (x.map bv)) (hT : Tab W 1) :
    Calls Tryd.prog 59 #[v, .pointer (some ⟨g1, 0, none⟩), .pointer (some ⟨gH, 0, none⟩)] W fun e w' => e = .returned (dv (cutD x)) ∧ I1 B w0 gH g1 g2 (done ++ [x]) w' ∧ KeepT B [22, 54] W w' := by
  obtain ⟨vr, hF, xs, hO, he⟩ := hI.one
  refine (clash1_any g1 gH B done.length bx B vr v xs x W hx hd hI.hash hF hO hI.size ho hT hB1 h1 (Nat.le_refl _)).mono ?_
  rintro e w' ⟨rfl, ⟨vr', hF', hO'⟩, ht⟩
  have hk := ht.keepT hF hO h1 (Nat.le_refl _)
  exact ⟨rfl, ⟨hI.bel.trans hk.below, Nat.le_trans hI.size hk.size, ht.blk hI.hash (func_ne hI.hash hF) (own_ne hO hI.hash (by decide)), ⟨vr', CellMsgs.snoc rfl hF hO he ho ht hF' hO'⟩, ht.blk hI.two h12.symm (own_ne hO hI.two (by decide))⟩, hk⟩
theorem hash2 (B : Nat) (w0 : World) (gH g1 g2 b2 : Nat) (v1 : Value) (ms1 : List (List UInt8)) (hB1 : 1 < B) (h2 : B ≤ g2) (hb2 : B ≤ b2) (h12 : g1 ≠ g2) (hlt : ∀ k, v1.ownBlock = some k → k < b2) (done : List (List UInt8)) (x : List UInt8) (v : Value) (bx : Nat) (W : World) (hx : x.length ≤ 100) (hd : done.length ≤ 100) (hI : I2 B w0 gH g1 g2 b2 v1 ms1 done W) (ho : W.ownsRow bx 5 1 v x.length (x.map bv)) (hT : Tab W 1) :
    Calls Tryd.prog 60 #[v, .pointer (some ⟨g2, 0, none⟩), .pointer (some ⟨gH, 0, none⟩)] W fun e w' => e = .returned (dv (cutD x)) ∧ I2 B w0 gH g1 g2 b2 v1 ms1 (done ++ [x]) w' ∧ KeepT B [22, 54] W w' := by
  obtain ⟨vr, hF, xs, hO, he⟩ := hI.two
  refine (clash2_any g2 gH b2 done.length bx B vr v xs x W hx hd hI.hash hF hO hI.size ho hT hB1 h2 hb2).mono ?_
  rintro e w' ⟨rfl, ⟨vr', hF', hO'⟩, ht⟩
  have hk := ht.keepT hF hO h2 hb2
  exact ⟨rfl, ⟨hI.bel.trans hk.below, Nat.le_trans hI.size hk.size, ht.blk hI.hash (func_ne hI.hash hF) (own_ne hO hI.hash (by decide)), hI.one.other h12 hF hO hlt ht, ⟨vr', CellMsgs.snoc rfl hF hO he ho ht hF' hO'⟩⟩, hk⟩

theorem fit_sibs (n i : Int) (ds : List (List UInt8)) (hn : n ≤ 9223372036854775807) (h0 : 0 ≤ i ∧ i < n) : fitB n i ds = decide ((sibs 0 n.toNat i.toNat).length = ds.length) := by
  unfold fitB
  have hbs := dirs_of n.toNat i.toNat (by omega)
  have hsl : (sibs 0 n.toNat i.toNat).length = (dirsN n.toNat i.toNat).length := by rw [← hbs]; unfold befD; rw [List.length_map]
  rw [hsl, decide_eq_decide]
  exact ⟨fun h => h.2.2, fun h => ⟨h0.1, h0.2, h⟩⟩
/-- What a climb leaves: its root, the inputs that it hashed. -/
def rootF (n i : Int) (ds : List (List UInt8)) (leaf : List UInt8) : List UInt8 := if fitB n i ds then rootK (dirsN n.toNat i.toNat) ds leaf ds.length else zeroD
def insF (n i : Int) (ds : List (List UInt8)) (leaf : List UInt8) : List (List UInt8) := if fitB n i ds then insK (dirsN n.toNat i.toNat) ds leaf ds.length else []
theorem rootF_len (n i : Int) (ds : List (List UInt8)) (leaf : List UInt8) : (rootF n i ds leaf).length = 16 := by
  unfold rootF; split
  · exact rootK_len _ _ _ _
  · rfl
theorem first_all (B : Nat) (w0 : World) (gH g1 g2 : Nat) (hB1 : 1 < B) (h1 : B ≤ g1) (h12 : g1 ≠ g2) (leaf : List UInt8) (hl : leaf.length = 16) (n i : Int) (hn : n ≤ 9223372036854775807) (A : Option Addr) (c : Nat) (ds : List (List UInt8)) (w : World) (hp9 : ds.length ≤ 1000000000) (hD : Ds w B A ds.length ds) (hT : Tab w 1) (hI : I1 B w0 gH g1 g2 [] w) :
    Calls Tryd.prog 48 #[.int .i64 n, .int .i64 i, dv leaf, .slice A ds.length c, .func (.func 59) #[] #[.pointer (some ⟨g1, 0, none⟩), .pointer (some ⟨gH, 0, none⟩)]] w fun e w' =>
      e = .returned (.tuple #[dv (rootF n i ds leaf), .bool (fitB n i ds)]) ∧ I1 B w0 gH g1 g2 (insF n i ds leaf) w' ∧ KeepT B [22, 54] w w' := by
  unfold rootF insF
  by_cases h0 : 0 ≤ i ∧ i < n
  · rw [fit_sibs n i ds hn h0]
    obtain ⟨n', rfl⟩ : ∃ k : Nat, n = k := ⟨n.toNat, by omega⟩
    obtain ⟨i', rfl⟩ : ∃ k : Nat, i = k := ⟨i.toNat, by omega⟩
    simp only [Int.toNat_natCast]
    rw [← dirs_of n' i' (by omega)]
    by_cases hq : (sibs 0 n' i').length = ds.length
    · rw [decide_eq_true hq, if_pos rfl, if_pos rfl]
      refine (climb_first (I1 B w0 gH g1 g2) B [22, 54] g1 gH (by decide) (by decide) (by decide) hB1 (fun done W W' h hk => h.keepT hk) (fun done x v bx W q1 q2 _ q4 q5 q6 => hash1 B w0 gH g1 g2 hB1 h1 h12 done x v bx W q1 q2 q4 q5 q6)
        n' i' leaf hl A ds.length c ds w hD hI.size hT (by omega) (by omega) hq hI).mono ?_
      rintro e w' ⟨rfl, hi, hk⟩
      exact ⟨rfl, hi, hk⟩
    · rw [decide_eq_false hq, if_neg (by decide), if_neg (by decide)]
      refine (climb_len n' i' leaf hl A ds.length c _ w (by omega) (by omega) hp9 hq).mono ?_
      rintro e w' ⟨rfl, hb⟩
      exact ⟨rfl, hI.keepT (KeepT.of_below hb hI.size), KeepT.of_below hb hI.size⟩
  · have hf : fitB n i ds = false := decide_eq_false fun h => h0 ⟨h.1, h.2.1⟩
    rw [hf, if_neg (by decide), if_neg (by decide)]
    refine (climb_out n i leaf hl A ds.length c _ w (by omega)).mono ?_
    rintro e w' ⟨rfl, hb⟩
    exact ⟨rfl, hI.keepT (KeepT.of_below hb hI.size), KeepT.of_below hb hI.size⟩
theorem second_all (B : Nat) (w0 : World) (gH g1 g2 b2 : Nat) (v1 : Value) (ms1 : List (List UInt8)) (hB1 : 1 < B) (h2 : B ≤ g2) (hb2 : B ≤ b2) (h12 : g1 ≠ g2) (hlt : ∀ k, v1.ownBlock = some k → k < b2) (leaf : List UInt8) (hl : leaf.length = 16) (n i : Int) (hn : n ≤ 9223372036854775807) (A : Option Addr) (c : Nat) (ds : List (List UInt8)) (w : World) (hp9 : ds.length ≤ 1000000000) (hD : Ds w B A ds.length ds) (hT : Tab w 1) (hI : I2 B w0 gH g1 g2 b2 v1 ms1 [] w) :
    Calls Tryd.prog 48 #[.int .i64 n, .int .i64 i, dv leaf, .slice A ds.length c, .func (.func 60) #[] #[.pointer (some ⟨g2, 0, none⟩), .pointer (some ⟨gH, 0, none⟩)]] w fun e w' =>
      e = .returned (.tuple #[dv (rootF n i ds leaf), .bool (fitB n i ds)]) ∧ I2 B w0 gH g1 g2 b2 v1 ms1 (insF n i ds leaf) w' ∧ KeepT B [22, 54] w w' := by
  unfold rootF insF
  have hBs : B ≤ w.heap.size := Nat.le_trans hb2 hI.size
  by_cases h0 : 0 ≤ i ∧ i < n
  · rw [fit_sibs n i ds hn h0]
    obtain ⟨n', rfl⟩ : ∃ k : Nat, n = k := ⟨n.toNat, by omega⟩
    obtain ⟨i', rfl⟩ : ∃ k : Nat, i = k := ⟨i.toNat, by omega⟩
    simp only [Int.toNat_natCast]
    rw [← dirs_of n' i' (by omega)]
    by_cases hq : (sibs 0 n' i').length = ds.length
    · rw [decide_eq_true hq, if_pos rfl, if_pos rfl]
      refine (climb_second (I2 B w0 gH g1 g2 b2 v1 ms1) B [22, 54] g2 gH (by decide) (by decide) (by decide) hB1 (fun done W W' h hk => h.keepT hk) (fun done x v bx W q1 q2 _ q4 q5 q6 => hash2 B w0 gH g1 g2 b2 v1 ms1 hB1 h2 hb2 h12 hlt done x v bx W q1 q2 q4 q5 q6)
        n' i' leaf hl A ds.length c ds w hD hBs hT (by omega) (by omega) hq hI).mono ?_
      rintro e w' ⟨rfl, hi, hk⟩
      exact ⟨rfl, hi, hk⟩
    · rw [decide_eq_false hq, if_neg (by decide), if_neg (by decide)]
      refine (climb_len n' i' leaf hl A ds.length c _ w (by omega) (by omega) hp9 hq).mono ?_
      rintro e w' ⟨rfl, hb⟩
      exact ⟨rfl, hI.keepT (KeepT.of_below hb hBs), KeepT.of_below hb hBs⟩
  · have hf : fitB n i ds = false := decide_eq_false fun h => h0 ⟨h.1, h.2.1⟩
    rw [hf, if_neg (by decide), if_neg (by decide)]
    refine (climb_out n i leaf hl A ds.length c _ w (by omega)).mono ?_
    rintro e w' ⟨rfl, hb⟩
    exact ⟨rfl, hI.keepT (KeepT.of_below hb hBs), KeepT.of_below hb hBs⟩

end Go.Proofs.YtkjnimcapjjfdaaDoor
