/-
  Rows of integers under a row of slices; the closures of eliminate, walked.
  The closure of eliminate that scales a row, walked.
-/
import Derived.Test.YtodmcojcmihooaaDoorMatW
import Derived.BigRegion
namespace Go.Proofs.YtodmcojcmihooaaDoor
open Go.RowKit
set_option linter.unusedVariables false

/-- Where the rows lie. -/
structure RD where
  ad : Nat → Option Addr
  b : Nat → Nat
  o : Nat → Nat
  c : Nat → Nat
/-- R rows of n integers, under the slices of block g. -/
structure EM (w : World) (B g R n : Nat) (D : RD) (M : Mx) : Prop where
  glt : g < w.heap.size
  gB : B ≤ g
  hdr : ∀ i, i < R → w.cell? ⟨g, i, none⟩ = some (.slice (D.ad i) n (D.c i))
  hfr : ∀ i, i < R → w.frozen? ⟨g, i, none⟩ = false
  cap : ∀ i, i < R → n ≤ D.c i ∧ D.c i ≤ maxLen
  row : ∀ i, i < R → Ints w (D.ad i) (D.b i) (D.o i) n (M i)
  low : 0 < n → ∀ i, i < R → B ≤ D.b i ∧ D.b i ≠ g
  free : ∀ i, i < R → ∀ j, j < n → w.frozen? ⟨D.b i, D.o i + j, none⟩ = false
  apart : ∀ i k, i < R → k < R → i ≠ k → ∀ j l, j < n → l < n → ¬ (D.b i = D.b k ∧ D.o i + j = D.o k + l)
theorem EM.below {w w' : World} {B g R n : Nat} {D : RD} {M : Mx} (h : EM w B g R n D M) (hb : Below w.heap.size w w') : EM w' B g R n D M :=
  ⟨Nat.lt_of_lt_of_le h.glt hb.size, h.gB, fun i hi => (hb.cell (p := ⟨g, i, none⟩) h.glt).trans (h.hdr i hi), fun i hi => (hb.frozen (p := ⟨g, i, none⟩) h.glt).trans (h.hfr i hi), h.cap,
    fun i hi => (h.row i hi).below hb (h.row i hi).lt, h.low, fun i hi j hj => (hb.frozen (p := ⟨D.b i, D.o i + j, none⟩) ((h.row i hi).lt (by omega))).trans (h.free i hi j hj), h.apart⟩
theorem EM.congr {w : World} {B g R n : Nat} {D : RD} {M N : Mx} (h : EM w B g R n D M) (he : ∀ i j, i < R → j < n → M i j = N i j) : EM w B g R n D N :=
  ⟨h.glt, h.gB, h.hdr, h.hfr, h.cap, fun i hi => ⟨(h.row i hi).adr, (h.row i hi).lt, fun j hj => by rw [← he i j hi hj]; exact (h.row i hi).cell j hj⟩, h.low, h.free, h.apart⟩
def RD.swap (D : RD) (i k : Nat) : RD := ⟨fun x => D.ad (if x = i then k else if x = k then i else x), fun x => D.b (if x = i then k else if x = k then i else x), fun x => D.o (if x = i then k else if x = k then i else x), fun x => D.c (if x = i then k else if x = k then i else x)⟩
theorem swp_row (M : Mx) (i k x : Nat) : swp M i k x = M (if x = i then k else if x = k then i else x) := by
  unfold swp
  split
  · rfl
  · split <;> rfl
/-- The header with its slices swapped, all else as it was. -/
theorem EM.swapped {w w' : World} {B g R n : Nat} {D : RD} {M : Mx} (h : EM w B g R n D M) {i k : Nat} (hi : i < R) (hk : k < R) (hs : Sel (fun b _ => b = g) w w') (hc : ∀ x, x < R → w'.cell? ⟨g, x, none⟩ = some (.slice ((D.swap i k).ad x) n ((D.swap i k).c x))) :
    EM w' B g R n (D.swap i k) (swp M i k) := by
  have hx : ∀ x, x < R → (if x = i then k else if x = k then i else x) < R := fun x hx => by split; exact hk; split; exact hi; exact hx
  have hinj : ∀ x y, x ≠ y → (if x = i then k else if x = k then i else x) ≠ (if y = i then k else if y = k then i else y) := fun x y hne => by
    split <;> split <;> (try split) <;> (try split) <;> omega
  refine ⟨Nat.lt_of_lt_of_le h.glt hs.size, h.gB, hc, fun x hx => (hs.frozen g x h.glt).trans (h.hfr x hx), fun x hx' => h.cap _ (hx x hx'), fun x hx' => ?_, fun h0 x hx' => h.low h0 _ (hx x hx'), fun x hx' j hj => ?_, fun x y hx1 hy hne j l hj hl => h.apart _ _ (hx x hx1) (hx y hy) (hinj x y hne) j l hj hl⟩
  · rw [swp_row]
    have hr := h.row _ (hx x hx')
    exact hr.sel hs (fun j hj => (h.low (by omega) _ (hx x hx')).2)
  · have hr := h.row _ (hx x hx')
    exact (hs.frozen _ _ (hr.lt (by omega))).trans (h.free _ (hx x hx') j hj)

set_option maxHeartbeats 1000000 in
set_option maxRecDepth 100000 in
theorem eswap_any (B g R n i k p4 cR : Nat) (D : RD) (M : Mx) (w : World) (h : EM w B g R n D M) (hi : i < R) (hk : k < R) (hR : R ≤ 1000) (hp : Blk w p4 51 [.slice (some ⟨g, 0, none⟩) R cR]) (hpg : p4 ≠ g) :
    Calls Tryd.prog 52 #[.int .i64 (i : Int), .int .i64 (k : Int), .pointer (some ⟨p4, 0, none⟩)] w fun e w' => e = .returned (.tuple #[]) ∧ EM w' B g R n (D.swap i k) (swp M i k) ∧ Sel (fun b _ => b = g) w w' := by
  have hi1 := h.hdr i hi
  have hk1 := h.hdr k hk
  have hi2 := h.hfr i hi
  have hk2 := h.hfr k hk
  have hpc : w.cell? ⟨p4, 0, none⟩ = some (.slice (some ⟨g, 0, none⟩) R cR) := by rw [hp.cell]; rfl
  have HE := hideIt h
  have hiR : (i : Int) < (R : Int) := by omega
  have hkR : (k : Int) < (R : Int) := by omega
  have HI := hideIt hi
  have HK := hideIt hk
  clear h hp
  by_cases hik : i = k
  · subst hik
    clear hk1 hk2 hkR
    go_enter Tryd.func52, Tryd.ntmps52
    go_region
    go_end0
    have hs : Sel (fun b _ => b = g) w (((w.setCell ⟨g, i, none⟩ (.slice (D.ad i) n (D.c i))).setCell ⟨g, i, none⟩ (.slice (D.ad i) n (D.c i))).drew) := sel_drewN (((Sel.refl (fun b _ => b = g) w).setCell (S := fun b _ => b = g) rfl _).setCell (S := fun b _ => b = g) rfl _) 1
    refine ⟨rfl, HE.out.swapped HI.out HI.out hs fun x hx => ?_, hs⟩
    show (((w.setCell ⟨g, i, none⟩ (.slice (D.ad i) n (D.c i))).setCell ⟨g, i, none⟩ (.slice (D.ad i) n (D.c i))).drew).cell? _ = some (.slice (D.ad (if x = i then i else if x = i then i else x)) n (D.c (if x = i then i else if x = i then i else x)))
    by_cases e : x = i
    · rw [if_pos e, e]
      exact World.cell?_setCell_same' _ _ _ (by rw [World.cell?_setCell_same' _ _ _ (by rw [hi1]; rfl)]; rfl)
    · rw [if_neg e, if_neg e]
      refine (World.cell?_setCell_other _ _ _ _ (by intro hh; injection hh with _ hh; omega)).trans ((World.cell?_setCell_other _ _ _ _ (by intro hh; injection hh with _ hh; omega)).trans (HE.out.hdr x hx))
  · go_enter Tryd.func52, Tryd.ntmps52
    go_region
    go_end0
    have hs : Sel (fun b _ => b = g) w (((w.setCell ⟨g, i, none⟩ (.slice (D.ad k) n (D.c k))).setCell ⟨g, k, none⟩ (.slice (D.ad i) n (D.c i))).drew) := sel_drewN (((Sel.refl (fun b _ => b = g) w).setCell (S := fun b _ => b = g) rfl _).setCell (S := fun b _ => b = g) rfl _) 1
    refine ⟨rfl, HE.out.swapped HI.out HK.out hs fun x hx => ?_, hs⟩
    show (((w.setCell ⟨g, i, none⟩ (.slice (D.ad k) n (D.c k))).setCell ⟨g, k, none⟩ (.slice (D.ad i) n (D.c i))).drew).cell? _ = some (.slice (D.ad (if x = i then k else if x = k then i else x)) n (D.c (if x = i then k else if x = k then i else x)))
    by_cases e : x = i
    · rw [if_pos e, e]
      exact (World.cell?_setCell_other _ _ _ _ (by intro hh; injection hh with _ hh; omega)).trans (World.cell?_setCell_same' _ _ _ (by rw [hi1]; rfl))
    · rw [if_neg e]
      by_cases e2 : x = k
      · rw [if_pos e2, e2]
        exact World.cell?_setCell_same' _ _ _ (by rw [World.cell?_setCell_other _ _ _ _ (by intro hh; injection hh with _ hh; omega), hk1]; rfl)
      · rw [if_neg e2]
        exact (World.cell?_setCell_other _ _ _ _ (by intro hh; injection hh with _ hh; omega)).trans ((World.cell?_setCell_other _ _ _ _ (by intro hh; injection hh with _ hh; omega)).trans (HE.out.hdr x hx))

/-- One row's cells new, all else as it was. -/
theorem EM.added {w w' : World} {B g R n : Nat} {D : RD} {M : Mx} (h : EM w B g R n D M) {i : Nat} (hi : i < R) {f : Nat → Nat} (hI : Ints w' (D.ad i) (D.b i) (D.o i) n f) (hs : Sel (fun k q => k = D.b i ∧ D.o i ≤ q ∧ q < D.o i + n) w w') :
    EM w' B g R n D (fun r j => if r = i then f j else M r j) := by
  refine ⟨Nat.lt_of_lt_of_le h.glt hs.size, h.gB, fun r hr => (hs.cell g r h.glt (fun q => (h.low (by omega) i hi).2 q.1.symm)).trans (h.hdr r hr), fun r hr => (hs.frozen g r h.glt).trans (h.hfr r hr), h.cap, fun r hr => ?_, h.low, fun r hr j hj => (hs.frozen _ _ ((h.row r hr).lt (by omega))).trans (h.free r hr j hj), h.apart⟩
  by_cases e : r = i
  · subst e
    exact ⟨hI.adr, hI.lt, fun j hj => by show _ = some (Value.int .i64 ((if r = r then f j else M r j : Nat) : Int)); rw [if_pos rfl]; exact hI.cell j hj⟩
  · have h2 := (h.row r hr).sel hs (fun j hj q => h.apart r i hr hi e j (D.o r + j - D.o i) hj (by omega) ⟨q.1, by omega⟩)
    exact ⟨h2.adr, h2.lt, fun j hj => by show _ = some (Value.int .i64 ((if r = i then f j else M r j : Nat) : Int)); rw [if_neg e]; exact h2.cell j hj⟩
/-- Row i with another row's multiple added. -/
def addR6 (m : Nat) (M : Mx) (i t x : Nat) : Mx := fun r j => if r = i then M i j ^^^ mul m (M t j) x else M r j
set_option maxHeartbeats 1000000 in
set_option maxRecDepth 100000 in
theorem eadd_any (m B g R n i t x p3 p4 cR : Nat) (hm : Fm m) (hx : x < 2 ^ m) (D : RD) (M : Mx) (w : World) (hT : Tabs w) (hBT : 0 < B) (hn0 : 0 < n) (hn : n ≤ 1000) (hM : ∀ r j, r < R → j < n → M r j < 2 ^ m) (h : EM w B g R n D M) (hi : i < R) (ht : t < R) (hit : i ≠ t) (hR : R ≤ 1000)
    (hp3 : Blk w p3 3 [.int .i64 (m : Int)]) (hp : Blk w p4 51 [.slice (some ⟨g, 0, none⟩) R cR]) :
    Calls Tryd.prog 53 #[.int .i64 (i : Int), .int .i64 (t : Int), .int .i64 (x : Int), .pointer (some ⟨p3, 0, none⟩), .pointer (some ⟨p4, 0, none⟩)] w fun e w' => e = .returned (.tuple #[]) ∧ EM w' B g R n D (addR6 m M i t x) ∧ Sel (fun k q => k = D.b i ∧ D.o i ≤ q ∧ q < D.o i + n) w w' := by
  have HA := hideIt (fun W => addm_any m x n hm hx hn (M i) (M t) (fun j hj => hM i j hi hj) (fun j hj => hM t j ht hj) (D.ad i) (D.ad t) (D.c i) (D.c t) (D.b i) (D.o i) (D.b t) (D.o t) W)
  have hi1 := h.hdr i hi
  have ht1 := h.hdr t ht
  have hpc : w.cell? ⟨p4, 0, none⟩ = some (.slice (some ⟨g, 0, none⟩) R cR) := by rw [hp.cell]; rfl
  have hmc : w.cell? ⟨p3, 0, none⟩ = some (.int .i64 (m : Int)) := by rw [hp3.cell]; rfl
  have HE := hideIt h
  have hiR : (i : Int) < (R : Int) := by omega
  have htR : (t : Int) < (R : Int) := by omega
  clear h hp hp3
  go_enter Tryd.func53, Tryd.ntmps53
  go_wp2_with fail
  refine still_tail 10 (by kernel_rfl) (by kernel_rfl) ?_
  intro w3 hw3
  have hi1' : w3.cell? ⟨g, i, none⟩ = some (.slice (D.ad i) n (D.c i)) := by rw [hw3]; exact hi1
  have ht1' : w3.cell? ⟨g, t, none⟩ = some (.slice (D.ad t) n (D.c t)) := by rw [hw3]; exact ht1
  have hpc' : w3.cell? ⟨p4, 0, none⟩ = some (.slice (some ⟨g, 0, none⟩) R cR) := by rw [hw3]; exact hpc
  have hmc' : w3.cell? ⟨p3, 0, none⟩ = some (.int .i64 (m : Int)) := by rw [hw3]; exact hmc
  clear hi1 ht1 hpc hmc
  have HW := hideIt hw3
  clear hw3
  simp only [List.take_succ_cons, List.take_zero, List.drop_succ_cons, List.drop_zero]
  repeat still_step
  refine wpStill_nil ?_
  have hw : Below w.heap.size w w3 := by rw [HW.out]; exact (Below.refl _ w).drew
  have HE3 := hideIt (HE.out.below hw)
  have HT3 := hideIt (hT.keep hw)
  have HS3 := hideIt (fun S => Sel.of_below S hw)
  clear hw hT
  go_wp2_with (go_at_call 37; refine (HA.out w3 HT3.out (HE3.out.row i hi) (HE3.out.row t ht) (HE3.out.free i hi) (fun j l hj hl q => HE3.out.apart t i ht hi (Ne.symm hit) l j hl hj ⟨q.1, q.2⟩) (fun q => by have := (HE3.out.low hn0 i hi).1; omega)).mono ?_; rintro e w5 ⟨rfl, hI, hS⟩; have HI5 := hideIt hI; have HS5 := hideIt hS; clear hI hS)
  go_end0
  refine ⟨rfl, (HE3.out.added hi HI5.out HS5.out).congr (fun r j hr hj => ?_), (HS3.out _).trans HS5.out⟩
  rfl

/-- Row i times a factor. -/
def sclR6 (m : Nat) (M : Mx) (i x : Nat) : Mx := fun r j => if r = i then mul m (M i j) x else M r j
def RD.new (D : RD) (i g n : Nat) : RD := ⟨fun x => if x = i then some ⟨g, 0, none⟩ else D.ad x, fun x => if x = i then g else D.b x, fun x => if x = i then 0 else D.o x, fun x => if x = i then n else D.c x⟩
theorem EM.renewed {w w' : World} {B g R n g2 : Nat} {D : RD} {M : Mx} (h : EM w B g R n D M) {i : Nat} (hi : i < R) (hnm : n ≤ maxLen) {f : Nat → Nat} (hI : Ints w (some ⟨g2, 0, none⟩) g2 0 n f) (hf : ∀ j, j < n → w.frozen? ⟨g2, 0 + j, none⟩ = false) (hB : B ≤ g2) (hgg : g2 ≠ g) (hnew : ∀ r, r < R → 0 < n → D.b r ≠ g2)
    (hw : w' = w.setCell ⟨g, i, none⟩ (.slice (some ⟨g2, 0, none⟩) n n)) : EM w' B g R n (D.new i g2 n) (fun r j => if r = i then f j else M r j) := by
  have hs : Sel (fun k _ => k = g) w w' := by rw [hw]; exact (Sel.refl (fun k _ => k = g) w).setCell (S := fun k _ => k = g) rfl _
  refine ⟨Nat.lt_of_lt_of_le h.glt hs.size, h.gB, fun r hr => ?_, fun r hr => (hs.frozen g r h.glt).trans (h.hfr r hr), fun r hr => ?_, fun r hr => ?_, fun h0 r hr => ?_, fun r hr j hj => ?_, fun r k hr hk hne j l hj hl => ?_⟩
  · show w'.cell? _ = some (.slice (if r = i then some ⟨g2, 0, none⟩ else D.ad r) n (if r = i then n else D.c r))
    by_cases e : r = i
    · rw [if_pos e, if_pos e, hw, e]
      exact World.cell?_setCell_same' _ _ _ (by rw [h.hdr i hi]; rfl)
    · rw [if_neg e, if_neg e, hw]
      exact (World.cell?_setCell_other _ _ _ _ (by intro hh; injection hh with _ hh; omega)).trans (h.hdr r hr)
  · show n ≤ (if r = i then n else D.c r) ∧ (if r = i then n else D.c r) ≤ maxLen
    by_cases e : r = i
    · rw [if_pos e]; exact ⟨Nat.le_refl _, hnm⟩
    · rw [if_neg e]; exact h.cap r hr
  · by_cases e : r = i
    · subst e
      have h2 := hI.sel hs (fun j hj => hgg)
      refine ⟨fun h0 => ?_, fun h0 => ?_, fun j hj => ?_⟩
      · show (if r = r then some ⟨g2, 0, none⟩ else D.ad r) = some ⟨if r = r then g2 else D.b r, if r = r then 0 else D.o r, none⟩
        rw [if_pos rfl, if_pos rfl, if_pos rfl]
      · show (if r = r then g2 else D.b r) < _
        rw [if_pos rfl]; exact h2.lt h0
      · show w'.cell? ⟨if r = r then g2 else D.b r, (if r = r then 0 else D.o r) + j, none⟩ = some (.int .i64 ((if r = r then f j else M r j : Nat) : Int))
        rw [if_pos rfl, if_pos rfl, if_pos rfl]; exact h2.cell j hj
    · have h2 := (h.row r hr).sel hs (fun j hj => (h.low (by omega) r hr).2)
      refine ⟨fun h0 => ?_, fun h0 => ?_, fun j hj => ?_⟩
      · show (if r = i then some ⟨g2, 0, none⟩ else D.ad r) = some ⟨if r = i then g2 else D.b r, if r = i then 0 else D.o r, none⟩
        rw [if_neg e, if_neg e, if_neg e]; exact h2.adr h0
      · show (if r = i then g2 else D.b r) < _
        rw [if_neg e]; exact h2.lt h0
      · show w'.cell? ⟨if r = i then g2 else D.b r, (if r = i then 0 else D.o r) + j, none⟩ = some (.int .i64 ((if r = i then f j else M r j : Nat) : Int))
        rw [if_neg e, if_neg e, if_neg e]; exact h2.cell j hj
  · show B ≤ (if r = i then g2 else D.b r) ∧ (if r = i then g2 else D.b r) ≠ g
    by_cases e : r = i
    · rw [if_pos e]; exact ⟨hB, hgg⟩
    · rw [if_neg e]; exact h.low h0 r hr
  · show w'.frozen? ⟨if r = i then g2 else D.b r, (if r = i then 0 else D.o r) + j, none⟩ = false
    by_cases e : r = i
    · rw [if_pos e, if_pos e]; exact (hs.frozen _ _ (hI.lt (by omega))).trans (hf j hj)
    · rw [if_neg e, if_neg e]; exact (hs.frozen _ _ ((h.row r hr).lt (by omega))).trans (h.free r hr j hj)
  · show ¬ ((if r = i then g2 else D.b r) = (if k = i then g2 else D.b k) ∧ (if r = i then 0 else D.o r) + j = (if k = i then 0 else D.o k) + l)
    by_cases e : r = i
    · have e2 : k ≠ i := fun q => hne (e.trans q.symm)
      rw [if_pos e, if_neg e2]
      exact fun q => hnew k hk (by omega) q.1.symm
    · by_cases e2 : k = i
      · rw [if_neg e, if_pos e2]
        exact fun q => hnew r hr (by omega) q.1
      · rw [if_neg e, if_neg e2, if_neg e, if_neg e2]
        exact h.apart r k hr hk hne j l hj hl
theorem Ints.of_blk {w : World} {g n : Nat} {t : TypeId} {f : Nat → Nat} (h : Blk w g t ((nl n f).map iv)) : Ints w (some ⟨g, 0, none⟩) g 0 n f :=
  ⟨fun _ => rfl, fun _ => h.lt, fun j hj => by rw [Nat.zero_add, h.cell, iv_at hj]⟩

set_option maxHeartbeats 1000000 in
set_option maxRecDepth 100000 in
theorem escale_any (m B g R n i x p3 p4 cR : Nat) (hm : Fm m) (hx : x < 2 ^ m) (D : RD) (M : Mx) (w : World) (hT : Tabs w) (hBT : 0 < B) (hBw : B ≤ w.heap.size) (hn0 : 0 < n) (hn : n ≤ 1000) (hM : ∀ r j, r < R → j < n → M r j < 2 ^ m) (h : EM w B g R n D M) (hi : i < R) (hR : R ≤ 1000)
    (hp3 : Blk w p3 3 [.int .i64 (m : Int)]) (hp : Blk w p4 51 [.slice (some ⟨g, 0, none⟩) R cR]) :
    Calls Tryd.prog 54 #[.int .i64 (i : Int), .int .i64 (x : Int), .pointer (some ⟨p4, 0, none⟩), .pointer (some ⟨p3, 0, none⟩)] w fun e w' => e = .returned (.tuple #[]) ∧ EM w' B g R n (D.new i w.heap.size n) (sclR6 m M i x) ∧ Sel (fun k _ => k = g) w w' := by
  have hi1 := h.hdr i hi
  have hpc : w.cell? ⟨p4, 0, none⟩ = some (.slice (some ⟨g, 0, none⟩) R cR) := by rw [hp.cell]; rfl
  have HE := hideIt h
  have HP3 := hideIt hp3
  have HP4 := hideIt hp
  have hiR : (i : Int) < (R : Int) := by omega
  clear h hp hp3
  go_enter Tryd.func54, Tryd.ntmps54
  go_wp2_with ((with_reducible refine at_make ?_); refine wpList_zeros _ rfl (.tmp 11) (.tmp 11) rfl n rfl rfl (by omega) ?_; intro w2 HB2 HW2)
  have hw2 := HW2.out
  have hpc2 : w2.cell? ⟨p4, 0, none⟩ = some (.slice (some ⟨g, 0, none⟩) R cR) := by rw [(HP4.out.kept hw2 HP4.out.lt).cell]; rfl
  have hmc2 : w2.cell? ⟨p3, 0, none⟩ = some (.int .i64 (m : Int)) := by rw [(HP3.out.kept hw2 HP3.out.lt).cell]; rfl
  have hi2 : w2.cell? ⟨g, i, none⟩ = some (.slice (D.ad i) n (D.c i)) := (hw2.cell (p := ⟨g, i, none⟩) HE.out.glt).trans hi1
  clear hi1 hpc hw2
  refine still_tail 7 (by kernel_rfl) (by kernel_rfl) ?_
  intro w3 hw3
  have hi1' : w3.cell? ⟨g, i, none⟩ = some (.slice (D.ad i) n (D.c i)) := by rw [hw3]; exact hi2
  have hpc' : w3.cell? ⟨p4, 0, none⟩ = some (.slice (some ⟨g, 0, none⟩) R cR) := by rw [hw3]; exact hpc2
  have hmc' : w3.cell? ⟨p3, 0, none⟩ = some (.int .i64 (m : Int)) := by rw [hw3]; exact hmc2
  have HW3 := hideIt (show Below w.heap.size w w3 by rw [hw3]; exact HW2.out.drew)
  have HB3 := hideIt (show Blk w3 w.heap.size 3 ((nl n fun _ => 0).map iv) by rw [hw3]; exact HB2.out)
  clear hi2 hpc2 hmc2 hw3
  simp only [List.take_succ_cons, List.take_zero, List.drop_succ_cons, List.drop_zero]
  repeat still_step
  refine wpStill_nil ?_
  have HE3 := hideIt (HE.out.below HW3.out)
  have HA := hideIt (addm_any m x n hm hx hn (fun _ => 0) (M i) (fun _ _ => Nat.two_pow_pos m) (fun j hj => hM i j hi hj) (some ⟨w.heap.size, 0, none⟩) (D.ad i) n (D.c i) w.heap.size 0 (D.b i) (D.o i) w3 (hT.keep HW3.out) (Ints.of_blk HB3.out) (HE3.out.row i hi) (fun j hj => HB3.out.free _)
    (fun j l hj hl q => by have := (HE.out.row i hi).lt hn0; omega) (by have := hT.lo; omega))
  clear hpc' hmc' hi1'
  go_wp2_with (first
    | (go_at_call 37; refine HA.out.mono ?_; rintro e w5 ⟨rfl, hI, hS⟩; have HI5 := hideIt hI; have HS5 := hideIt hS; have HW5 := hideIt (HW3.out.trans (hS.below (B := w.heap.size) HW3.out.size (fun k o hk q => by omega))); have hi5 : w5.cell? ⟨g, i, none⟩ = some (.slice (D.ad i) n (D.c i)) := (HW5.out.cell (p := ⟨g, i, none⟩) HE.out.glt).trans (HE.out.hdr i hi); have hp5 : w5.cell? ⟨p4, 0, none⟩ = some (.slice (some ⟨g, 0, none⟩) R cR) := (by rw [(HP4.out.kept HW5.out HP4.out.lt).cell]; rfl); have hf5 : w5.frozen? ⟨g, i, none⟩ = false := (HW5.out.frozen (p := ⟨g, i, none⟩) HE.out.glt).trans (HE.out.hfr i hi); clear hI hS))
  go_end0
  have hgl := HE.out.glt
  have hlt := HB3.out.lt
  refine ⟨rfl, ((HE.out.below HW5.out).renewed hi (by unfold maxLen; omega) HI5.out (fun j hj => (HS5.out.frozen _ _ hlt).trans (HB3.out.free _)) hBw (by omega) (fun r hr h0 => by have := (HE.out.row r hr).lt h0; omega) rfl).congr (fun r j hr hj => ?_), (Sel.of_below (fun k _ => k = g) HW5.out).setCell (S := fun k _ => k = g) rfl _⟩
  show (if r = i then 0 ^^^ mul m (M i j) x else M r j) = if r = i then mul m (M i j) x else M r j
  rw [zx]

end Go.Proofs.YtodmcojcmihooaaDoor
