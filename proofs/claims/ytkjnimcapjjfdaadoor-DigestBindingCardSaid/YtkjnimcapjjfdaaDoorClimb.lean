/-
  The root that a proof yields, walked: digest.climb, with cut.
-/
import Derived.Test.YtkjnimcapjjfdaaDoorClimb1
namespace Go.Proofs.YtkjnimcapjjfdaaDoor
open Go.RowKit
set_option linter.unusedVariables false

def stepIn (b : Bool) (d root : List UInt8) : List UInt8 := if b then nodeIn d root else nodeIn root d
/-- The root behind k elements of a proof, and the inputs that were hashed. -/
def rootK (bs : List Bool) (ds : List (List UInt8)) (leaf : List UInt8) : Nat → List UInt8
  | 0 => leafD leaf
  | k + 1 => cutD (stepIn (bs.getD k false) (ds.getD k []) (rootK bs ds leaf k))
def insK (bs : List Bool) (ds : List (List UInt8)) (leaf : List UInt8) : Nat → List (List UInt8)
  | 0 => [leafIn leaf]
  | k + 1 => insK bs ds leaf k ++ [stepIn (bs.getD k false) (ds.getD k []) (rootK bs ds leaf k)]
theorem rootK_len (bs : List Bool) (ds : List (List UInt8)) (leaf : List UInt8) (k : Nat) : (rootK bs ds leaf k).length = 16 := by
  cases k <;> exact cutD_len _
theorem insK_len (bs : List Bool) (ds : List (List UInt8)) (leaf : List UInt8) : ∀ k, (insK bs ds leaf k).length = k + 1
  | 0 => rfl
  | k + 1 => by rw [insK, List.length_append, insK_len bs ds leaf k]; rfl
theorem stepIn_len (b : Bool) (d root : List UInt8) (hd : d.length = 16) (hr : root.length = 16) : (stepIn b d root).length ≤ 100 := by
  unfold stepIn
  cases b
  · exact nodeIn_len _ _ hr hd
  · exact nodeIn_len _ _ hd hr
theorem results_two {P : Program} {fn : Func} {p t : Tmp} {T : TypeId} (h : fn.results = #[.cell p T, .tmp t]) (tmps : Array Value) (w : World) (g : Nat) (ty : TypeId) (cs : List Value) (d : TypeDesc)
    (hp : tmps.getD p undef = .pointer (some ⟨g, 0, none⟩)) (hg : Blk w g ty cs) (hu : P.underlying T = some d) (hd : d.isRow = true) (hi : (P.info? T).map (·.size) = some cs.length) :
    (results fn tmps).run P w = .ok (.tuple #[.agg cs.toArray, tmps.getD t undef]) w := by
  have hl := run_loadVar_mid (P := P) w g 0 T cs d (fun j v hv => by rw [hg.cell, Nat.zero_add]; exact hv) hu hd hi
  have ha : ∀ W, (asAddr (.pointer (some ⟨g, 0, none⟩))).run P W = .ok ⟨g, 0, none⟩ W := fun _ => rfl
  simp only [results, h]
  simp only [List.mapM_cons, List.mapM_nil, hp, bind_pure_comp, map_pure, Array.mapM_eq_mapM_toList]
  simp [Sem.run_bind, ha, hl, Result.andThen]
def zeroD : List UInt8 := List.replicate 16 0
theorem zeroD_bv : zeroD.map bv = List.replicate 16 (.int .u8 0) := by
  unfold zeroD
  rw [List.map_replicate]
  rfl
theorem ds_load {w : World} {B n : Nat} {A : Option Addr} {l : List (List UInt8)} (h : Ds w B A n l) {k : Nat} (hk : k < n) : ∃ b off, A = some ⟨b, off, none⟩ ∧ b < B ∧ Has16 w ⟨b, off + k * 16, none⟩ (l.getD k []) ∧ (l.getD k []).length = 16 := by
  obtain ⟨h1, h2, h3⟩ := h
  subst h1
  obtain ⟨b, off, q1, q2, q3⟩ := h3.dig h2 hk
  refine ⟨b, off, q1, q2, ?_, ?_⟩
  · rw [List.getD_eq_getElem?_getD, List.getElem?_eq_getElem hk]; exact q3
  · rw [List.getD_eq_getElem?_getD, List.getElem?_eq_getElem hk]; exact h2 _ (List.getElem_mem hk)
/-- What climb keeps while it goes over the proof: the root behind k elements, the inputs behind j. -/
structure ClS (I : List (List UInt8) → World → Prop) (B : Nat) (ts : List TypeId) (w : World) (bs : List Bool) (ds : List (List UInt8)) (leaf : List UInt8) (p g : Nat) (Ab : Option Addr) (cb k j : Nat) (W : World) : Prop where
  root : Blk W g 30 ((rootK bs ds leaf k).map bv)
  res : Blk W (w.heap.size + 1) 30 (List.replicate 16 (Value.int .u8 0))
  lv : Blk W (w.heap.size + 1 + 1) 91 [.slice Ab p cb]
  row : W.ownsRow (w.heap.size + 1 + 1) 4 1 (.slice Ab p cb) p (bs.map Value.bool)
  inv : I (insK bs ds leaf j) W
  keep : KeepT B ts w W
section
variable {I : List (List UInt8) → World → Prop} {B : Nat} {ts : List TypeId} {w : World} {bs : List Bool} {ds : List (List UInt8)} {leaf : List UInt8} {p g : Nat} {Ab : Option Addr} {cb k j : Nat} {W W' : World}
theorem ClS.below (h : ClS I B ts w bs ds leaf p g Ab cb k j W) (hst : ∀ (done : List (List UInt8)) (W W' : World), I done W → KeepT B [30, 91, 4] W W' → I done W') (hB : B ≤ w.heap.size) (hb : Below W.heap.size W W') :
    ClS I B ts w bs ds leaf p g Ab cb k j W' :=
  have hBW := Nat.le_trans hB h.keep.size
  ⟨h.root.kept hb h.root.lt, h.res.kept hb h.res.lt, h.lv.kept hb h.lv.lt, own_kept h.row hb, hst _ _ _ h.inv (KeepT.of_below hb hBW), h.keep.trans (KeepT.of_below hb hBW)⟩
theorem ClS.other (h : ClS I B ts w bs ds leaf p g Ab cb k j W) (hst : ∀ (done : List (List UInt8)) (W W' : World), I done W → KeepT B [30, 91, 4] W W' → I done W') (hB : B ≤ w.heap.size) {gd : Nat} {cs : List Value} (hg : Blk W gd 30 cs) (ht : Turned gd W W') (h1 : g ≠ gd) (h2 : w.heap.size + 1 < gd) :
    ClS I B ts w bs ds leaf p g Ab cb k j W' :=
  ⟨ht.blk h.root h1, ht.blk h.res (by omega), ht.blk h.lv (fun hc => by subst hc; have := h.lv; unfold Blk at this hg; rw [this] at hg; injection hg with hg; injection hg with _ hg; exact absurd hg (by decide)), own_turned h.row hg (by decide) ht, hst _ _ _ h.inv (KeepT.of_turned hg (by simp) (by omega) ht), h.keep.later ht (by omega) hB⟩
theorem ClS.hash (h : ClS I B ts w bs ds leaf p g Ab cb k j W) (h30 : 30 ∉ ts) (h91 : 91 ∉ ts) (h4 : 4 ∉ ts) (hk : KeepT B ts W W') {j' : Nat} (hi : I (insK bs ds leaf j') W') : ClS I B ts w bs ds leaf p g Ab cb k j' W' :=
  ⟨h.root.keepT hk h30, h.res.keepT hk h30, h.lv.keepT hk h91, own_keepT h.row hk h4, hi, h.keep.trans hk⟩
theorem ClS.put (h : ClS I B ts w bs ds leaf p g Ab cb k j W) (hst : ∀ (done : List (List UInt8)) (W W' : World), I done W → KeepT B [30, 91, 4] W W' → I done W') (hB : B ≤ w.heap.size) {k' : Nat} (ht : Turned g W W') (hr : Blk W' g 30 ((rootK bs ds leaf k').map bv)) (h2 : w.heap.size + 1 < g) : ClS I B ts w bs ds leaf p g Ab cb k' j W' :=
  ⟨hr, ht.blk h.res (by omega), ht.blk h.lv (fun hc => by have := h.lv; have hg := h.root; rw [← hc] at hg; unfold Blk at this hg; rw [this] at hg; injection hg with hg; injection hg with _ hg; exact absurd hg (by decide)), own_turned h.row h.root (by decide) ht, hst _ _ _ h.inv (KeepT.of_turned h.root (by simp) (by omega) ht), h.keep.later ht (by omega) hB⟩
end

set_option maxHeartbeats 1600000 in
set_option maxRecDepth 100000 in
theorem climb_cut (I : List (List UInt8) → World → Prop) (B : Nat) (ts : List TypeId) (h30 : 30 ∉ ts) (h91 : 91 ∉ ts) (h4 : 4 ∉ ts) (hB1 : 1 < B)
    (hst : ∀ (done : List (List UInt8)) (W W' : World), I done W → KeepT B [30, 91, 4] W W' → I done W')
    (hH : ∀ (done : List (List UInt8)) (x : List UInt8) (v : Value) (base : Nat) (W : World), x.length ≤ 100 → done.length ≤ 100 → B ≤ W.heap.size → I done W → W.ownsRow base 5 1 v x.length (x.map bv) → Tab W 1 →
      Calls Tryd.prog 35 #[v] W fun e w' => e = .returned (dv (cutD x)) ∧ I (done ++ [x]) w' ∧ KeepT B ts W w')
    (n i : Nat) (leaf : List UInt8) (hl : leaf.length = 16) (A : Option Addr) (p c : Nat) (ds : List (List UInt8)) (w : World) (hD : Ds w B A p ds) (hB : B ≤ w.heap.size) (hT : Tab w 1) (hn : n ≤ 9223372036854775807) (hi : i < n) (hp : (sibs 0 n i).length = p) (hI : I [] w) :
    Calls Tryd.prog 48 #[.int .i64 (n : Int), .int .i64 (i : Int), dv leaf, .slice A p c, .func (.func 35) #[] #[]] w fun e w' =>
      e = .returned (.tuple #[dv (rootK (befD (sibs 0 n i)) ds leaf p), .bool true]) ∧ I (insK (befD (sibs 0 n i)) ds leaf p) w' ∧ KeepT B ts w w' := by
  have hp70 : p ≤ 63 := by rw [← hp]; exact sibs_le 63 0 n i (by omega)
  obtain ⟨bs, hbs⟩ : ∃ bs, bs = befD (sibs 0 n i) := ⟨_, rfl⟩
  have hbl : bs.length = p := by rw [hbs, befD, List.length_map, hp]
  have h2 : decide ((i : Int) < 0) = false := by simp
  have h3 : decide ((n : Int) ≤ (i : Int)) = false := by simp; omega
  have HW := hideIt (fun (W : World) (g0 : Nat) (hI : ClI W g0 g0 [] W) =>
    walkC_any (ClI W g0 g0) g0 n 100 hn (fun done lo hi b W' r1 r2 r3 r4 => climb1_any W g0 g0 100 (by omega) (Nat.le_refl _) done lo hi b W' r3 r4) 63 0 n i [] W (by omega) (by simp) (by omega) hi (Nat.le_refl _) hI)
  rw [← hbs]
  have HP := hideIt hp
  have HBS := hideIt hbs
  have HBL := hideIt hbl
  have HL := hideIt hl
  have HD := hideIt hD
  have HT := hideIt hT
  have HI := hideIt hI
  have HST := hideIt hst
  have HH := hideIt hH
  have HLM := hideIt (fun (W : World) => leafMessage_any leaf hl W)
  have hlm : (leafIn leaf).length ≤ 100 := leafIn_len leaf hl
  obtain ⟨m0, hm0⟩ : ∃ m, m = leafIn leaf := ⟨_, rfl⟩
  rw [← hm0] at HLM hlm
  have HM0 := hideIt hm0
  clear hp hbs hbl hl hD hT hI hst hH hm0
  go_enter Tryd.func48, Tryd.ntmps48
  go_wp2_with fail
  have hz1 : (w.alloc (.cells (leaf.map bv).toArray 30)).heap.size = w.heap.size + 1 := by simp
  have hz2 : ((w.alloc (.cells (leaf.map bv).toArray 30)).alloc (.cells (List.replicate 16 (Value.int .u8 0)).toArray 30)).heap.size = w.heap.size + 1 + 1 := by simp
  have hb3 := hz2 ▸ Blk.new ((w.alloc (.cells (leaf.map bv).toArray 30)).alloc (.cells (List.replicate 16 (Value.int .u8 0)).toArray 30)) 91 [Value.slice none 0 0]
  refine (HW.out _ (w.heap.size + 1 + 1) ⟨Below.refl _ _, ?_, .slice none 0 0, hb3, ⟨rfl, .inl ⟨rfl, rfl⟩⟩⟩).mono ?_
  · exact Nat.le_of_lt hb3.lt
  rintro e w1 ⟨rfl, hC⟩
  have HB1 : Hid (Below w.heap.size w w1) := (((below_new w _).alloc (by rw [hz1]; omega) _).alloc (by rw [hz2]; omega) _).trans (hC.bel.mono (by omega))
  have HLF : Hid (Blk w1 w.heap.size 30 (leaf.map bv)) := (((Blk.new w 30 (leaf.map bv)).alloc _).alloc _).kept hC.bel (by omega)
  have HRS : Hid (Blk w1 (w.heap.size + 1) 30 (List.replicate 16 (Value.int .u8 0))) := ((hz1 ▸ Blk.new (w.alloc (.cells (leaf.map bv).toArray 30)) 30 (List.replicate 16 (Value.int .u8 0))).alloc _).kept hC.bel (by omega)
  obtain ⟨v, hbv, hown⟩ := hC.out
  rw [List.nil_append, HP.out, ← HBS.out] at hown
  obtain ⟨Ab, cb, rfl, hcb1, hcb2⟩ := own_form hown
  have hlv : w1.cell? ⟨w.heap.size + 1 + 1, 0, none⟩ = some (.slice Ab p cb) := by rw [hbv.cell]; rfl
  have hsz1 : w.heap.size + 1 + 1 < w1.heap.size := hbv.lt
  have HLV := hideIt hbv
  have HROW := hideIt hown
  clear hC hbv hown hz1 hz2 hb3
  obtain ⟨r0, hr0⟩ : ∃ r, r = rootK bs ds leaf 0 := ⟨_, rfl⟩
  have HRL : Hid (r0.length = 16) := by rw [hr0]; exact rootK_len _ _ _ _
  have HF := hideIt (fun (v : Value) (base : Nat) (W : World) (h1 : B ≤ W.heap.size) (h2 : I [] W) (h3 : W.ownsRow base 5 1 v m0.length (m0.map bv)) (h4 : Tab W 1) => HH.out [] m0 v base W hlm (by simp) h1 h2 h3 h4)
  rw [show cutD m0 = r0 by rw [hr0, HM0.out]; rfl] at HF
  have HR0 := hideIt hr0
  clear hr0
  go_wp2_with (first
    | ((with_reducible refine at_load ?_); refine wpList_get rfl 30 (.tmp 7) rfl w.heap.size (leaf.map bv) 30 (.array 16 5) rfl HLF.out (by kernel_rfl) rfl (isize16 _ HL.out) ?_)
    | (go_at_call 43; refine (HLM.out _).mono ?_; rintro e w2 ⟨v2, rfl, hown2, hb2⟩; have HO2 := hideIt hown2; have HB2 := hideIt hb2; clear hown2 hb2)
    | (go_at_call 35; refine (HF.out _ _ _ (by have := HB2.out.size; omega) (HST.out _ _ _ HI.out (KeepT.of_below (HB1.out.trans (HB2.out.mono (by omega))) hB)) HO2.out (HT.out.keep (HB1.out.trans (HB2.out.mono (by omega))))).mono ?_; rintro e w3 ⟨rfl, hi3, hk3⟩; have HI3 := hideIt hi3; have HK3 := hideIt hk3; clear hi3 hk3)
    | ((with_reducible refine at_store ?_); refine wpList_put rfl 30 (.tmp 13) (.tmp 37) rfl w3.heap.size (r0.map bv) _ _ rfl rfl (Blk.new w3 30 (List.replicate 16 (Value.int .u8 0))) (by rw [List.length_map, HRL.out]; kernel_rfl) (by rw [List.length_map, HRL.out]; rfl) (bv_one _) ?_; intro w4 ht4 hb4; have HT4 := hideIt ht4; have HB4 := hideIt hb4; clear ht4 hb4))
  obtain ⟨g, hg⟩ : ∃ g, g = w3.heap.size := ⟨_, rfl⟩
  have hs3 : w.heap.size + 1 + 1 < w3.heap.size := by have := HB2.out.size; have := HK3.out.size; omega
  have HS : Hid (ClS I B ts w bs ds leaf p g Ab cb 0 0 w4) := by
    have hB12 : Below w.heap.size w w2 := HB1.out.trans (HB2.out.mono (by omega))
    have hn3 : KeepT B [30, 91, 4] w3 w4 := (KeepT.of_below (below_new w3 (.cells (List.replicate 16 (Value.int .u8 0)).toArray 30)) (by omega)).trans (KeepT.of_turned (Blk.new w3 30 (List.replicate 16 (Value.int .u8 0))) (by simp) (by omega) HT4.out)
    have st {k : Nat} {t : TypeId} {cs : List Value} (h : Blk w1 k t cs) (hk : t ∉ ts) : Blk w4 k t cs := HT4.out.blk (((h.kept HB2.out h.lt).keepT HK3.out hk).alloc _) (by have := ((h.kept HB2.out h.lt).keepT HK3.out hk).lt; omega)
    refine ⟨?_, st HRS.out h30, st HLV.out h91, ?_, ?_, ?_⟩
    · rw [← HR0.out, hg]; exact HB4.out
    · exact own_turned ((own_keepT (own_kept HROW.out HB2.out) HK3.out h4).alloc _) (Blk.new w3 30 (List.replicate 16 (Value.int .u8 0))) (by decide) HT4.out
    · have := HST.out _ _ _ HI3.out hn3
      rw [List.nil_append, HM0.out] at this
      exact this
    · exact (((KeepT.of_below hB12 hB).trans HK3.out).since ((below_new w3 (.cells (List.replicate 16 (Value.int .u8 0)).toArray 30)).mono (by omega)) hB).later HT4.out (by omega) hB
  have hgb : w.heap.size + 1 + 1 < g := by omega
  have hgs : w4.heap.size = g + 1 := by rw [HT4.out.size, hg]; simp
  have hzs : w.heap.size + 1 < w4.heap.size := by omega
  rw [← hg]
  have HGS := hideIt hgs
  clear hg hgs HI3 HK3 HT4 HB4 HO2 HB2 HB1 HLF HRS HLV HROW hlv hsz1 HF HLM HR0 HRL HM0 HI HBS HP hs3
  go_wp2
  go_loopg [40] p (fun q s40 wr => ∃ k : Nat, q + k = p ∧ s40 = .int .i64 k ∧ Hid (ClS I B ts w bs ds leaf p g Ab cb k k wr))
  case atStart => exact ⟨0, by omega, rfl, HS⟩
  case round =>
    obtain ⟨k, hq, rfl, HC⟩ := hrel
    obtain ⟨wo, rfl⟩ : ∃ x, x = wr := ⟨wr, rfl⟩
    by_cases hk : k < p
    · have hDr : Ds wo B A p ds := HD.out.below HC.out.keep.below (Nat.le_refl _)
      obtain ⟨bb, off, rfl, hbb, hc, hdl⟩ := ds_load hDr hk
      obtain ⟨d, hd⟩ : ∃ d, d = ds.getD k [] := ⟨_, rfl⟩
      rw [← hd] at hc hdl
      obtain ⟨b2, off2, u2, rfl, hb2l, hu2, hcell2⟩ := (Sl.of_own HC.out.row).at_ hk
      obtain ⟨bk, hbk⟩ : ∃ b, b = bs.getD k false := ⟨_, rfl⟩
      have hu2' : u2 = .bool bk := by
        rw [List.getElem?_map] at hu2
        rw [hbk, List.getD_eq_getElem?_getD]
        cases hq2 : bs[k]? with
        | none => rw [hq2] at hu2; simp at hu2
        | some z => rw [hq2] at hu2; simpa using hu2.symm
      subst hu2'
      clear hu2
      obtain ⟨r, hr⟩ : ∃ r, r = rootK bs ds leaf k := ⟨_, rfl⟩
      have hrl : r.length = 16 := by rw [hr]; exact rootK_len _ _ _ _
      obtain ⟨x, hx⟩ : ∃ x, x = stepIn bk d r := ⟨_, rfl⟩
      have hxl : x.length ≤ 100 := by rw [hx]; exact stepIn_len _ _ _ hdl hrl
      have hroot : rootK bs ds leaf (k + 1) = cutD x := by rw [rootK, hx, hbk, hd, hr]
      have hins : insK bs ds leaf (k + 1) = insK bs ds leaf k ++ [x] := by rw [insK, hx, hbk, hd, hr]
      have hil := insK_len bs ds leaf k
      have HX : Hid ((if bk = true then nodeIn d r else nodeIn r d) = x) := by rw [hx]; rfl
      have HH1 := hideIt (fun (v : Value) (base : Nat) (W : World) (h1 : B ≤ W.heap.size) (h2 : I (insK bs ds leaf k) W) (h3 : W.ownsRow base 5 1 v x.length (x.map bv)) (h4 : Tab W 1) => HH.out _ x v base W hxl (by rw [hil]; omega) h1 h2 h3 h4)
      obtain ⟨y, hy⟩ : ∃ y, y = cutD x := ⟨_, rfl⟩
      have HYL : Hid (y.length = 16) := by rw [hy]; exact cutD_len _
      rw [← hy] at HH1 hroot
      have HROOT := hideIt hroot
      have HINS := hideIt hins
      have HRL := hideIt hrl
      have HDL := hideIt hdl
      have HC16 := hideIt hc
      have HRB : Hid (Blk wo g 30 (r.map bv)) := by rw [hr]; exact HC.out.root
      have hgo := HC.out.root.lt
      have HCELL := hideIt hcell2
      have HN1 := hideIt (fun (W : World) => nodeMessage_any d r hdl hrl W)
      have HN2 := hideIt (fun (W : World) => nodeMessage_any r d hrl hdl W)
      clear hd hbk hr hx hroot hins hil hy hrl hdl hc hcell2
      have HA2 := hideIt (HC.out.below HST.out hB (below_new wo (.cells (List.replicate 16 (Value.int .u8 0)).toArray 30)))
      cases bk with
      | true =>
        rw [if_pos rfl] at HX
        rw [HX.out] at HN1
        go_wp2_with (first
          | ((with_reducible refine at_load ?_); refine wpList_load_mid rfl 30 (.tmp 43) rfl bb _ rfl (d.map bv) (.array 16 5) (range16 HC16.out) (by kernel_rfl) rfl (isize16 _ HDL.out) ?_)
          | ((with_reducible refine at_store ?_); refine wpList_put rfl 30 (.tmp 15) (.tmp 44) rfl wo.heap.size (d.map bv) _ _ rfl rfl (Blk.new wo 30 (List.replicate 16 (Value.int .u8 0))) (by rw [List.length_map, HDL.out]; kernel_rfl) (by rw [List.length_map, HDL.out]; rfl) (bv_one _) ?_; intro w5 ht5 hb5; have HD5 := hideIt hb5; have HC5 := hideIt (HA2.out.other HST.out hB (Blk.new wo 30 (List.replicate 16 (Value.int .u8 0))) ht5 (by omega) (by omega)); have HR5 := hideIt (ht5.blk (HRB.out.alloc (.cells (List.replicate 16 (Value.int .u8 0)).toArray 30)) (by omega)); have hlv5 : w5.cell? ⟨w.heap.size + 1 + 1, 0, none⟩ = some (.slice (some ⟨b2, off2, none⟩) p cb) := (by rw [HC5.out.lv.cell]; rfl); have hcb5 : w5.cell? ⟨b2, off2 + k, none⟩ = some (.bool true) := ((ht5.cell (by omega)).trans ((below_new wo (.cells (List.replicate 16 (Value.int .u8 0)).toArray 30)).cell (p := ⟨b2, off2 + k, none⟩) hb2l)).trans HCELL.out; clear ht5 hb5)
          | ((with_reducible refine at_load ?_); refine wpList_get rfl 30 (.tmp 15) rfl wo.heap.size (d.map bv) 30 (.array 16 5) rfl HD5.out (by kernel_rfl) rfl (isize16 _ HDL.out) ?_)
          | ((with_reducible refine at_load ?_); refine wpList_get rfl 30 (.tmp 13) rfl g (r.map bv) 30 (.array 16 5) rfl HR5.out (by kernel_rfl) rfl (isize16 _ HRL.out) ?_)
          | (go_at_call 45; refine (HN1.out _).mono ?_; rintro e w6 ⟨v6, rfl, hown6, hb6⟩; have HO6 := hideIt hown6; have HB6 := hideIt hb6; have HC6 := hideIt (HC5.out.below HST.out hB hb6); clear hown6 hb6)
          | (go_at_call 35; refine (HH1.out _ _ _ (Nat.le_trans hB HC6.out.keep.size) HC6.out.inv HO6.out (HT.out.below hB1 HC6.out.keep.below)).mono ?_; rintro e w7 ⟨rfl, hi7, hk7⟩; have HC7 := hideIt (HC6.out.hash h30 h91 h4 (j' := k + 1) hk7 (by rw [HINS.out]; exact hi7)); have HR7 := hideIt ((HR5.out.kept HB6.out HR5.out.lt).keepT hk7 h30); clear hi7 hk7)
          | ((with_reducible refine at_store ?_); refine wpList_put rfl 30 (.tmp 13) (.tmp 53) rfl g (y.map bv) _ _ rfl rfl HR7.out (by rw [List.length_map, HYL.out]; kernel_rfl) (by rw [List.length_map, List.length_map, HYL.out, HRL.out]) (bv_one _) ?_; intro w8 ht8 hb8; have HC8 := hideIt (HC7.out.put HST.out hB (k' := k + 1) ht8 (by rw [HROOT.out]; exact hb8) (by omega)); clear ht8 hb8))
        go_roundg (gk - 1)
        case measure => omega
        case rel => exact ⟨k + 1, by omega, by go_num, HC8⟩
      | false =>
        rw [if_neg (by decide)] at HX
        rw [HX.out] at HN2
        go_wp2_with (first
          | ((with_reducible refine at_load ?_); refine wpList_load_mid rfl 30 (.tmp 43) rfl bb _ rfl (d.map bv) (.array 16 5) (range16 HC16.out) (by kernel_rfl) rfl (isize16 _ HDL.out) ?_)
          | ((with_reducible refine at_store ?_); refine wpList_put rfl 30 (.tmp 15) (.tmp 44) rfl wo.heap.size (d.map bv) _ _ rfl rfl (Blk.new wo 30 (List.replicate 16 (Value.int .u8 0))) (by rw [List.length_map, HDL.out]; kernel_rfl) (by rw [List.length_map, HDL.out]; rfl) (bv_one _) ?_; intro w5 ht5 hb5; have HD5 := hideIt hb5; have HC5 := hideIt (HA2.out.other HST.out hB (Blk.new wo 30 (List.replicate 16 (Value.int .u8 0))) ht5 (by omega) (by omega)); have HR5 := hideIt (ht5.blk (HRB.out.alloc (.cells (List.replicate 16 (Value.int .u8 0)).toArray 30)) (by omega)); have hlv5 : w5.cell? ⟨w.heap.size + 1 + 1, 0, none⟩ = some (.slice (some ⟨b2, off2, none⟩) p cb) := (by rw [HC5.out.lv.cell]; rfl); have hcb5 : w5.cell? ⟨b2, off2 + k, none⟩ = some (.bool false) := ((ht5.cell (by omega)).trans ((below_new wo (.cells (List.replicate 16 (Value.int .u8 0)).toArray 30)).cell (p := ⟨b2, off2 + k, none⟩) hb2l)).trans HCELL.out; clear ht5 hb5)
          | ((with_reducible refine at_load ?_); refine wpList_get rfl 30 (.tmp 15) rfl wo.heap.size (d.map bv) 30 (.array 16 5) rfl HD5.out (by kernel_rfl) rfl (isize16 _ HDL.out) ?_)
          | ((with_reducible refine at_load ?_); refine wpList_get rfl 30 (.tmp 13) rfl g (r.map bv) 30 (.array 16 5) rfl HR5.out (by kernel_rfl) rfl (isize16 _ HRL.out) ?_)
          | (go_at_call 45; refine (HN2.out _).mono ?_; rintro e w6 ⟨v6, rfl, hown6, hb6⟩; have HO6 := hideIt hown6; have HB6 := hideIt hb6; have HC6 := hideIt (HC5.out.below HST.out hB hb6); clear hown6 hb6)
          | (go_at_call 35; refine (HH1.out _ _ _ (Nat.le_trans hB HC6.out.keep.size) HC6.out.inv HO6.out (HT.out.below hB1 HC6.out.keep.below)).mono ?_; rintro e w7 ⟨rfl, hi7, hk7⟩; have HC7 := hideIt (HC6.out.hash h30 h91 h4 (j' := k + 1) hk7 (by rw [HINS.out]; exact hi7)); have HR7 := hideIt ((HR5.out.kept HB6.out HR5.out.lt).keepT hk7 h30); clear hi7 hk7)
          | ((with_reducible refine at_store ?_); refine wpList_put rfl 30 (.tmp 13) (.tmp 58) rfl g (y.map bv) _ _ rfl rfl HR7.out (by rw [List.length_map, HYL.out]; kernel_rfl) (by rw [List.length_map, List.length_map, HYL.out, HRL.out]) (bv_one _) ?_; intro w8 ht8 hb8; have HC8 := hideIt (HC7.out.put HST.out hB (k' := k + 1) ht8 (by rw [HROOT.out]; exact hb8) (by omega)); clear ht8 hb8))
        go_roundg (gk - 1)
        case measure => omega
        case rel => exact ⟨k + 1, by omega, by go_num, HC8⟩
    · have hkp : k = p := by omega
      have HRB : Hid (Blk wo g 30 ((rootK bs ds leaf p).map bv)) := by rw [← hkp]; exact HC.out.root
      obtain ⟨r, hr⟩ : ∃ r, r = rootK bs ds leaf p := ⟨_, rfl⟩
      have HRL : Hid (r.length = 16) := by rw [hr]; exact rootK_len _ _ _ _
      rw [← hr] at HRB
      have HRE := hideIt hr
      clear hr
      go_wp2_with (first
        | ((with_reducible refine at_load ?_); refine wpList_get rfl 30 (.tmp 13) rfl g (r.map bv) 30 (.array 16 5) rfl HRB.out (by kernel_rfl) rfl (isize16 _ HRL.out) ?_)
        | ((with_reducible refine at_store ?_); refine wpList_put rfl 30 (.tmp 10) (.tmp 60) rfl (w.heap.size + 1) (r.map bv) _ _ rfl rfl HC.out.res (by rw [List.length_map, HRL.out]; kernel_rfl) (by rw [List.length_map, HRL.out]; rfl) (bv_one _) ?_; intro w8 ht8 hb8; have HT8 := hideIt ht8; have HB8 := hideIt hb8; clear ht8 hb8))
      refine bodyPost_ret (results_two rfl _ _ (w.heap.size + 1) _ (r.map bv) (.array 16 5) rfl HB8.out (by kernel_rfl) rfl (isize16 _ HRL.out)) rfl ⟨by rw [← HRE.out]; rfl, ?_, ?_⟩
      · have := HC.out.inv
        rw [hkp] at this
        exact HST.out _ _ _ this (KeepT.of_turned HC.out.res (by simp) (by omega) HT8.out)
      · exact HC.out.keep.later HT8.out (by omega) hB

end Go.Proofs.YtkjnimcapjjfdaaDoor
