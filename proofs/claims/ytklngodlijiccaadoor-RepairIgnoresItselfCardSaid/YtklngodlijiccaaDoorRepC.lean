/-
  What the laws of stage 10 share: lists of texts and plans as arguments, the length of a plan, equal plans.
-/
import Derived.Deep.DeepCutAuto
import Derived.Test.YtklngodlijiccaaDoorRepY
namespace Go.Proofs.YtklngodlijiccaaDoor
set_option linter.unusedVariables false
set_option linter.unusedSimpArgs false
section
open Go.ChangeShapes Go.WideShapes Go.ChangeAt Go.RowKit
variable {H : Type} {enc : TypeId × Value → H} {w : World}
theorem strs_of : ∀ css : List (List Value), (∀ cs ∈ css, (∃ s : ByteArray, cs = [.string s]) ∧ cs.length = 1) → ∃ us : List (List UInt8), us.length = css.length ∧ css.flatten = us.map sv
  | [], _ => ⟨[], rfl, rfl⟩
  | cs :: r, h => by
    obtain ⟨⟨b, rfl⟩, _⟩ := h cs (by simp)
    obtain ⟨l, h1, h2⟩ := strs_of r fun x hx => h x (by simp [hx])
    exact ⟨b.data.toList :: l, by simp [h1], by simp [h2, sv, list_str]⟩
theorem open_strs8 {A : Option Addr} {len cap : Nat} {fuel : Nat} {x : DataW H × List MemPlace} (hf : DataW.trod enc Tryd.prog w 0 (fun _ => true) true fuel 44 [.slice A len cap] = some x) :
    ∃ us : List (List UInt8), us.length = len ∧ Sl w w.heap.size A 1 len (us.map sv) ∧ us.length ≤ 9223372036854775807 := by
  obtain ⟨h1, h2, hd, css, h3, h4, h5⟩ := open_elems (size := 1) Tryd.underlying44 (by kernel_rfl) (by omega) (fun cs => ∃ s : ByteArray, cs = [.string s]) (fun n cs y _ hy => by
    obtain ⟨s, rfl, _, hw⟩ := DataW.trod_string Tryd.underlying9 hy
    exact ⟨s, rfl⟩) hf
  obtain ⟨l, q1, q2⟩ := strs_of css h4
  have big : maxLen ≤ 9223372036854775807 := by decide
  exact ⟨l, q1.trans h3, q2 ▸ h5, by omega⟩
theorem open_strsD {A : Option Addr} {len cap : Nat} {d : DataW H} {p : List MemPlace} (h : DataW.Trod enc Tryd.prog w 0 (fun _ => true) true 44 (.slice A len cap) d p) :
    ∃ us : List (List UInt8), us.length = len ∧ Sl w w.heap.size A 1 len (us.map sv) ∧ us.length ≤ 9223372036854775807 := by
  obtain ⟨fuel, hf⟩ := h
  exact open_strs8 (show DataW.trod enc Tryd.prog w 0 (fun _ => true) true fuel 44 [.slice A len cap] = some _ from hf)
theorem open_boolsZ {A : Option Addr} {len cap : Nat} {d : DataW H} {p : List MemPlace} (h : DataW.Trod enc Tryd.prog w 0 (fun _ => true) true 25 (.slice A len cap) d p) :
    ∃ us : List Bool, us.length = len ∧ Sl w w.heap.size A 1 len (us.map bl) ∧ ((d = .nil ∧ len = 0) ∨ ∃ es rs, d = .slice es rs ∧ es.length = len) := by
  obtain ⟨fuel, hf⟩ := h
  obtain ⟨h1, h2, hd, css, h3, h4, h5⟩ := open_elems (size := 1) Tryd.underlying25 (by kernel_rfl) (by omega) (fun cs => ∃ b : Bool, cs = [.bool b]) (fun n cs y _ hy => by
    obtain ⟨b, rfl, _⟩ := DataW.trod_bool Tryd.underlying4 hy
    exact ⟨b, rfl⟩) (show DataW.trod enc Tryd.prog w 0 (fun _ => true) true fuel 25 [.slice A len cap] = some _ from hf)
  obtain ⟨l, q1, q2⟩ := bools_of css h4
  exact ⟨l, q1.trans h3, q2 ▸ h5, hd⟩
end
section
open Go.RowKit
section
variable {T e : TypeId} {size : Nat} {z : Value} {ops : Array Oper} {rest : List Oper} {o : Oper} {a : Act} {Q : Exit → Act → World → Prop} {w : World}
/-- Appending many, of one byte each, at an address. -/
theorem wpList_apH (hT : Tryd.prog.underlying T = some (.slice e)) (hi : (Tryd.prog.info? e).map (fun i => (i.zero, i.size, i.bytes)) = some (some z, size, 1)) (hzs : z.cells.size = size) (hsz : 0 < size)
    (hgd : o.guard = none) (s x : Operand) (ho : o.op = .call { callee := .builtin .append, args := #[s, x], argTypes := #[T, T] })
    {base : Nat} {v : Value} {n : Nat} {xs : List Value} (hs : a.eval s = v) (hown : w.ownsRow base e size v n xs)
    {ad : Addr} {m c : Nat} {news : List Value} (hx : a.eval x = .slice (some ad) m c) (hl : news.length = m * size) (hnews : ∀ j u, news[j]? = some u → w.cell? (ad.add j) = some u) (h1 : ∀ u ∈ news, u.oneCell' = true)
    (hn : n + m ≤ 140737488355328) (hbase : base ≤ w.heap.size)
    (h : ∀ v' w', Hid (w'.ownsRow base e size v' (n + m) (xs ++ news)) → Hid (w.grownBy w' v.ownBlock) → Hid (v'.ownBlock = v.ownBlock ∨ v'.ownBlock = some w.heap.size) → Hid (Below base w w') → wpList Tryd.prog ops Q rest (a.put o.dst v') w') :
    wpList Tryd.prog ops Q (o :: rest) a w := by
  obtain ⟨i, h2, h3, h4, h5⟩ := info_parts hi
  exact wpList_append_own_at w hgd s x T ho base e i z size 1 hT h2 h3 h4 h5 hzs hsz v n xs hs hown ad m c news hx hl hnews h1 (by unfold maxLen; omega)
    (by omega) hbase fun v' w' q1 q2 _ q3 => h v' w' q1 q2 q3 (below_grown (Below.refl _ _) hown (Nat.le_refl _) hbase q2)
end
/-- What a call owns, cell by cell. -/
theorem own_cur {w : World} {base n : Nat} {e : TypeId} {v : Value} {xs : List Value} (h : w.ownsRow base e 1 v n xs) (hn : 0 < n) : ∃ g cap cur, v = .slice (some ⟨g, 0, none⟩) n cap ∧ base ≤ g ∧ Blk w g e cur ∧ (∀ (j : Nat) (u : Value), xs[j]? = some u → cur[j]? = some u) ∧ xs.length = n := by
  rcases h.2 with ⟨_, h0⟩ | ⟨g, cap, cur, hv, hb, hg, _, _, _, ht⟩
  · omega
  · refine ⟨g, cap, cur.toList, hv, hb, by unfold Blk; exact hg, fun j u hj => ?_, by have := h.1; omega⟩
    rw [← ht, List.getElem?_take] at hj
    split at hj
    · exact hj
    · cases hj
theorem sl_set {w : World} {g n k : Nat} {e : TypeId} {cur xs : List Value} {u : Value} (h : Blk w g e cur) (hx : ∀ (j : Nat) (v : Value), xs[j]? = some v → cur[j]? = some v) (hl : xs.length = n) : Sl (w.setCell ⟨g, k, none⟩ u) (w.setCell ⟨g, k, none⟩ u).heap.size (some ⟨g, 0, none⟩) 1 n (xs.set k u) := by
  have hb := h.store k u
  refine ⟨by rw [List.length_set, hl, Nat.mul_one], fun _ => ⟨g, 0, rfl, hb.lt, fun j v hj => ?_⟩⟩
  rw [Nat.zero_add, hb.cell]
  rw [List.getElem?_set] at hj ⊢
  by_cases e : k = j
  · rw [if_pos e] at hj ⊢
    split at hj
    · next h0 =>
      rw [if_pos (by
        have h1 : xs[j]? = some xs[j] := List.getElem?_eq_getElem (by omega)
        have h2 := hx j _ h1
        have := (List.getElem?_eq_some_iff.1 h2).1
        omega)]
      exact hj
    · cases hj
  · rw [if_neg e] at hj ⊢
    exact hx j v hj
theorem planR_len (x : Cd) (hs : List Bool) (u : Int) : (planR x hs u).1.2.length ≤ 32 := by
  unfold planR
  by_cases h : okB x hs = true ∧ idxB hs u = true
  · rw [if_pos h]
    have hok := h.1
    have hix := h.2
    unfold okB at hok
    rw [Bool.and_eq_true, decide_eq_true_eq] at hok
    obtain ⟨m, n, hvc⟩ := vC_spec hok.1
    have hl : hs.length = n + x.par.length := by have := hok.2; have := hvc.d; omega
    have hu : u.toNat < hs.length := by have := of_decide_eq_true hix; omega
    cases hb : besK x hs u.toNat x.par.length with
    | none => simp
    | some L =>
      have := (besK_good hvc hl h.1 hu _ (Nat.le_refl _) L hb).len
      have := hvc.wid
      simp only
      omega
  · rw [if_neg h]; simp
/-- Two plans that lie alike are the same. -/
theorem same_it (u : Int) (L : List (Nat × Nat)) (hl : L.length ≤ 32) (W : World) (F F' : Option Addr) (c c' : Nat) (h : Sl W W.heap.size F 2 L.length (tcs L)) (h' : Sl W W.heap.size F' 2 L.length (tcs L)) :
    Calls Tryd.prog 17 #[.agg #[.int .i64 u, .slice F L.length c], .agg #[.int .i64 u, .slice F' L.length c']] W (fun e w' => e = .returned (.bool true) ∧ Below W.heap.size W w') := by
  refine (rsame_any u u L L (by omega) F F' c c' W h h').mono ?_
  rintro e w' ⟨rfl, hb⟩
  exact ⟨by rw [decide_eq_true ⟨rfl, rfl⟩], hb⟩
/-- Two lists of numbers that lie alike are the same. -/
theorem ints_same (xs : List Int) (n : Nat) (hn : xs.length = n) (hl : n ≤ 100000) (W : World) (F F' : Option Addr) (c c' : Nat) (h : Sl W W.heap.size F 1 n (xs.map iv)) (h' : Sl W W.heap.size F' 1 n (xs.map iv)) :
    Calls Tryd.prog 16 #[.slice F n c, .slice F' n c'] W (fun e w' => e = .returned (.bool true) ∧ Below W.heap.size W w') := by
  subst hn
  refine (sameInts_any xs xs F F' c c' W h h' hl).mono ?_
  rintro e w' ⟨rfl, n, rfl⟩
  exact ⟨by rw [decide_eq_true rfl], below_drewN (Below.refl _ _) n⟩
/-- What the reads of a plan are. -/
def RdSl (w : World) (xs : List Int) (n : Nat) (e : Ending) (w' : World) : Prop := ∃ D cd, e = .returned (.slice D n cd) ∧ Sl w' w'.heap.size D 1 n (xs.map iv) ∧ Below w.heap.size w w'
theorem reads_sl (u : Int) (l : List (Int × Int)) (hl : l.length ≤ 1000) (A : Option Addr) (c : Nat) (w : World) (h : Sl w w.heap.size A 2 l.length (zcs l)) :
    Calls Tryd.prog 18 #[.agg #[.int .i64 u, .slice A l.length c]] w (RdSl w (l.map (·.1)) l.length) := by
  refine (reads_any u l hl A c w h).mono ?_
  rintro e w' ⟨D, cd, rfl, hs, hb⟩
  rw [List.length_map] at hs
  exact ⟨D, cd, by rw [List.length_map], hs, hb⟩
theorem rreads_sl (u : Int) (l : List (Int × Int)) (hl : l.length ≤ 1000) (A : Option Addr) (c : Nat) (w : World) (h : Sl w w.heap.size A 2 l.length (zcs l)) :
    Calls Tryd.prog 19 #[.agg #[.int .i64 u, .slice A l.length c]] w (RdSl w (l.map (·.1)) l.length) := by
  refine (rreads_any u l hl A c w h).mono ?_
  rintro e w' ⟨v, rfl, ho, hb⟩
  obtain ⟨D, cd, rfl, _, _⟩ := own_form ho
  have hs := Sl.of_own ho
  rw [List.length_map] at hs
  exact ⟨D, cd, by rw [List.length_map], hs, hb⟩
theorem reads_tl (u : Int) (L : List (Nat × Nat)) (hl : L.length ≤ 1000) (A : Option Addr) (c : Nat) (w : World) (h : Sl w w.heap.size A 2 L.length (tcs L)) :
    Calls Tryd.prog 18 #[.agg #[.int .i64 u, .slice A L.length c]] w (RdSl w ((zt L).map (·.1)) L.length) := by
  have := reads_sl u (zt L) (by rw [List.length_map]; exact hl) A c w (by rw [zcs_tcs, List.length_map]; exact h)
  rwa [show (zt L).length = L.length from List.length_map ..] at this
theorem rreads_tl (u : Int) (L : List (Nat × Nat)) (hl : L.length ≤ 1000) (A : Option Addr) (c : Nat) (w : World) (h : Sl w w.heap.size A 2 L.length (tcs L)) :
    Calls Tryd.prog 19 #[.agg #[.int .i64 u, .slice A L.length c]] w (RdSl w ((zt L).map (·.1)) L.length) := by
  have := rreads_sl u (zt L) (by rw [List.length_map]; exact hl) A c w (by rw [zcs_tcs, List.length_map]; exact h)
  rwa [show (zt L).length = L.length from List.length_map ..] at this
theorem zt_len (L : List (Nat × Nat)) : ((zt L).map (·.1)).length = L.length := by rw [List.length_map]; exact List.length_map ..
/-- The checks as rows of numbers. -/
def rwR (x : Cd) (u : Int) : List (List Int) := (chksR x u).map nI
theorem rwR_len {x : Cd} (h : Sm x) (u : Int) : (rwR x u).length ≤ 100 ∧ ∀ l ∈ rwR x u, l.length ≤ 100 := by
  unfold rwR chksR
  have hp := h.par
  have hd := h.data
  refine ⟨?_, fun l hl => ?_⟩
  · rw [List.length_map]
    split
    · unfold chks
      have h1 := List.length_filter_le (fun l => hasZ l u) ((List.range x.par.length).map (chk x))
      rw [List.length_map, List.length_range] at h1
      omega
    · simp
  · obtain ⟨b, hb, rfl⟩ := List.mem_map.1 hl
    split at hb
    · unfold chks at hb
      obtain ⟨i, _, rfl⟩ := List.mem_map.1 (List.mem_filter.1 hb).1
      rw [List.length_map]
      unfold chk
      rw [List.length_append]
      have h1 := List.length_filter_le (fun j => decide (gC x (x.data.toNat + i) j ≠ 0)) (List.range x.data.toNat)
      rw [List.length_range] at h1
      simp only [List.length_singleton]
      omega
    · cases hb
def PmRes (w : World) (ws : List (List Int)) (e : Ending) (w' : World) : Prop := ∃ F cf, e = .returned (.slice F ws.length cf) ∧ PM w' w'.heap.size F ws ∧ Below w.heap.size w w'
theorem checks_pm (x : Cd) (A : Option Addr) (c : Nat) (w : World) (hT : Tabs w) (hx : CIn w x A) (u : Int) :
    Calls Tryd.prog 14 #[x.v A c, .int .i64 u] w (PmRes w (rwR x u)) := by
  refine (checks_any x A c w hT hx u).mono ?_
  rintro e w' ⟨v, rfl, hj, hb⟩
  obtain ⟨F, cf, rfl, _, hp⟩ := hj.pm
  exact ⟨F, cf, by unfold rwR; rw [List.length_map], hp, hb⟩
theorem rchecks_pm (x : Cd) (A : Option Addr) (c : Nat) (w : World) (hx : CIn w x A) (hsm : Sm x) (u : Int) :
    Calls Tryd.prog 15 #[x.v A c, .int .i64 u] w (PmRes w (rwR x u)) := by
  refine (rchks_any x A c w hx hsm u).mono ?_
  rintro e w' ⟨v, rfl, hj, hb⟩
  obtain ⟨F, cf, rfl, _, hp⟩ := hj.pm
  exact ⟨F, cf, by unfold rwR; rw [List.length_map], hp, hb⟩
end
end Go.Proofs.YtklngodlijiccaaDoor
