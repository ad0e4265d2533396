/-
  The multiples of a unit, walked: products.
-/
import Derived.Test.YtihepogccgcfkaaDoorFldT
namespace Go.Proofs.YtihepogccgcfkaaDoor
open Go.RowKit Go.Shelf
set_option linter.unusedVariables false
attribute [local go_sem] Oper.semAt_some

theorem sym_iter (m : Nat) (hmf : Fm m) (l : List UInt8) (hw : whl m l) (hl : l.length ≤ 100000) (B : Nat) (w0 : World) (hB : B + 2 < w0.heap.size) (hm : w0.cell? ⟨B, 0, none⟩ = some (.int .i64 (m : Int))) (hu : w0.cell? ⟨B + 1, 0, none⟩ = some (.string (str l))) (hd : w0.cell? ⟨B + 2, 0, none⟩ = some (.int .i64 ((m / 8 : Nat) : Int))) :
    Iter Tryd.prog 43 #[.pointer (some ⟨B + 1, 0, none⟩), .pointer (some ⟨B + 2, 0, none⟩), .pointer (some ⟨B, 0, none⟩)] (fun x : Nat => #[.int .i64 (x : Int)]) (sy m l) (capS B) w0 := by
  rcases hmf with rfl | rfl
  · exact sym8_iter l hl B w0 hB hm hu hd
  · exact sym16_iter l hw hl B w0 hB hm hu hd
theorem own_at {w w' : World} {base : Nat} {e : TypeId} {size n c g : Nat} {xs : List Value} (h : w.ownsRow base e size (.slice (some ⟨g, 0, none⟩) n c) n xs) (hb : w'.heap[g]? = w.heap[g]?) : w'.ownsRow base e size (.slice (some ⟨g, 0, none⟩) n c) n xs := by
  refine ⟨h.1, ?_⟩
  rcases h.2 with ⟨h0, _⟩ | ⟨g2, cap, cur, hv, hg, hh, r⟩
  · cases h0
  · injection hv with h1 h2 h3
    injection h1 with h1
    injection h1 with h1
    subst h1 h3
    exact .inr ⟨g, c, cur, rfl, hg, by rw [hb]; exact hh, r⟩
theorem own_lt {w : World} {base : Nat} {e : TypeId} {size n c g : Nat} {xs : List Value} (h : w.ownsRow base e size (.slice (some ⟨g, 0, none⟩) n c) n xs) : g < w.heap.size := by
  rcases h.2 with ⟨h0, _⟩ | ⟨g2, cap, cur, hv, hg, hh, r⟩
  · cases h0
  · injection hv with h1 h2 h3
    injection h1 with h1
    injection h1 with h1
    subst h1
    exact (Array.getElem?_eq_some_iff.1 hh).1
theorem conv_byte (q : Nat) (W : World) : (convert 3 5 (.int .i64 (q : Int))).run Tryd.prog W = .ok (bv (UInt8.ofNat q)) W := by
  rw [run_convert_int (P := Tryd.prog) W 3 5 .i64 _ (by kernel_rfl) (by kernel_rfl), show Tryd.prog.intKind 5 = .u8 by kernel_rfl, IntKind.wrap_u8']
  have e : (q : Int) % 256 = ((UInt8.ofNat q).toNat : Int) := by rw [UInt8.toNat_ofNat']; omega
  rw [e]
theorem at_append_in {F : Fence} {nF : Nat} {P : Program} {ops : Array Oper} {rest : List Oper} {Q : Exit → Act → World → Prop} {a : Act} {w : World} {xs : Array Operand} {ts : Array TypeId} {d t p f g}
    (h : wpListIn F nF P ops Q ({ dst := d, op := .call { callee := .builtin .append, args := xs, argTypes := ts }, type := t, pos := p, after := f, guard := g } :: rest) a w) :
    wpListIn F nF P ops Q ({ dst := d, op := .call { callee := .builtin .append, args := xs, argTypes := ts }, type := t, pos := p, after := f, guard := g } :: rest) a w := h

theorem free_one (W : World) (t : TypeId) (v : Value) : (W.alloc (.cells #[v] t)).frozen? ⟨W.heap.size, 0, none⟩ = false := by
  have h := heap_alloc_new W (.cells #[v] t)
  simp only [World.frozen?, h]
  rfl
theorem Tabs.of_block {w w' : World} (h : Tabs w) (h0 : w'.heap[0]? = w.heap[0]?) : Tabs w' := by
  have a0 := h.lo
  rw [Array.getElem?_eq_getElem a0] at h0
  refine ⟨(Array.getElem?_eq_some_iff.1 h0).1, fun j hj => ?_⟩
  rw [World.cell?_of_block (w := w) (a := ⟨0, j, none⟩) (by rw [Array.getElem?_eq_getElem a0]; exact h0)]
  exact h.tab j hj
theorem Keeps.grown {T : Nat → Prop} {a b c : World} {g : Nat} (h : Keeps T a b) (hg : b.grownBy c (some g)) (hT : T g) : Keeps T a c :=
  h.trans ⟨hg.os, hg.tape, hg.output, hg.size, fun k hk hn => hg.block k hk (fun e => by injection e with e; exact hn (e ▸ hT))⟩
/-- A row of bytes of the call's own, whose slice lies in a box. -/
structure Boxed (W : World) (g bx n k : Nat) (xs : List Value) : Prop where
  cell : W.cell? ⟨bx, 0, none⟩ = some (.slice (some ⟨g, 0, none⟩) k n)
  free : W.frozen? ⟨bx, 0, none⟩ = false
  own : W.ownsRow g 5 1 (.slice (some ⟨g, 0, none⟩) k n) k xs
  lt : bx < W.heap.size
  ne : g ≠ bx
theorem Boxed.keep {W W' : World} {g bx n k : Nat} {xs : List Value} (h : Boxed W g bx n k xs) (hb : Below W.heap.size W W') : Boxed W' g bx n k xs :=
  ⟨(hb.cell (p := ⟨bx, 0, none⟩) h.lt).trans h.cell, (hb.frozen (p := ⟨bx, 0, none⟩) h.lt).trans h.free, own_at h.own (hb.block g (own_lt h.own)), Nat.lt_of_lt_of_le h.lt hb.size, h.ne⟩
theorem Boxed.low {L : Nat} {W W' : World} {g bx n k : Nat} {xs : List Value} (h : Boxed W g bx n k xs) (hg : g < L) (hx : bx < L) (hb : Below L W W') : Boxed W' g bx n k xs :=
  ⟨(hb.cell (p := ⟨bx, 0, none⟩) hx).trans h.cell, (hb.frozen (p := ⟨bx, 0, none⟩) hx).trans h.free, own_at h.own (hb.block g hg), Nat.lt_of_lt_of_le h.lt hb.size, h.ne⟩
theorem Boxed.next {W W6 : World} {g bx n k : Nat} {xs ys : List Value} (h : Boxed W g bx n k xs) (hg : W.grownBy W6 (some g)) (ho : W6.ownsRow g 5 1 (.slice (some ⟨g, 0, none⟩) (k + 1) n) (k + 1) ys) :
    W6.cell? ⟨bx, 0, none⟩ = some (.slice (some ⟨g, 0, none⟩) k n) ∧ W6.frozen? ⟨bx, 0, none⟩ = false ∧ Boxed (W6.setCell ⟨bx, 0, none⟩ (.slice (some ⟨g, 0, none⟩) (k + 1) n)) g bx n (k + 1) ys := by
  have hbk := hg.block bx h.lt (fun e => by injection e with e; exact h.ne e.symm)
  have c6 : W6.cell? ⟨bx, 0, none⟩ = some (.slice (some ⟨g, 0, none⟩) k n) := by rw [World.cell?_of_block (w := W) (a := ⟨bx, 0, none⟩) hbk]; exact h.cell
  have f6 : W6.frozen? ⟨bx, 0, none⟩ = false := by rw [World.frozen?_of_block (w := W) (a := ⟨bx, 0, none⟩) hbk]; exact h.free
  refine ⟨c6, f6, ⟨?_, ?_, ?_, ?_, h.ne⟩⟩
  · rw [World.cell?_setCell_same' _ _ _ (by rw [c6]; rfl)]
  · rw [World.frozen?_setCell]; exact f6
  · exact own_at ho (heap_setCell_other W6 ⟨bx, 0, none⟩ g _ h.ne)
  · simpa [World.setCell] using Nat.lt_of_lt_of_le h.lt hg.size

/-- The bytes of the first symbols' multiples. -/
def prB (m c : Nat) (pre : List Nat) : List UInt8 := pre.flatMap fun s => byt m (mul m s c)
theorem prB_snoc (m c : Nat) (pre : List Nat) (x : Nat) : prB m c (pre ++ [x]) = prB m c pre ++ byt m (mul m x c) := by
  unfold prB; rw [List.flatMap_append]; simp
theorem prB_all (m c : Nat) (l : List UInt8) : prB m c (sy m l) = sc m c l := rfl
theorem prB_le (m c : Nat) (l : List UInt8) (hm : Fm m) (hw : whl m l) (pre : List Nat) (h : pre <+: sy m l) : (prB m c pre).length ≤ l.length := by
  obtain ⟨t, ht⟩ := h
  have h1 := sc_len hm c l hw
  rw [← prB_all, ← ht] at h1
  unfold prB at h1 ⊢
  rw [List.flatMap_append, List.length_append] at h1
  omega
theorem sy_lt (m : Nat) (hm : Fm m) (l : List UInt8) (hw : whl m l) : ∀ x ∈ sy m l, x < 2 ^ m := by
  rcases hm with rfl | rfl
  · intro x hx
    unfold sy at hx
    rw [if_neg (by decide)] at hx
    obtain ⟨u, _, rfl⟩ := List.mem_map.1 hx
    exact u.toNat_lt
  · revert hw
    refine pairs (P := fun l => ∀ x ∈ sy 16 l, x < 2 ^ 16) ?_ ?_ l
    · intro x hx; cases hx
    · intro u v l _ ih x hx
      rcases List.mem_cons.1 (show x ∈ (256 * u.toNat + v.toNat) :: sy 16 l from hx) with rfl | hx
      · exact sym_lt u v
      · exact ih x hx

theorem cell_one_set (w : World) (p : Addr) (x : Value) (t : TypeId) (v : Value) : ∀ (j : Nat) (u : Value), [v][j]? = some u → ((w.setCell p x).alloc (.cells #[v] t)).cell? (Addr.add ⟨w.heap.size, 0, none⟩ j) = some u := by
  have h := cell_one_new (w.setCell p x) v t
  rw [show (w.setCell p x).heap.size = w.heap.size by simp [World.setCell]] at h
  exact h
set_option maxHeartbeats 1000000 in
set_option maxRecDepth 100000 in
theorem products_any (m c : Nat) (l : List UInt8) (hm : Fm m) (hc : c < 2 ^ m) (hw : whl m l) (hl : l.length ≤ 100000) (w : World) (hT : Tabs w) :
    Calls Tryd.prog 38 #[.int .i64 (m : Int), .int .i64 (c : Int), .string (str l)] w fun e w' => ∃ g, e = .returned (.slice (some ⟨g, 0, none⟩) l.length l.length) ∧ w.heap.size ≤ g ∧ w'.ownsRow g 5 1 (.slice (some ⟨g, 0, none⟩) l.length l.length) l.length ((sc m c l).map bv) ∧ Below w.heap.size w w' := by
  obtain ⟨i0, hi, hz0, hz1, hz2⟩ := info_parts (show (Tryd.prog.info? 5).map (fun i => (i.zero, i.size, i.bytes)) = some (some (Value.int .u8 0), 1, 1) by kernel_rfl)
  have HI := hideIt hi
  have HZ0 := hideIt hz0
  have HZ1 := hideIt hz1
  have HZ2 := hideIt hz2
  have hsz := str_size l
  have HSL := hideIt (sc_len hm c l hw)
  have HM := hideIt hm
  have HC := hideIt hc
  have HW := hideIt hw
  have HL := hideIt hl
  have HT := hideIt hT
  obtain ⟨w1, hw1⟩ : ∃ x, x = (w.alloc (.cells #[.int .i64 (m : Int)] 3)).alloc (.cells #[.int .i64 (c : Int)] 3) := ⟨_, rfl⟩
  have HB1 := hideIt (show Below w.heap.size w w1 by rw [hw1]; exact ((Below.refl _ w).alloc (Nat.le_refl _) _).alloc (by simp) _)
  have HS1 := hideIt (show w1.heap.size = w.heap.size + 2 by rw [hw1]; simp)
  have HC1 := hideIt (show w1.cell? ⟨w.heap.size, 0, none⟩ = some (.int .i64 (m : Int)) by rw [hw1]; exact cells2 _ _ _ _)
  have HC2 := hideIt (show w1.cell? ⟨w.heap.size + 1, 0, none⟩ = some (.int .i64 (c : Int)) by
    rw [hw1]
    have := cell_one (w.alloc (.cells #[.int .i64 (m : Int)] 3)) 3 (.int .i64 (c : Int))
    rw [World.size_alloc] at this
    exact this)
  have HW1 := hideIt hw1
  clear hi hz0 hz1 hz2 hm hc hw hl hT hw1
  refine callsIn_wide.1 (callsIn_of_wp_marks (n := 0) Tryd.func38 rfl trivial ((wpIn_wide (n := 0)).2 ?_))
  simp only [Tryd.ntmps38, List.size_toArray, List.length_cons, List.length_nil, Nat.reduceAdd, Nat.reduceSub, Array.replicate_succ, Array.replicate_zero, List.push_toArray, List.append_toArray, List.nil_append, List.cons_append]
  go_wp2_with (first
    | ((with_reducible refine at_make ?_); rw [← HW1.out]; refine wpList_make_own w1 rfl (.const (.int .i64 0)) (.tmp 11) 51 rfl w1.heap.size 5 i0 (.int .u8 0) 1 Tryd.underlying51 HI.out HZ0.out HZ1.out .i64 .i64 _ l.length rfl rfl rfl (by rw [HZ2.out]; have := HL.out; omega) (by have := HL.out; unfold maxLen; omega) (Nat.le_refl _) ?_; intro w2 hown2 hgr2; have HO2 := hideIt hown2; have HG2 := hideIt ((Below.refl w1.heap.size w1).grown hgr2 (Nat.le_refl _) (by simp)); have hA : (w2.alloc (.cells #[.slice (some ⟨w1.heap.size, 0, none⟩) 0 l.length] 51)).cell? ⟨w.heap.size, 0, none⟩ = some (.int .i64 (m : Int)) := (((HG2.out.trans ((below_new w2 _).mono HG2.out.size)).cell (p := ⟨w.heap.size, 0, none⟩) (by rw [HS1.out]; show w.heap.size < _; omega)).trans HC1.out); clear hown2 hgr2)
    | (go_at_call 42; refine (symbols_any m HM.out (str l) _).mono ?_; rintro e w4 ⟨rfl, hb4, hz4, c41, c42, c43⟩))
  have hs1 := HS1.out
  have hgl := own_lt HO2.out
  have ho2 := HO2.out
  have hc3 := cell_one w2 51 (.slice (some ⟨w1.heap.size, 0, none⟩) 0 l.length)
  have hf3 := free_one w2 51 (.slice (some ⟨w1.heap.size, 0, none⟩) 0 l.length)
  have hb3 := below_new w2 (.cells #[.slice (some ⟨w1.heap.size, 0, none⟩) 0 l.length] 51)
  have hz3 := World.size_alloc w2 (.cells #[.slice (some ⟨w1.heap.size, 0, none⟩) 0 l.length] 51)
  have hA2 := (hb3.cell (p := ⟨w.heap.size + 1, 0, none⟩) (by show w.heap.size + 1 < _; omega)).trans ((HG2.out.cell (p := ⟨w.heap.size + 1, 0, none⟩) (by show w.heap.size + 1 < _; omega)).trans HC2.out)
  generalize w2.alloc (.cells #[.slice (some ⟨w1.heap.size, 0, none⟩) 0 l.length] 51) = w3 at *
  generalize hb : w.heap.size = b at *
  generalize hg : w1.heap.size = g at *
  generalize hbx : w2.heap.size = bx at *
  have hgb : g = b + 2 := by omega
  rw [hz3] at c41 c42 c43
  have hBX := hideIt (show Boxed w4 g bx l.length 0 [] from (show Boxed w3 g bx l.length 0 [] from ⟨hc3, hf3, own_at ho2 (hb3.block g hgl), by omega, by omega⟩).keep hb4)
  have hzz : w4.heap.size = bx + 4 := by omega
  have hT4 : Tabs w4 := HT.out.keep (by rw [hb]; exact HB1.out.trans ((HG2.out.trans ((hb3.mono (by omega)).trans (hb4.mono (by omega)))).mono (by omega)))
  have HBW := hideIt (show Below b w w4 from HB1.out.trans ((HG2.out.trans ((hb3.mono (by omega)).trans (hb4.mono (by omega)))).mono (by omega)))
  have HCM := hideIt ((hb4.cell (p := ⟨b, 0, none⟩) (by show b < _; omega)).trans hA)
  have HCC := hideIt ((hb4.cell (p := ⟨b + 1, 0, none⟩) (by show b + 1 < _; omega)).trans hA2)
  have HIT := hideIt (sym_iter m HM.out l HW.out HL.out (bx + 1) w4 (by omega) c41 c42 c43)
  have htl : 0 < b := by rw [← hb]; exact HT.out.lo
  have Q1 := hideIt (show ∀ q, capS (bx + 1) q → q < w4.heap.size from fun q hq => by rcases hq with rfl | rfl | rfl <;> omega)
  have Q2 := hideIt (show ∀ q, (q = g ∨ q = bx) → q < w4.heap.size ∧ ¬ capS (bx + 1) q from fun q hq => by rcases hq with rfl | rfl <;> exact ⟨by omega, fun hh => by rcases hh with hh | hh | hh <;> omega⟩)
  have Q3 := hideIt (show Low w4.heap.size (fun (pre : List Nat) W => Boxed W g bx l.length (prB m c pre).length ((prB m c pre).map bv)) from fun s A V h hbl => h.low (by omega) (by omega) hbl)
  have Q4 := hideIt (show b + 2 = g ∧ g < bx ∧ w4.heap.size = bx + 4 ∧ 0 < b from ⟨hgb.symm, hgl, hzz, htl⟩)
  have HT4 := hideIt hT4
  have HBS := hideIt hb
  clear hb hg hbx hs1 hgl ho2 hA hA2 hb4 hz4 c41 c42 c43 hc3 hf3 hb3 hz3 hgb hzz hT4 htl HO2 HG2 HB1 HS1 HC1 HC2 HW1 HT
  refine range_any (gf := 43) (lb := #[.pointer (some ⟨bx + 1 + 1, 0, none⟩), .pointer (some ⟨bx + 1 + 2, 0, none⟩), .pointer (some ⟨bx + 1, 0, none⟩)]) rfl (enters_of Tryd.func43 (by kernel_rfl) rfl) HIT.out
    (fun q hq => ⟨Q1.out q hq, rfl⟩) (fun _ => rfl) (fun q => q = g ∨ q = bx) Q2.out
    (fun pre W => Boxed W g bx l.length (prB m c pre).length ((prB m c pre).map bv)) (fun _ _ _ => False) Q3.out (fun _ _ _ _ h _ => h) hBX.out ?a1 ?assign ?body ?done ?stop
  case assign =>
    intro l' x W K hK
    have HK2 := hideIt hK
    clear hK
    gi_wp2
    exact HK2.out
  case body =>
    rintro l' pre x W hpre hKW hI
    have hx := sy_lt m HM.out l HW.out x (hpre.subset (by simp))
    have hTW := HT4.out.of_block (hKW.block _ (by have := Q4.out; omega) (fun hh => by have := Q4.out; rcases hh with hh | hh <;> omega))
    have hcm := (hKW.cell (p := ⟨b, 0, none⟩) (by have := Q4.out; show b < _; omega) (fun hh => by have := Q4.out; rcases hh with hh | hh <;> (have hh : b = _ := hh; omega))).trans HCM.out
    have hcc := (hKW.cell (p := ⟨b + 1, 0, none⟩) (by have := Q4.out; show b + 1 < _; omega) (fun hh => by have := Q4.out; rcases hh with hh | hh <;> (have hh : b + 1 = _ := hh; omega))).trans HCC.out
    have HP := hideIt (show Calls Tryd.prog 31 #[.int .i64 (m : Int), .int .i64 (x : Int), .int .i64 (c : Int)] W _ from prod_any m x c HM.out hx HC.out W hTW 0)
    have hplt := mul_lt HM.out c hx
    have hle := prB_le m c l HM.out HW.out _ hpre
    have hWb : b < W.heap.size := Nat.lt_of_lt_of_le (by have := Q4.out; omega) hKW.size
    have hsn := prB_snoc m c pre x
    rw [hsn] at hle
    obtain ⟨L0, hL0⟩ : ∃ L0, L0 = prB m c pre := ⟨_, rfl⟩
    obtain ⟨p, hp⟩ : ∃ p, p = mul m x c := ⟨_, rfl⟩
    rw [← hL0] at hI hle hsn
    rw [← hp] at HP hplt hle hsn
    have HSN := hideIt hsn
    obtain ⟨k0, hk0⟩ : ∃ k0, k0 = L0.length := ⟨_, rfl⟩
    rw [← hk0] at hI
    have HK0 := hideIt hk0
    have HIV := hideIt hI
    have HCMW := hideIt hcm
    have HWB := hideIt hWb
    clear hI hL0 hp hKW hpre hTW hx hsn hk0
    gi_wp2_with fail
    refine ⟨trivial, rfl, ?_⟩
    refine (CallsIn.inRound l' (callsIn_wide.2 HP.out)).mono ?_
    rintro e w5 ⟨rfl, k5, hw5⟩
    have hb5 : Below W.heap.size W w5 := by rw [hw5]; exact below_drewN (below_drewN (Below.refl _ _) 0) k5
    have H5 := hideIt (HIV.out.keep hb5)
    have hm5 := (hb5.cell (p := ⟨b, 0, none⟩) HWB.out).trans HCMW.out
    have HK5 := hideIt (show Keeps (fun q => q = g ∨ q = bx) W w5 from Keeps.of_below hb5)
    have hbc := H5.out.cell
    clear hw5 hb5 HP HIV hcm hcc HCMW
    by_cases h16 : m = 16
    · have hshr : binOp .shr 3 (.int .i64 (p : Int)) (.int .u64 8) = pure (.int .i64 ((p / 256 : Nat) : Int)) := nshr 3 (k := .u64) p 8 (by decide) (by have := fm_big HM.out; omega)
      have hcA := fun W => conv_byte (p / 256) W
      have hcB := fun W => conv_byte p W
      rw [show byt m p = [UInt8.ofNat (p / 256), UInt8.ofNat p] from by unfold byt; rw [if_pos h16]] at HSN hle
      have HFIT := hideIt (show k0 + 2 ≤ l.length by have := HK0.out; rw [List.length_append] at hle; simp only [List.length_cons, List.length_nil] at hle; omega)
      have heq := int_eqlT 3 (a := (m : Int)) (b := 16) (by omega)
      clear h16 hle hplt
      generalize UInt8.ofNat (p / 256) = y1 at *
      generalize UInt8.ofNat p = y2 at *
      generalize p / 256 = p1 at *
      gi_wp2_with (first
        | ((with_reducible refine at_append_in ?_); refine wpListIn_append_fits _ rfl (.tmp 23) (.tmp 27) 51 rfl g 5 i0 1 Tryd.underlying51 HI.out HZ1.out g k0 l.length _ rfl (H5.out.keep (below_new w5 (.cells #[bv y1] 5))).own _ 1 1 [bv y1] rfl rfl (cell_one_new _ _ _) (ones_one rfl) (by have := HFIT.out; omega) ?_; intro w6 ho hg; obtain ⟨hc6, hf6, hB6⟩ := (H5.out.keep (below_new w5 (.cells #[bv y1] 5))).next hg ho; have H6 := hideIt hB6; have HK6 := hideIt (((HK5.out.alloc _).grown hg (Or.inl rfl)).setCell (p := ⟨bx, 0, none⟩) (Or.inr rfl) (.slice (some ⟨g, 0, none⟩) (k0 + 1) l.length)); have hx6 := hB6.cell; clear ho hg hB6 H5)
        | ((with_reducible refine at_append_in ?_); refine wpListIn_append_fits _ rfl (.tmp 29) (.tmp 32) 51 rfl g 5 i0 1 Tryd.underlying51 HI.out HZ1.out g (k0 + 1) l.length _ rfl (H6.out.keep (below_new _ (.cells #[bv y2] 5))).own _ 1 1 [bv y2] rfl rfl (cell_one_set _ _ _ _ _) (ones_one rfl) (by have := HFIT.out; omega) ?_; intro w7 ho hg; obtain ⟨hc7, hf7, hB7⟩ := (H6.out.keep (below_new _ (.cells #[bv y2] 5))).next hg ho; have H7 := hideIt hB7; have HK7 := hideIt (((HK6.out.alloc _).grown hg (Or.inl rfl)).setCell (p := ⟨bx, 0, none⟩) (Or.inr rfl) (.slice (some ⟨g, 0, none⟩) ((k0 + 1) + 1) l.length)); have hx7 := hB7.cell; clear ho hg hB7 H6))
      have hk0 := HK0.out
      refine ⟨HK7.out, ?_⟩
      have hfin := H7.out
      show Boxed _ g bx l.length (prB m c (pre ++ [x])).length ((prB m c (pre ++ [x])).map bv)
      rw [HSN.out, List.length_append, List.map_append, ← hk0]
      simpa using hfin
    · have hcB := fun W => conv_byte p W
      rw [show byt m p = [UInt8.ofNat p] from by unfold byt; rw [if_neg h16]] at HSN hle
      have HFIT := hideIt (show k0 + 1 ≤ l.length by have := HK0.out; rw [List.length_append] at hle; simp only [List.length_cons, List.length_nil] at hle; omega)
      have heq := int_eqlF 3 (a := (m : Int)) (b := 16) (by omega)
      clear h16 hle hplt
      generalize UInt8.ofNat p = y2 at *
      gi_wp2_with ((with_reducible refine at_append_in ?_); refine wpListIn_append_fits _ rfl (.tmp 29) (.tmp 32) 51 rfl g 5 i0 1 Tryd.underlying51 HI.out HZ1.out g k0 l.length _ rfl (H5.out.keep (below_new w5 (.cells #[bv y2] 5))).own _ 1 1 [bv y2] rfl rfl (cell_one_new _ _ _) (ones_one rfl) (by have := HFIT.out; omega) ?_; intro w7 ho hg; obtain ⟨hc7, hf7, hB7⟩ := (H5.out.keep (below_new w5 (.cells #[bv y2] 5))).next hg ho; have H7 := hideIt hB7; have HK7 := hideIt (((HK5.out.alloc _).grown hg (Or.inl rfl)).setCell (p := ⟨bx, 0, none⟩) (Or.inr rfl) (.slice (some ⟨g, 0, none⟩) (k0 + 1) l.length)); have hx7 := hB7.cell; clear ho hg hB7 H5)
      have hk0 := HK0.out
      refine ⟨HK7.out, ?_⟩
      have hfin := H7.out
      show Boxed _ g bx l.length (prB m c (pre ++ [x])).length ((prB m c (pre ++ [x])).map bv)
      rw [HSN.out, List.length_append, List.map_append, ← hk0]
      simpa using hfin
  case done =>
    intro D W hD hKW hI hDf
    rw [prB_all] at hI
    have hlen := HSL.out
    rw [hlen] at hI
    have hcell := hI.cell
    have HO := hideIt hI.own
    have HBE := hideIt (HBW.out.trans (hKW.below (B := b) (by have := HBW.out.size; have := HBS.out; omega) (by have := Q4.out; intro q hq hh; rcases hh with rfl | rfl <;> omega)))
    have HDF := hideIt hDf
    have HD := hideIt (show bx + 4 ≤ D by have := Q4.out; omega)
    have HGD := hideIt (own_lt hI.own)
    clear hI hlen hKW hD hDf
    go_wp2_with fail
    refine ⟨by simp, .inl ⟨_, _, rfl, run_takeDeferred HDF.out, ?_⟩⟩
    refine ⟨_, results_tmp rfl _ _ _, g, rfl, by have := Q4.out; have := HBS.out; omega, own_at HO.out (World.putObj_heap_other (by have := Q4.out; have := HD.out; omega)), by rw [HBS.out]; exact HBE.out.trans (below_putObj W (by have := Q4.out; have := HD.out; omega) _)⟩
  case stop =>
    intro D c' pre W _ _ _ h _
    exact h.elim

end Go.Proofs.YtihepogccgcfkaaDoor
