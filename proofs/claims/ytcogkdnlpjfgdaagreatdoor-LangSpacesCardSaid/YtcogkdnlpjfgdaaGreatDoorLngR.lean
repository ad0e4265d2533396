/-
  The program's parser, walked: numbers.
-/
import Derived.Test.YtcogkdnlpjfgdaaGreatDoorLngQ
namespace Go.Proofs.YtcogkdnlpjfgdaaGreatDoor
open Go.RowKit
set_option linter.unusedVariables false
set_option linter.unusedSimpArgs false

/-- A list of tokens in memory, the call's own. -/
def TkS (w : World) (B : Nat) (v : Value) (l : List Tk) : Prop := w.ownsRow B 77 2 v l.length (l.flatMap tkC)

theorem info_three {P : Program} {T : TypeId} {z : Value} {n b : Nat} (h : (P.info? T).map (fun i => (i.zero, i.size, i.bytes)) = some (some z, n, b)) : ∃ i, P.info? T = some i ∧ i.zero = some z ∧ i.size = n ∧ i.bytes = b := by
  cases hi : P.info? T with
  | none => rw [hi] at h; cases h
  | some i =>
    rw [hi] at h
    simp only [Option.map_some, Option.some.injEq, Prod.mk.injEq] at h
    exact ⟨i, rfl, h.1, h.2.1, h.2.2⟩
theorem sl_cells (w : World) (t : TypeId) (us : List Value) (n : Nat) (hn : us.length = n) : Sl (w.alloc (.cells us.toArray t)) (w.heap.size + 1) (some ⟨w.heap.size, 0, none⟩) n 1 us :=
  ⟨by rw [Nat.one_mul]; exact hn, fun _ => ⟨w.heap.size, 0, rfl, Nat.lt_succ_self _, fun j v hj => by rw [show (w.alloc (.cells us.toArray t)).cell? ⟨w.heap.size, 0 + j, none⟩ = us[0 + j]? from (Blk.new w t us).cell _, Nat.zero_add]; exact hj⟩⟩
theorem tk_ones (x : Tk) : ∀ u ∈ tkC x, u.oneCell' = true := by
  intro u hu
  simp only [List.mem_cons, List.not_mem_nil, or_false] at hu
  rcases hu with rfl | rfl <;> rfl
theorem own_new (w : World) (B : Nat) (hB : B ≤ w.heap.size) (e : TypeId) (us : List Value) (n : Nat) (hn : us.length = n) : (w.alloc (.cells us.toArray e)).ownsRow B e n (.slice (some ⟨w.heap.size, 0, none⟩) 1 1) 1 us :=
  ⟨by rw [Nat.one_mul]; exact hn, .inr ⟨w.heap.size, 1, us.toArray, rfl, hB, heap_alloc_new w _, Nat.le_refl _, by decide, by simp [hn], by rw [Nat.one_mul, ← hn]; simp⟩⟩
theorem At.grown {t : Bs} {w w' : World} {pb : Nat} {S : PS} {base n k : Nat} {e : TypeId} {v : Value} {xs : List Value} (h : At t w pb S) (ho : w.ownsRow base e k v n xs) (hg : w.grownBy w' v.ownBlock) (he : 102 ≠ e) : At t w' pb S := by
  obtain ⟨h1, x, h2, h3, h4⟩ := h
  exact ⟨h1, x, h2, h3, h4.grown hg (own_ne ho h4 he)⟩
theorem At.cur {t : Bs} {w : World} {pb : Nat} {S : PS} (h : At t w pb S) : w.cell? ⟨pb, 2, none⟩ = some (sv (cur (toks t) S).tx) ∧ numB (cur (toks t) S).tx = decide ((cur (toks t) S).kd = 2) ∧ S.i < (toks t).length ∧ (cur (toks t) S).tx.length ≤ t.length ∧ (cur (toks t) S).kd ≠ 5 ∧
    w.cell? ⟨pb, 1, none⟩ = some (.int .i64 ((cur (toks t) S).ps : Int)) := by
  obtain ⟨hS, x, hx, h5, hb⟩ := h
  have hc := cur_is hx (-1)
  rw [ps_eta hS] at hc
  rw [hc]
  have hk := toks_kd hx h5
  refine ⟨hb.cell 2, ?_, (List.getElem?_eq_some_iff.1 hx).1, by have := toks_le hx; omega, h5, hb.cell 1⟩
  rw [Bool.eq_iff_iff, decide_eq_true_iff]
  exact hk.1.num
theorem kind_i {l : List Tk} {S : PS} {n : Nat} (h : (kindP l n S).bad = -1) : (kindP l n S).i = S.i + 1 := by
  rw [(kindP_ok (by omega)).2.2]

set_option maxHeartbeats 2000000 in
set_option maxRecDepth 100000 in
theorem numbers_any (t : Bs) (ht : t.length ≤ 2000) (pb B : Nat) (hB : B ≤ pb) (S : PS) (w : World) (hp : At t w pb S) (hBw : B ≤ w.heap.size) :
    Calls Tryz.prog 106 #[.pointer (some ⟨pb, 0, none⟩)] w fun e w' =>
      Ends t pb (numsP (toks t) S).2 (fun e w' => ∃ v, e = .returned v ∧ TkS w' B v (numsP (toks t) S).1) e w' ∧ KeepT B [102] w w' := by
  obtain ⟨i0, hi, hz0, hz1, hz2⟩ := info_three (show (Tryz.prog.info? 77).map (fun i => (i.zero, i.size, i.bytes)) = some (some (.agg #[.int .i64 0, .string ⟨#[]⟩]), 2, 24) by kernel_rfl)
  have HN := hideIt (fun S W hp hBw => num_at t ht pb B hB S W hp hBw)
  have HP := hideIt hp
  have HW := hideIt hBw
  have HTL : Hid ((toks t).length ≤ 2001) := by have := (toks_of t).2.2; exact (by omega : (toks t).length ≤ 2001)
  have HTT := hideIt ht
  have hlt := hp.lt
  obtain ⟨S1, hS1⟩ : ∃ S1, S1 = kindP (toks t) 2 S := ⟨_, rfl⟩
  have hS3 : numsP (toks t) S = numsG (toks t) ((toks t).length + 1) S1 [cur (toks t) S] := by rw [hS1]; rfl
  rw [hS3]
  have H1 := hideIt hS1
  have HNW := hideIt (fun W => HN.out S W)
  rw [← hS1] at HNW
  obtain ⟨R, hR⟩ : ∃ R, R = numsG (toks t) ((toks t).length + 1) S1 [cur (toks t) S] := ⟨_, rfl⟩
  rw [← hR]
  have HR := hideIt hR
  clear hp hBw hS1 hS3 hR ht
  go_enter Tryz.func106, Tryz.ntmps106
  go_wp2_with (go_at_call 92; refine (HNW.out _ HP.out HW.out).mono ?_; rintro e w1 ⟨⟨hp1, rfl, h1⟩ | ⟨rfl, h1⟩, hk1⟩ <;> have HK1 := hideIt hk1 <;> clear hk1)
  · have HP1 := hideIt hp1
    clear hp1 h1
    go_loopg [3] ((toks t).length + 1) (fun g s3 wr => ∃ (S' : PS) (out : List Tk), Aside (numsG (toks t) g S' out = R ∧ At t wr pb S' ∧ wr.ownsRow w.heap.size 77 2 s3 out.length (out.flatMap tkC) ∧ KeepT B [102] w wr ∧ out.length ≤ S'.i ∧ (toks t).length + 1 ≤ g + S'.i))
    case atStart => exact ⟨S1, [cur (toks t) S], HR.out.symm, HP1.out.new _, own_new w1 w.heap.size HK1.out.size 77 (tkC (cur (toks t) S)) 2 rfl, keep_new HK1.out HW.out _, by rw [H1.out, kind_i (by rw [← H1.out]; exact HP1.out.1)]; simp, by omega⟩
    case round =>
      obtain ⟨S', out, HI⟩ := hrel
      obtain ⟨hcell, hnum, hil, hxl, hx5, _⟩ := HI.out.2.1.cur
      have HNU := hideIt (fun W => isNumber_any (cur (toks t) S').tx W)
      rw [hnum] at HNU
      have hplt := HI.out.2.1.lt
      obtain ⟨x, hx⟩ : ∃ x, x = cur (toks t) S' := ⟨_, rfl⟩
      rw [← hx] at HNU hcell
      have HX := hideIt hx
      have HNN := hideIt (fun W hp hBw => HN.out S' W hp hBw)
      rw [← hx] at HNN
      have HRL := hideIt (HI.out.2.2.2.2.1)
      have HGL := hideIt (HI.out.2.2.2.2.2)
      have HIL := hideIt hil
      by_cases h2 : x.kd = 2
      · rw [decide_eq_true h2] at HNU
        obtain ⟨g, hg⟩ : ∃ g, gk = g + 1 := ⟨gk - 1, by have := HGL.out; omega⟩
        have HG := hideIt hg
        have HST : Hid (numsG (toks t) g (kindP (toks t) 2 S') (out ++ [x]) = R) := by
          have := HI.out.1
          rw [hg, numsG, if_pos ⟨by rw [HI.out.2.1.1]; decide, by rw [← hx]; exact h2⟩, ← hx] at this
          exact this
        have hol : out.length ≤ 2001 := by have := HTL.out; have := HRL.out; omega
        clear hx hnum hil hxl hx5 h2 hg
        go_wp2_with (first
          | (go_at_call 105; refine (HNU.out _).mono ?_; rintro e w2 ⟨rfl, hw⟩; have HW2 := hideIt hw; clear hw)
          | (go_at_call 92; refine (HNN.out _ (HI.out.2.1.kept HW2.out hplt) (Nat.le_trans HW.out (Nat.le_trans HI.out.2.2.2.1.size HW2.out.size))).mono ?_; rintro e w3 ⟨⟨hp3, rfl, h3⟩ | ⟨rfl, h3⟩, hk3⟩ <;> have HK3 := hideIt hk3 <;> clear hk3)
          | ((with_reducible refine at_append ?_); refine wpList_app2 rfl (.tmp 13) (.tmp 16) 105 rfl w.heap.size 77 i0 (.agg #[.int .i64 0, .string ⟨#[]⟩]) 2 24 Tryz.underlying105 hi hz0 hz1 hz2 rfl (by decide) _ out.length (out.flatMap tkC) rfl ((own_keepT (own_kept HI.out.2.2.1 HW2.out) HK3.out (by decide)).alloc _) _ _ 1 1 (tkC x) rfl (sl_cells w3 77 (tkC x) 2 rfl) (tk_ones x) (by unfold maxLen; omega) (by omega) (Nat.le_trans HI.out.2.2.2.1.size (Nat.le_trans HW2.out.size (Nat.le_trans HK3.out.size (below_new w3 _).size))) ?_; intro v4 w4 ho4 hg4; have HO4 := own_is (n' := (out ++ [x]).length) (xs' := (out ++ [x]).flatMap tkC) ho4 (by simp) (by simp); have HG4 := hideIt hg4; clear ho4 hg4))
        · go_roundg g
          case measure => have := HG.out; omega
          case rel =>
            have hown := (own_keepT (own_kept HI.out.2.2.1 HW2.out) HK3.out (by decide)).alloc (.cells #[.int .i64 (x.ps : Int), sv x.tx] 77)
            have hkk := (keep_then HI.out.2.2.2.1 (keep_then (KeepT.of_below HW2.out (Nat.le_trans HW.out HI.out.2.2.2.1.size)) HK3.out))
            have hi3 := kind_i hp3.1
            refine ⟨kindP (toks t) 2 S', out ++ [x], HST.out, (hp3.new _).grown hown HG4.out (by decide), HO4.out, ?_, ?_, ?_⟩
            · exact (keep_new hkk HW.out _).since (below_grown (Below.refl _ _) hown (Nat.le_refl _) (Nat.le_trans hkk.size (below_new w3 _).size) HG4.out) HW.out
            · rw [hi3]; have := HRL.out; simp; omega
            · rw [hi3]; have := HGL.out; have := HG.out; omega
        · refine ⟨rfl, .inr ⟨rfl, ?_⟩, keep_then HI.out.2.2.2.1 (keep_then (KeepT.of_below HW2.out (Nat.le_trans HW.out HI.out.2.2.2.1.size)) HK3.out)⟩
          obtain ⟨y, hy, hd⟩ := h3
          rw [← HST.out]
          exact ⟨y, hy, dead_numsG _ _ hd⟩
      · rw [decide_eq_false h2] at HNU
        have HST : Hid (R = (out, S')) := by
          have := HI.out.1
          obtain ⟨g, hg⟩ : ∃ g, gk = g + 1 := ⟨gk - 1, by have := HGL.out; omega⟩
          rw [hg, numsG, if_neg (fun q => h2 (by rw [hx]; exact q.2))] at this
          exact this.symm
        clear hx hnum hil hxl hx5 h2
        go_wp2_with (go_at_call 105; refine (HNU.out _).mono ?_; rintro e w2 ⟨rfl, hw⟩; have HW2 := hideIt hw; clear hw)
        go_ret
        have hR := HST.out
        subst hR
        refine ⟨.inl ⟨HI.out.2.1.kept HW2.out hplt, _, rfl, ?_⟩, keep_then HI.out.2.2.2.1 (KeepT.of_below HW2.out (Nat.le_trans HW.out HI.out.2.2.2.1.size))⟩
        exact own_low (own_kept HI.out.2.2.1 HW2.out) HW.out
  · refine ⟨rfl, .inr ⟨rfl, ?_⟩, HK1.out⟩
    obtain ⟨y, hy, hd⟩ := h1
    rw [HR.out]
    exact ⟨y, hy, dead_numsG _ _ hd⟩

end Go.Proofs.YtcogkdnlpjfgdaaGreatDoor
