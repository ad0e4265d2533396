/-
  The reference, walked: build.
-/
import Derived.Test.YtcogkdnlpjfgdaaGreatDoorRlS
import Derived.Test.YtcogkdnlpjfgdaaGreatDoorCodH
import Derived.Test.YtcogkdnlpjfgdaaGreatDoorRlE
namespace Go.Proofs.YtcogkdnlpjfgdaaGreatDoor
open Go.RowKit
set_option linter.unusedVariables false
set_option linter.unusedSimpArgs false

theorem LnsR.row {w : World} {C : Nat} {A : Option Addr} {n c : Nat} {xs : List Ln} (h : LnsR w C (.slice A n c) xs) {j : Nat} (hj : j < xs.length) :
    ∃ (g : Nat) (A1 : Option Addr) (c1 : Nat) (A2 : Option Addr) (c2 : Nat), A = some ⟨g, 0, none⟩ ∧ g < w.heap.size ∧
      (∀ k u, [sv (xs[j]).key.tx, .int .i64 ((xs[j]).key.ps : Int), .int .i64 ((xs[j]).key.kd : Int), .int .i64 ((xs[j]).key.n : Int), .slice A1 (xs[j]).a.length c1, .slice A2 (xs[j]).b.length c2][k]? = some u → w.cell? ⟨g, j * 6 + k, none⟩ = some u) ∧
      RtS w C (.slice A1 (xs[j]).a.length c1) (xs[j]).a ∧ RtS w C (.slice A2 (xs[j]).b.length c2) (xs[j]).b := by
  obtain ⟨css, ho, ha⟩ := h
  obtain ⟨cs, hc, va, vb, rfl, h1, h2⟩ := All2.at_ ha (List.getElem?_eq_getElem hj)
  obtain ⟨A1, c1, rfl, _, _⟩ := own_form h1
  obtain ⟨A2, c2, rfl, _, _⟩ := own_form h2
  have hf := flat_at (P := LnR w C) (k := 6) (fun x cs h => h.len) xs css ha j _ hc
  rcases ho.2 with ⟨h0, h00⟩ | ⟨g, cap, cur, hv, _, hg, _⟩
  · omega
  · injection hv with e1 e2 e3
    subst e1
    refine ⟨g, A1, c1, A2, c2, rfl, (Array.getElem?_eq_some_iff.1 hg).1, fun k u hu => ?_, h1, h2⟩
    have := World.ownsRow.cells ho (g := g) rfl (j * 6 + k) u (hf k u hu)
    rwa [addr_add, Nat.zero_add] at this
theorem hd_zero : ∀ (l : List Tk) (h : 0 < l.length), hd l = l[0]
  | x :: r, _ => rfl
theorem topF_pos (f : Int) : 0 ≤ topF f ∧ topF f ≤ 65535 := by unfold topF; split <;> omega
theorem LnsR.len {w : World} {C : Nat} {A : Option Addr} {n c : Nat} {xs : List Ln} (h : LnsR w C (.slice A n c) xs) : n = xs.length := by
  obtain ⟨css, ho, ha⟩ := h
  obtain ⟨A', c', hv, _⟩ := own_form ho
  injection hv
theorem cells_any3 {C : Nat} {r : List Int × Nat × Int} {e : Ending} {w' : World} (h : CellsE C r e w') : ∃ v0 v1 v2, e = .returned (.tuple #[v0, v1, v2]) := by
  rcases h with ⟨_, A, c, rfl, _⟩ | ⟨_, rfl⟩ <;> exact ⟨_, _, _, rfl⟩
/-- How the reference hands back what it has built. -/
structure BI (w W : World) (nm : Tk) (vl : Value) (x : Cd) (Ap : Option Addr) (cp : Nat) : Prop where
  bl : Below w.heap.size w W
  so : Blk W w.heap.size 87 [sv nm.tx, .int .i64 (nm.ps : Int), .int .i64 (nm.kd : Int), .int .i64 (nm.n : Int), vl]
  rb : Blk W (w.heap.size + 1) 24 [.string ⟨#[]⟩, .int .i64 0, .int .i64 0, .slice none 0 0, .int .i64 0]
  cb : Blk W (w.heap.size + 2) 24 [sv x.name, .int .i64 x.field, .int .i64 x.data, .slice Ap x.par.length cp, .int .i64 x.dom]
  pr : PR W w.heap.size (.slice Ap x.par.length cp) x.par
section
variable {w W W' : World} {nm : Tk} {vl : Value} {x : Cd} {Ap : Option Addr} {cp : Nat}
theorem BI.kept (h : BI w W nm vl x Ap cp) (hb : Below W.heap.size W W') : BI w W' nm vl x Ap cp :=
  ⟨h.bl.trans (hb.mono h.bl.size), h.so.kept hb h.so.lt, h.rb.kept hb h.rb.lt, h.cb.kept hb h.cb.lt, h.pr.kept hb⟩
theorem BI.new (h : BI w W nm vl x Ap cp) (o : Obj) : BI w (W.alloc o) nm vl x Ap cp := h.kept (below_new W o)
theorem BI.set1 (h : BI w W nm vl x Ap cp) (f : Int) : BI w (W.setCell ⟨w.heap.size + 2, 1, none⟩ (.int .i64 f)) nm vl { x with field := f } Ap cp :=
  ⟨below_set h.bl (by omega) _ _, h.so.store_other (by omega), h.rb.store_other (by omega), h.cb.store 1 _, h.pr.set h.cb (by decide) (by decide) 1 _⟩
theorem BI.set2 (h : BI w W nm vl x Ap cp) (f : Int) : BI w (W.setCell ⟨w.heap.size + 2, 2, none⟩ (.int .i64 f)) nm vl { x with data := f } Ap cp :=
  ⟨below_set h.bl (by omega) _ _, h.so.store_other (by omega), h.rb.store_other (by omega), h.cb.store 2 _, h.pr.set h.cb (by decide) (by decide) 2 _⟩
theorem BI.set4 (h : BI w W nm vl x Ap cp) (f : Int) : BI w (W.setCell ⟨w.heap.size + 2, 4, none⟩ (.int .i64 f)) nm vl { x with dom := f } Ap cp :=
  ⟨below_set h.bl (by omega) _ _, h.so.store_other (by omega), h.rb.store_other (by omega), h.cb.store 4 _, h.pr.set h.cb (by decide) (by decide) 4 _⟩
/-- One more row has been appended, and the code has it. -/
theorem BI.push (h : BI w W nm vl x Ap cp) {l : List Int} {A A' : Option Addr} {c c' : Nat} {vs : List Value} (h1 : W.ownsRow w.heap.size 61 1 (.slice Ap x.par.length cp) x.par.length vs) (h2 : All2 (fun l u => ∃ A c, u = .slice A l.length c ∧ IR W w.heap.size u l) x.par vs) (hr : IR W w.heap.size (.slice A l.length c) l)
    (hg : W.grownBy W' (Value.slice Ap x.par.length cp).ownBlock) (ho : W'.ownsRow w.heap.size 61 1 (.slice A' (x.par.length + 1) c') (x.par.length + 1) (vs ++ [.slice A l.length c])) :
    BI w (W'.setCell ⟨w.heap.size + 2, 3, none⟩ (.slice A' (x.par.length + 1) c')) nm vl { x with par := x.par ++ [l] } A' c' := by
  have hn : ∀ {g t cs}, Blk W g t cs → t ≠ 61 → Blk W' g t cs := fun hb ht => hb.grown hg (own_ne h1 hb ht)
  have hp := PR.snoc h1 h2 hr hg ho
  have hl : (x.par ++ [l]).length = x.par.length + 1 := by simp
  have hc := hn h.cb (by decide)
  refine ⟨below_set (below_grown h.bl h1 (Nat.le_refl _) h.bl.size hg) (by omega) _ _, (hn h.so (by decide)).store_other (by omega), (hn h.rb (by decide)).store_other (by omega), ?_, ?_⟩
  · dsimp only
    rw [hl]
    exact hc.store 3 _
  · dsimp only
    rw [hl]
    exact hp.set hc (by decide) (by decide) 3 _
end

set_option maxHeartbeats 20000000 in
set_option maxRecDepth 100000 in
theorem rbuild_any (s : Sc) (C : Nat) (vl : Value) (w : World) (hl : LnsR w C vl s.lines) (hlen : s.lines.length ≤ 1000000) (htx : s.name.tx.length ≤ 100000)
    (hK : ∀ x ∈ s.lines, x.a ≠ [] ∧ (∀ t ∈ x.a, t.n ≤ 1000000) ∧ x.a.length ≤ 100000 ∧ x.b.length ≤ 100000) :
    Calls Tryz.prog 48 #[.agg #[sv s.name.tx, .int .i64 (s.name.ps : Int), .int .i64 (s.name.kd : Int), .int .i64 (s.name.n : Int), vl]] w fun e w' => CodeE w.heap.size (buildS s) e w' ∧ Below w.heap.size w w' := by
  obtain ⟨i0, hi0, hz0, hz1, hz2⟩ := info_three (show (Tryz.prog.info? 61).map (fun i => (i.zero, i.size, i.bytes)) = some (some (.slice none 0 0), 1, 24) by kernel_rfl)
  obtain ⟨nm, lines⟩ := s
  dsimp only at hl hlen htx hK ⊢
  obtain ⟨Al, nl, cl, rfl⟩ : ∃ Al nl cl, vl = .slice Al nl cl := by
    obtain ⟨css, ho, _⟩ := hl
    obtain ⟨A', c', hv, _⟩ := own_form ho
    exact ⟨_, _, _, hv⟩
  obtain rfl := hl.len
  obtain ⟨R, hR⟩ : ∃ R, R = buildS ⟨nm, lines⟩ := ⟨_, rfl⟩
  rw [← hR]
  unfold buildS at hR
  dsimp only at hR
  have HLN := hideIt hl
  have HKK := hideIt hK
  obtain ⟨n, hn⟩ : ∃ n, n = lines.length := ⟨_, rfl⟩
  rw [← hn] at hlen
  obtain ⟨W1, hW1⟩ : ∃ W, W = ((w.alloc (.cells #[sv nm.tx, .int .i64 (nm.ps : Int), .int .i64 (nm.kd : Int), .int .i64 (nm.n : Int), .slice Al lines.length cl] 87)).alloc (.cells #[.string ⟨#[]⟩, .int .i64 0, .int .i64 0, .slice none 0 0, .int .i64 0] 24)).alloc (.cells #[sv nm.tx, .int .i64 0, .int .i64 0, .slice none 0 0, .int .i64 0] 24) := ⟨_, rfl⟩
  have hs1 : (w.alloc (.cells #[sv nm.tx, .int .i64 (nm.ps : Int), .int .i64 (nm.kd : Int), .int .i64 (nm.n : Int), .slice Al lines.length cl] 87)).heap.size = w.heap.size + 1 := by simp
  have hs2 : ((w.alloc (.cells #[sv nm.tx, .int .i64 (nm.ps : Int), .int .i64 (nm.kd : Int), .int .i64 (nm.n : Int), .slice Al lines.length cl] 87)).alloc (.cells #[.string ⟨#[]⟩, .int .i64 0, .int .i64 0, .slice none 0 0, .int .i64 0] 24)).heap.size = w.heap.size + 2 := by simp
  have hbi : BI w W1 nm (.slice Al lines.length cl) ⟨nm.tx, 0, 0, [], 0⟩ none 0 := by
    rw [hW1]
    refine ⟨((below_new w _).alloc (by simp) _).alloc (by simp; omega) _, ((Blk.new w 87 [sv nm.tx, .int .i64 (nm.ps : Int), .int .i64 (nm.kd : Int), .int .i64 (nm.n : Int), .slice Al lines.length cl]).alloc _).alloc _, ?_, ?_, ⟨[], World.ownsRow_nil _ _ _ _, trivial⟩⟩
    · rw [← hs1]
      exact (Blk.new _ 24 [.string ⟨#[]⟩, .int .i64 0, .int .i64 0, .slice none 0 0, .int .i64 0]).alloc _
    · rw [← hs2]
      exact Blk.new _ 24 [sv nm.tx, .int .i64 0, .int .i64 0, .slice none 0 0, .int .i64 0]
  rw [← hn] at hW1 hbi
  have a0 := hbi.so.cell 1
  have a4 := hbi.so.cell 4
  have b0 := hbi.cb.cell 0
  have r0 := hbi.rb.cell 0
  have r1 := hbi.rb.cell 1
  have r2 := hbi.rb.cell 2
  have r3 := hbi.rb.cell 3
  have r4 := hbi.rb.cell 4
  have f0 := hbi.rb.free 0
  have f1 := hbi.rb.free 1
  have f2 := hbi.rb.free 2
  have f3 := hbi.rb.free 3
  have f4 := hbi.rb.free 4
  rw [hW1] at b0
  have HBI := hideIt hbi
  have HW1 := hideIt hW1
  have hln := len_c nm.tx
  have HN := hideIt hn
  rw [← hn]
  clear hbi hW1 hn hl hK hs1 hs2
  by_cases hnl : 12 < nm.tx.length
  · rw [if_pos hnl] at hR
    have HP := hideIt hR
    have hgi : (nm.tx.length : Int) > 12 := by omega
    clear hnl hR htx
    go_enter Tryz.func48, Tryz.ntmps48
    go_wp2_with fail
    rw [← HW1.out]
    go_region
    go_wp2_with fail
    have hz := zero_put (B := w.heap.size) HBI.out.rb (Nat.le_succ _) (.string ⟨#[]⟩) (.int .i64 0) (.int .i64 0) (.slice none 0 0) (.int .i64 0)
    rw [HP.out]
    exact bodyPost_ret (res_code rfl _ _ (w.heap.size + 1) _ _ _ rfl (blk_drew hz.1) Tryz.underlying24 rfl icd) rfl ⟨.inr ⟨two_ne, rfl⟩, (HBI.out.bl.trans hz.2).drew⟩
  rw [if_neg hnl] at hR
  have HR := hideIt hR
  have hgi : ¬ (nm.tx.length : Int) > 12 := by omega
  clear hnl hR
  go_enter Tryz.func48, Tryz.ntmps48
  go_wp2_with fail
  rw [← HW1.out]
  clear a0 a4 b0 r0 r1 r2 r3 r4 f0 f1 f2 f3 f4 hgi hln
  go_loopg [6] n (fun gk s6 wr => ∃ (k : Nat) (x : Cd) (Ap : Option Addr) (cp : Nat), k + gk = n ∧ s6 = .int .i64 (k : Int) ∧ Aside (R = buildL (lines.drop k) x ∧ BI w wr nm (.slice Al n cl) x Ap cp ∧ 0 ≤ x.data ∧ x.data ≤ 31 ∧ x.par.length ≤ 32))
  case atStart => exact ⟨0, ⟨nm.tx, 0, 0, [], 0⟩, none, 0, by omega, rfl, HR.out, HBI.out, by simp, by simp, by simp⟩
  case round =>
    obtain ⟨k, x, Ap, cp, hk, rfl, HI⟩ := hrel
    have a4 := HI.out.2.1.so.cell 4
    by_cases hlt : k < n
    · have hkl : k < lines.length := by rw [← HN.out]; exact hlt
      have hlr := HLN.out.kept HI.out.2.1.bl
      obtain ⟨g, A1, c1, A2, c2, hA, hg, hcell, hta, htb⟩ := hlr.row hkl
      subst hA
      have hinc := inc_r 3 k (by omega)
      have hji : (k : Int) < (n : Int) := by omega
      have HDR := hideIt (HI.out.1.trans (congrArg (fun l => buildL l x) (List.drop_eq_getElem_cons hkl)))
      obtain ⟨hka, hkn, hkal, hkbl⟩ := HKK.out _ (List.getElem_mem hkl)
      obtain ⟨g3, c3, hA3, hg3, hcell3⟩ := hta.tok (j := 0) (List.length_pos_iff.2 hka)
      have hA3 : A1 = some ⟨g3, 0, none⟩ := by injection hA3
      subst hA3
      have q0 : wr.cell? ⟨g, k * 6, none⟩ = some (.string (ss (lines[k]).key.tx)) := hcell 0 _ rfl
      have q1 : wr.cell? ⟨g, k * 6 + 1, none⟩ = some (.int .i64 ((lines[k]).key.ps : Int)) := hcell 1 _ rfl
      have q2 : wr.cell? ⟨g, k * 6 + 2, none⟩ = some (.int .i64 ((lines[k]).key.kd : Int)) := hcell 2 _ rfl
      have q3 : wr.cell? ⟨g, k * 6 + 3, none⟩ = some (.int .i64 ((lines[k]).key.n : Int)) := hcell 3 _ rfl
      have q4 : wr.cell? ⟨g, k * 6 + 4, none⟩ = some (.slice (some ⟨g3, 0, none⟩) (lines[k]).a.length c1) := hcell 4 _ rfl
      have q5 : wr.cell? ⟨g, k * 6 + 5, none⟩ = some (.slice A2 (lines[k]).b.length c2) := hcell 5 _ rfl
      have hhd : hd (lines[k]).a = (lines[k]).a[0]'(List.length_pos_iff.2 hka) := by
        exact hd_zero _ _
      have hal : 0 < ((lines[k]).a.length : Int) := by have := List.length_pos_iff.2 hka; omega
      rw [← hhd] at hcell3
      have hn1 : (hd (lines[k]).a).n ≤ 1000000 := by rw [hhd]; exact hkn _ (List.getElem_mem _)
      have HTA := hideIt hta
      have HTB := hideIt htb
      have HKN := hideIt (And.intro hkn (And.intro hkal hkbl))
      clear hhd hka hkn hlr hcell hkal hkbl hta htb hA3
      generalize lines[k] = y at *
      -- the line's own block
      obtain ⟨w2, hw2⟩ : ∃ W, W = wr.alloc (.cells #[.string (ss y.key.tx), .int .i64 (y.key.ps : Int), .int .i64 (y.key.kd : Int), .int .i64 (y.key.n : Int), .slice (some ⟨g3, 0, none⟩) y.a.length c1, .slice A2 y.b.length c2] 112) := ⟨_, rfl⟩
      have hb2 : BI w w2 nm (.slice (some ⟨g, 0, none⟩) n cl) x Ap cp := by rw [hw2]; exact HI.out.2.1.new _
      have hy2 : Blk w2 wr.heap.size 112 [.string (ss y.key.tx), .int .i64 (y.key.ps : Int), .int .i64 (y.key.kd : Int), .int .i64 (y.key.n : Int), .slice (some ⟨g3, 0, none⟩) y.a.length c1, .slice A2 y.b.length c2] := by rw [hw2]; exact Blk.new wr _ [.string (ss y.key.tx), .int .i64 (y.key.ps : Int), .int .i64 (y.key.kd : Int), .int .i64 (y.key.n : Int), .slice (some ⟨g3, 0, none⟩) y.a.length c1, .slice A2 y.b.length c2]
      have t1 : w2.cell? ⟨g3, 1, none⟩ = some (.int .i64 ((hd y.a).ps : Int)) := by rw [hw2, World.cell?_alloc_past _ _ _ hg3]; exact hcell3 1 _ rfl
      have t3 : w2.cell? ⟨g3, 3, none⟩ = some (.int .i64 ((hd y.a).n : Int)) := by rw [hw2, World.cell?_alloc_past _ _ _ hg3]; exact hcell3 3 _ rfl
      have HTA2 : Hid (RtS w2 C (.slice (some ⟨g3, 0, none⟩) y.a.length c1) y.a) := by rw [hw2]; exact World.ownsRow.alloc HTA.out _
      have HTB2 : Hid (RtS w2 C (.slice A2 y.b.length c2) y.b) := by rw [hw2]; exact World.ownsRow.alloc HTB.out _
      have y0 := hy2.cell 0
      have y1 := hy2.cell 1
      have y4 := hy2.cell 4
      have e1 := hb2.cb.cell 1
      have e2 := hb2.cb.cell 2
      have e3 := hb2.cb.cell 3
      have e4 := hb2.cb.cell 4
      have g1 := hb2.cb.free 1
      have g2 := hb2.cb.free 2
      have g4 := hb2.cb.free 4
      have r0 := hb2.rb.cell 0
      have r1 := hb2.rb.cell 1
      have r2 := hb2.rb.cell 2
      have r3 := hb2.rb.cell 3
      have r4 := hb2.rb.cell 4
      have f0 := hb2.rb.free 0
      have f1 := hb2.rb.free 1
      have f2 := hb2.rb.free 2
      have f3 := hb2.rb.free 3
      have f4 := hb2.rb.free 4
      rw [hw2] at t1 t3 y0 y1 y4 e1 e2 e3 e4 g1 g2 g4 r0 r1 r2 r3 r4 f0 f1 f2 f3 f4
      have HB2 := hideIt hb2
      have HY2 := hideIt hy2
      have HW2 := hideIt hw2
      have kf := s_eql 9 y.key.tx kField
      have kd := s_eql 9 y.key.tx kData
      have km := s_eql 9 y.key.tx kDomain
      have kl := s_eql 9 y.key.tx kLocal
      have kf : binOp .eql 9 (.string (ss y.key.tx)) (.string ⟨#[102, 105, 101, 108, 100]⟩) = pure (.bool (decide (y.key.tx = kField))) := kf
      have kd : binOp .eql 9 (.string (ss y.key.tx)) (.string ⟨#[100, 97, 116, 97]⟩) = pure (.bool (decide (y.key.tx = kData))) := kd
      have km : binOp .eql 9 (.string (ss y.key.tx)) (.string ⟨#[100, 111, 109, 97, 105, 110]⟩) = pure (.bool (decide (y.key.tx = kDomain))) := km
      have kl : binOp .eql 9 (.string (ss y.key.tx)) (.string ⟨#[108, 111, 99, 97, 108]⟩) = pure (.bool (decide (y.key.tx = kLocal))) := kl
      have HD31 := hideIt HI.out.2.2
      have HIS := hideIt HI.out.2.1.bl.size
      have HDP : Hid (R = if y.key.tx = kField then if (hd y.a).n ≠ 8 ∧ (hd y.a).n ≠ 16 then (cd0, (hd y.a).ps, 1) else buildL (lines.drop (k + 1)) { x with field := (hd y.a).n }
        else if y.key.tx = kData then if (hd y.a).n < 1 ∨ 31 < (hd y.a).n then (cd0, (hd y.a).ps, 1) else buildL (lines.drop (k + 1)) { x with data := (hd y.a).n }
        else if y.key.tx = kDomain then if (hd y.a).n < 1 ∨ x.data + x.par.length < ((hd y.a).n : Int) then (cd0, (hd y.a).ps, 1) else buildL (lines.drop (k + 1)) { x with dom := (hd y.a).n }
        else if 32 ≤ x.data + x.par.length then (cd0, y.key.ps, 2)
        else if (rowB y x.data (topF x.field)).2.2 ≠ 0 then (cd0, (rowB y x.data (topF x.field)).2.1, (rowB y x.data (topF x.field)).2.2)
        else buildL (lines.drop (k + 1)) { x with par := x.par ++ [(rowB y x.data (topF x.field)).1] }) := HDR.out
      generalize hhx : hd y.a = hx at *
      clear HDR HI hkl hcell3 hw2 hb2 hy2 hg hg3 HTA HTB hhx
      by_cases hkf : y.key.tx = kField
      · rw [decide_eq_true hkf] at kf
        have hdp := HDP.out
        rw [if_pos hkf] at hdp
        have h8 := i_neq 3 .i64 (hx.n : Int) 8
        have h16 := i_neq 3 .i64 (hx.n : Int) 16
        by_cases hb : hx.n ≠ 8 ∧ hx.n ≠ 16
        · rw [if_pos hb] at hdp
          have HP := hideIt hdp
          rw [decide_eq_true (by omega)] at h8
          rw [decide_eq_true (by omega)] at h16
          clear hb hdp hkf
          go_wp2_with fail
          rw [← HW2.out]
          have hz := zero_put (B := w.heap.size) HB2.out.rb (Nat.le_succ _) (.string ⟨#[]⟩) (.int .i64 0) (.int .i64 0) (.slice none 0 0) (.int .i64 0)
          rw [HP.out]
          exact bodyPost_ret (res_code rfl _ _ (w.heap.size + 1) _ _ _ rfl hz.1 Tryz.underlying24 rfl icd) rfl ⟨.inr ⟨one_ne, rfl⟩, (HB2.out.bl.trans hz.2)⟩
        · rw [if_neg hb] at hdp
          have HP := hideIt hdp
          have hcs : (decide ((hx.n : Int) ≠ 8) = false) ∨ (decide ((hx.n : Int) ≠ 8) = true ∧ decide ((hx.n : Int) ≠ 16) = false) := by
            by_cases h : hx.n = 8
            · exact .inl (decide_eq_false (by omega))
            · exact .inr ⟨decide_eq_true (by omega), decide_eq_false (by omega)⟩
          clear hb hdp hkf
          generalize decide ((hx.n : Int) ≠ 8) = d8 at *
          generalize decide ((hx.n : Int) ≠ 16) = d16 at *
          rcases hcs with rfl | ⟨rfl, rfl⟩ <;>
          · go_wp2_with fail
            rw [← HW2.out]
            go_roundg (gk - 1)
            case measure => omega
            case rel => exact ⟨k + 1, { x with field := (hx.n : Int) }, Ap, cp, by omega, by go_num, HP.out, HB2.out.set1 _, HD31.out.1, HD31.out.2.1, HD31.out.2.2⟩
      rw [decide_eq_false hkf] at kf
      by_cases hkd : y.key.tx = kData
      · rw [decide_eq_true hkd] at kd
        have hdp := HDP.out
        rw [if_neg hkf, if_pos hkd] at hdp
        by_cases hb : hx.n < 1 ∨ 31 < hx.n
        · rw [if_pos hb] at hdp
          have HP := hideIt hdp
          clear hdp hkf hkd
          by_cases hb1 : (hx.n : Int) < 1
          · clear hb
            go_wp2_with fail
            rw [← HW2.out]
            have hz := zero_put (B := w.heap.size) HB2.out.rb (Nat.le_succ _) (.string ⟨#[]⟩) (.int .i64 0) (.int .i64 0) (.slice none 0 0) (.int .i64 0)
            rw [HP.out]
            exact bodyPost_ret (res_code rfl _ _ (w.heap.size + 1) _ _ _ rfl hz.1 Tryz.underlying24 rfl icd) rfl ⟨.inr ⟨one_ne, rfl⟩, (HB2.out.bl.trans hz.2)⟩
          · have hb2 : (hx.n : Int) > 31 := by omega
            clear hb
            go_wp2_with fail
            rw [← HW2.out]
            have hz := zero_put (B := w.heap.size) HB2.out.rb (Nat.le_succ _) (.string ⟨#[]⟩) (.int .i64 0) (.int .i64 0) (.slice none 0 0) (.int .i64 0)
            rw [HP.out]
            exact bodyPost_ret (res_code rfl _ _ (w.heap.size + 1) _ _ _ rfl hz.1 Tryz.underlying24 rfl icd) rfl ⟨.inr ⟨one_ne, rfl⟩, (HB2.out.bl.trans hz.2)⟩
        · rw [if_neg hb] at hdp
          have HP := hideIt hdp
          have hb1 : ¬ (hx.n : Int) < 1 := by omega
          have hb2 : ¬ (hx.n : Int) > 31 := by omega
          have HB31 : Hid (0 ≤ (hx.n : Int) ∧ (hx.n : Int) ≤ 31) := by constructor <;> omega
          clear hb hdp hkf hkd
          go_wp2_with fail
          rw [← HW2.out]
          go_roundg (gk - 1)
          case measure => omega
          case rel => exact ⟨k + 1, { x with data := (hx.n : Int) }, Ap, cp, by omega, by go_num, HP.out, HB2.out.set2 _, HB31.out.1, HB31.out.2, HD31.out.2.2⟩
      rw [decide_eq_false hkd] at kd
      have hd31 := HD31.out
      have hsum := add_cc 3 x.data x.par.length (by omega) (by omega)
      by_cases hkm : y.key.tx = kDomain
      · rw [decide_eq_true hkm] at km
        have hdp := HDP.out
        rw [if_neg hkf, if_neg hkd, if_pos hkm] at hdp
        by_cases hb : hx.n < 1 ∨ x.data + x.par.length < (hx.n : Int)
        · rw [if_pos hb] at hdp
          have HP := hideIt hdp
          clear hdp hkf hkd hkm hd31
          by_cases hb1 : (hx.n : Int) < 1
          · clear hb
            go_wp2_with fail
            rw [← HW2.out]
            have hz := zero_put (B := w.heap.size) HB2.out.rb (Nat.le_succ _) (.string ⟨#[]⟩) (.int .i64 0) (.int .i64 0) (.slice none 0 0) (.int .i64 0)
            rw [HP.out]
            exact bodyPost_ret (res_code rfl _ _ (w.heap.size + 1) _ _ _ rfl hz.1 Tryz.underlying24 rfl icd) rfl ⟨.inr ⟨one_ne, rfl⟩, (HB2.out.bl.trans hz.2)⟩
          · have hb2 : (hx.n : Int) > x.data + x.par.length := by omega
            clear hb
            go_wp2_with fail
            rw [← HW2.out]
            have hz := zero_put (B := w.heap.size) HB2.out.rb (Nat.le_succ _) (.string ⟨#[]⟩) (.int .i64 0) (.int .i64 0) (.slice none 0 0) (.int .i64 0)
            rw [HP.out]
            exact bodyPost_ret (res_code rfl _ _ (w.heap.size + 1) _ _ _ rfl hz.1 Tryz.underlying24 rfl icd) rfl ⟨.inr ⟨one_ne, rfl⟩, (HB2.out.bl.trans hz.2)⟩
        · rw [if_neg hb] at hdp
          have HP := hideIt hdp
          have hb1 : ¬ (hx.n : Int) < 1 := by omega
          have hb2 : ¬ (hx.n : Int) > x.data + x.par.length := by omega
          clear hb hdp hkf hkd hkm hd31
          go_wp2_with fail
          rw [← HW2.out]
          go_roundg (gk - 1)
          case measure => omega
          case rel => exact ⟨k + 1, { x with dom := (hx.n : Int) }, Ap, cp, by omega, by go_num, HP.out, HB2.out.set4 _, HD31.out⟩
      rw [decide_eq_false hkm] at km
      have hdp := HDP.out
      rw [if_neg hkf, if_neg hkd, if_neg hkm] at hdp
      by_cases hb : 32 ≤ x.data + x.par.length
      · rw [if_pos hb] at hdp
        have HP := hideIt hdp
        have hb1 : x.data + x.par.length ≥ 32 := hb
        clear hdp hkf hkd hkm hd31 hb
        go_wp2_with fail
        rw [← HW2.out]
        have y1 := HY2.out.cell 1
        have r0 := HB2.out.rb.cell 0
        have r1 := HB2.out.rb.cell 1
        have r2 := HB2.out.rb.cell 2
        have r3 := HB2.out.rb.cell 3
        have r4 := HB2.out.rb.cell 4
        have f0 := HB2.out.rb.free 0
        have f1 := HB2.out.rb.free 1
        have f2 := HB2.out.rb.free 2
        have f3 := HB2.out.rb.free 3
        have f4 := HB2.out.rb.free 4
        have hyr := blk_ne HY2.out HB2.out.rb (by decide)
        have z1 := (((((HY2.out.store_other hyr).store_other hyr).store_other hyr).store_other hyr).store_other hyr : Blk (((((w2.setCell ⟨w.heap.size + 1, 0, none⟩ (.string ⟨#[]⟩)).setCell ⟨w.heap.size + 1, 1, none⟩ (.int .i64 0)).setCell ⟨w.heap.size + 1, 2, none⟩ (.int .i64 0)).setCell ⟨w.heap.size + 1, 3, none⟩ (.slice none 0 0)).setCell ⟨w.heap.size + 1, 4, none⟩ (.int .i64 0)) _ _ _).cell 1
        clear t1 t3 e1 e2 e3 e4 g1 g2 g4 y0 y4 hyr
        go_region
        go_wp2_with fail
        have hz := zero_put (B := w.heap.size) HB2.out.rb (Nat.le_succ _) (.string ⟨#[]⟩) (.int .i64 0) (.int .i64 0) (.slice none 0 0) (.int .i64 0)
        rw [HP.out]
        exact bodyPost_ret (res_code rfl _ _ (w.heap.size + 1) _ _ _ rfl (blk_drew hz.1) Tryz.underlying24 rfl icd) rfl ⟨.inr ⟨two_ne, rfl⟩, (HB2.out.bl.trans hz.2).drew⟩
      · rw [if_neg hb] at hdp
        have HP := hideIt hdp
        have hb1 : ¬ x.data + x.par.length ≥ 32 := hb
        obtain ⟨dn, hdn⟩ : ∃ dn : Nat, x.data = (dn : Int) := ⟨x.data.toNat, by omega⟩
        obtain ⟨mo, hmo⟩ : ∃ mo : Nat, topF x.field = (mo : Int) := ⟨(topF x.field).toNat, by have := topF_pos x.field; omega⟩
        have hmo2 : mo ≤ 65535 := by have := topF_pos x.field; omega
        have hdn2 : dn ≤ 31 := by omega
        have hpl : x.par.length < 32 := by omega
        have HTP := hideIt (rtop_any x.field)
        rw [hmo] at HTP HP
        rw [hdn] at HP
        clear hdp hkf hkd hkm hd31 hb
        go_wp2_with fail
        rw [← HW2.out]
        have hdl := HKN.out
        by_cases hlc : y.key.tx = kLocal
        · rw [decide_eq_true hlc] at kl
          have hrb : rowB y (dn : Int) (mo : Int) = localB y (dn : Int) (mo : Int) := if_pos hlc
          rw [hrb] at HP
          generalize hrr : localB y (dn : Int) (mo : Int) = rb at HP
          have HRB := hideIt hrr
          clear hrb hlc hrr
          have HBV := hideIt (HB2.out.kept (Below.refl _ _).drew)
          have HYV := hideIt (HY2.out.kept (Below.refl _ _).drew HY2.out.lt)
          refine loads_begin_n 14 [(6, (fun W => Blk W wr.heap.size 112 [.string (ss y.key.tx), .int .i64 (y.key.ps : Int), .int .i64 (y.key.kd : Int), .int .i64 (y.key.n : Int), .slice (some ⟨g3, 0, none⟩) y.a.length c1, .slice A2 y.b.length c2] ∧ Blk W (w.heap.size + 2) 24 [sv x.name, .int .i64 x.field, .int .i64 (dn : Int), .slice Ap x.par.length cp, .int .i64 x.dom])), (5, (fun W => Blk W wr.heap.size 112 [.string (ss y.key.tx), .int .i64 (y.key.ps : Int), .int .i64 (y.key.kd : Int), .int .i64 (y.key.n : Int), .slice (some ⟨g3, 0, none⟩) y.a.length c1, .slice A2 y.b.length c2] ∧ Blk W (w.heap.size + 2) 24 [sv x.name, .int .i64 x.field, .int .i64 (dn : Int), .slice Ap x.par.length cp, .int .i64 x.dom]))] rfl (by kernel_rfl) ?_
          have HVW := hideIt ((Below.refl w2.heap.size w2).drew)
          generalize hWD : World.drew _ = WD at HBV HYV HVW ⊢
          clear hWD
          have HCV : Hid (Blk WD (w.heap.size + 2) 24 [sv x.name, .int .i64 x.field, .int .i64 (dn : Int), .slice Ap x.par.length cp, .int .i64 x.dom]) := by have := HBV.out.cb; rw [hdn] at this; exact this
          refine wpAnyL_take (oi := ⟨some 62, _, _, _, _, _⟩) 0 6 (.agg #[.string (ss y.key.tx), .int .i64 (y.key.ps : Int), .int .i64 (y.key.kd : Int), .int .i64 (y.key.n : Int), .slice (some ⟨g3, 0, none⟩) y.a.length c1, .slice A2 y.b.length c2]) _ rfl (by kernel_rfl) (by kernel_rfl) (by kernel_rfl) (by kernel_rfl) (by kernel_rfl) (by kernel_rfl) (.head _) (fun _ _ _ h => h) (by kernel_rfl) (fun W' hW' => by have hW' : Blk W' wr.heap.size 112 [.string (ss y.key.tx), .int .i64 (y.key.ps : Int), .int .i64 (y.key.kd : Int), .int .i64 (y.key.n : Int), .slice (some ⟨g3, 0, none⟩) y.a.length c1, .slice A2 y.b.length c2] ∧ Blk W' (w.heap.size + 2) 24 [sv x.name, .int .i64 x.field, .int .i64 (dn : Int), .slice Ap x.par.length cp, .int .i64 x.dom] := hW'; have q0 := hW'.1.cell 0; have q1 := hW'.1.cell 1; have q2 := hW'.1.cell 2; have q3 := hW'.1.cell 3; have q4 := hW'.1.cell 4; have q5 := hW'.1.cell 5; go_simp) (Hooks.add (And.intro HYV.out HCV.out) (Hooks.add (And.intro HYV.out HCV.out) (Hooks.nil _ _))) ?_
          try simp only [Act.put]
          try simp only [List.setIfInBounds_toArray]
          try simp only [List.set_cons_succ]
          try simp only [List.set_cons_zero]
          refine wpAnyL_move (oi := ⟨some 63, _, _, _, _, _⟩) 1 ?_ rfl (by kernel_rfl) (by kernel_rfl) (by kernel_rfl) (by kernel_rfl) (fun _ _ _ h => h) (by kernel_rfl) ?_ (Hooks.add (And.intro HYV.out HCV.out) (Hooks.add (And.intro HYV.out HCV.out) (Hooks.nil _ _))) ?_
          rotate_left
          · intro W'; go_simp; first | done | with_reducible rfl
          try simp only [Act.put]
          try simp only [List.setIfInBounds_toArray]
          try simp only [List.set_cons_succ]
          try simp only [List.set_cons_zero]
          refine wpAnyL_take (oi := ⟨some 64, _, _, _, _, _⟩) 2 6 (.int .i64 (dn : Int)) _ rfl (by kernel_rfl) (by kernel_rfl) (by kernel_rfl) (by kernel_rfl) (by kernel_rfl) (by kernel_rfl) (.head _) (fun _ _ _ h => h) (by kernel_rfl) (fun W' hW' => by have hW' : Blk W' wr.heap.size 112 [.string (ss y.key.tx), .int .i64 (y.key.ps : Int), .int .i64 (y.key.kd : Int), .int .i64 (y.key.n : Int), .slice (some ⟨g3, 0, none⟩) y.a.length c1, .slice A2 y.b.length c2] ∧ Blk W' (w.heap.size + 2) 24 [sv x.name, .int .i64 x.field, .int .i64 (dn : Int), .slice Ap x.par.length cp, .int .i64 x.dom] := hW'; have q2 := hW'.2.cell 2; go_simp) (Hooks.add (And.intro HYV.out HCV.out) (Hooks.add (And.intro HYV.out HCV.out) (Hooks.nil _ _))) ?_
          try simp only [Act.put]
          try simp only [List.setIfInBounds_toArray]
          try simp only [List.set_cons_succ]
          try simp only [List.set_cons_zero]
          refine wpAnyL_move (oi := ⟨some 65, _, _, _, _, _⟩) 3 ?_ rfl (by kernel_rfl) (by kernel_rfl) (by kernel_rfl) (by kernel_rfl) (fun _ _ _ h => h) (by kernel_rfl) ?_ (Hooks.add (And.intro HYV.out HCV.out) (Hooks.add (And.intro HYV.out HCV.out) (Hooks.nil _ _))) ?_
          rotate_left
          · intro W'; go_simp; first | done | with_reducible rfl
          try simp only [Act.put]
          try simp only [List.setIfInBounds_toArray]
          try simp only [List.set_cons_succ]
          try simp only [List.set_cons_zero]
          refine wpAnyL_take (oi := ⟨some 66, _, _, _, _, _⟩) 4 5 (.int .i64 x.field) _ rfl (by kernel_rfl) (by kernel_rfl) (by kernel_rfl) (by kernel_rfl) (by kernel_rfl) (by kernel_rfl) (.tail _ (.head _)) (fun _ _ _ h => h) (by kernel_rfl) (fun W' hW' => by have hW' : Blk W' wr.heap.size 112 [.string (ss y.key.tx), .int .i64 (y.key.ps : Int), .int .i64 (y.key.kd : Int), .int .i64 (y.key.n : Int), .slice (some ⟨g3, 0, none⟩) y.a.length c1, .slice A2 y.b.length c2] ∧ Blk W' (w.heap.size + 2) 24 [sv x.name, .int .i64 x.field, .int .i64 (dn : Int), .slice Ap x.par.length cp, .int .i64 x.dom] := hW'; have q1 := hW'.2.cell 1; go_simp) (Hooks.add (And.intro HYV.out HCV.out) (Hooks.add (And.intro HYV.out HCV.out) (Hooks.nil _ _))) ?_
          try simp only [Act.put]
          try simp only [List.setIfInBounds_toArray]
          try simp only [List.set_cons_succ]
          try simp only [List.set_cons_zero]
          refine wpAnyL_one 5 (by kernel_rfl) rfl (fun K hK => ?_)
          go_wp2_with (go_at_call 40; refine (HTP.out _).mono ?_; rintro e w' ⟨rfl, rfl⟩)
          refine hK _ _ (Hooks.add (And.intro HYV.out HCV.out) (Hooks.add (And.intro HYV.out HCV.out) (Hooks.nil _ _))) ?_
          clear hK K
          refine wpAnyL_one 6 (by kernel_rfl) rfl (fun K hK => ?_)
          go_wp2_with (go_at_call 75; refine (rparity_any y (some ⟨g3, 0, none⟩) c1 (.slice A2 y.b.length c2) rfl C dn mo (by omega) (by omega) hdl.1 hdl.2.1 WD (own_kept HTA2.out HVW.out)).mono ?_; rintro e w4 ⟨hce, hbl⟩; have HB4 := hideIt (HBV.out.kept hbl); have HY4 := hideIt (HYV.out.kept hbl HYV.out.lt); have HV4 := hideIt (HVW.out.trans (hbl.mono HVW.out.size)); have hsz4 := HBV.out.bl.size; obtain ⟨v0, v1, v2, rfl⟩ := cells_any3 hce; clear hce hbl)
          all_goals
            refine hK _ _ (Hooks.skip rfl (Hooks.skip rfl (Hooks.nil _ _))) ?_
            clear hK K
            refine wpAnyL_move (oi := ⟨some 61, _, _, _, _, _⟩) 7 ?_ rfl (by kernel_rfl) (by kernel_rfl) (by kernel_rfl) (by kernel_rfl) (fun _ _ _ h => h) (by kernel_rfl) ?_ ((Hooks.skip rfl (Hooks.skip rfl (Hooks.nil _ _)))) ?_
            rotate_left
            · intro W'; go_simp; first | done | with_reducible rfl
            try simp only [Act.put]
            try simp only [List.setIfInBounds_toArray]
            try simp only [List.set_cons_succ]
            try simp only [List.set_cons_zero]
            refine wpAnyL_move (oi := ⟨some 69, _, _, _, _, _⟩) 8 ?_ rfl (by kernel_rfl) (by kernel_rfl) (by kernel_rfl) (by kernel_rfl) (fun _ _ _ h => h) (by kernel_rfl) ?_ ((Hooks.skip rfl (Hooks.skip rfl (Hooks.nil _ _)))) ?_
            rotate_left
            · intro W'; go_simp; first | done | with_reducible rfl
            try simp only [Act.put]
            try simp only [List.setIfInBounds_toArray]
            try simp only [List.set_cons_succ]
            try simp only [List.set_cons_zero]
            refine wpAnyL_move (oi := ⟨some 70, _, _, _, _, _⟩) 9 ?_ rfl (by kernel_rfl) (by kernel_rfl) (by kernel_rfl) (by kernel_rfl) (fun _ _ _ h => h) (by kernel_rfl) ?_ ((Hooks.skip rfl (Hooks.skip rfl (Hooks.nil _ _)))) ?_
            rotate_left
            · intro W'; go_simp; first | done | with_reducible rfl
            try simp only [Act.put]
            try simp only [List.setIfInBounds_toArray]
            try simp only [List.set_cons_succ]
            try simp only [List.set_cons_zero]
            refine wpAnyL_move (oi := ⟨some 71, _, _, _, _, _⟩) 10 ?_ rfl (by kernel_rfl) (by kernel_rfl) (by kernel_rfl) (by kernel_rfl) (fun _ _ _ h => h) (by kernel_rfl) ?_ ((Hooks.skip rfl (Hooks.skip rfl (Hooks.nil _ _)))) ?_
            rotate_left
            · intro W'; go_simp; first | done | with_reducible rfl
            try simp only [Act.put]
            try simp only [List.setIfInBounds_toArray]
            try simp only [List.set_cons_succ]
            try simp only [List.set_cons_zero]
            refine wpAnyL_move (oi := ⟨some 10, _, _, _, _, _⟩) 11 ?_ rfl (by kernel_rfl) (by kernel_rfl) (by kernel_rfl) (by kernel_rfl) (fun _ _ _ h => h) (by kernel_rfl) ?_ ((Hooks.skip rfl (Hooks.skip rfl (Hooks.nil _ _)))) ?_
            rotate_left
            · intro W'; go_simp; first | done | with_reducible rfl
            try simp only [Act.put]
            try simp only [List.setIfInBounds_toArray]
            try simp only [List.set_cons_succ]
            try simp only [List.set_cons_zero]
            refine wpAnyL_move (oi := ⟨some 11, _, _, _, _, _⟩) 12 ?_ rfl (by kernel_rfl) (by kernel_rfl) (by kernel_rfl) (by kernel_rfl) (fun _ _ _ h => h) (by kernel_rfl) ?_ ((Hooks.skip rfl (Hooks.skip rfl (Hooks.nil _ _)))) ?_
            rotate_left
            · intro W'; go_simp; first | done | with_reducible rfl
            try simp only [Act.put]
            try simp only [List.setIfInBounds_toArray]
            try simp only [List.set_cons_succ]
            try simp only [List.set_cons_zero]
            refine wpAnyL_move (oi := ⟨some 12, _, _, _, _, _⟩) 13 ?_ rfl (by kernel_rfl) (by kernel_rfl) (by kernel_rfl) (by kernel_rfl) (fun _ _ _ h => h) (by kernel_rfl) ?_ ((Hooks.skip rfl (Hooks.skip rfl (Hooks.nil _ _)))) ?_
            rotate_left
            · intro W'; go_simp; first | done | with_reducible rfl
            try simp only [Act.put]
            try simp only [List.setIfInBounds_toArray]
            try simp only [List.set_cons_succ]
            try simp only [List.set_cons_zero]
            refine loads_done (by kernel_rfl) ?_
          have y0a := HY4.out.cell 0
          go_wp2_with fail
          have HB4a := HB4
          have HY4a := HY4
          have HV4a := HV4
          clear y0a HBV HYV HCV HVW HB4 HY4 HV4 hsz4
          have HBV := hideIt (HB4a.out.kept (Below.refl _ _).drew)
          have HYV := hideIt (HY4a.out.kept (Below.refl _ _).drew HY4a.out.lt)
          refine loads_begin_n 14 [(6, (fun W => Blk W wr.heap.size 112 [.string (ss y.key.tx), .int .i64 (y.key.ps : Int), .int .i64 (y.key.kd : Int), .int .i64 (y.key.n : Int), .slice (some ⟨g3, 0, none⟩) y.a.length c1, .slice A2 y.b.length c2] ∧ Blk W (w.heap.size + 2) 24 [sv x.name, .int .i64 x.field, .int .i64 (dn : Int), .slice Ap x.par.length cp, .int .i64 x.dom])), (5, (fun W => Blk W wr.heap.size 112 [.string (ss y.key.tx), .int .i64 (y.key.ps : Int), .int .i64 (y.key.kd : Int), .int .i64 (y.key.n : Int), .slice (some ⟨g3, 0, none⟩) y.a.length c1, .slice A2 y.b.length c2] ∧ Blk W (w.heap.size + 2) 24 [sv x.name, .int .i64 x.field, .int .i64 (dn : Int), .slice Ap x.par.length cp, .int .i64 x.dom]))] rfl (by kernel_rfl) ?_
          have HVW := hideIt (HV4a.out.drew)
          generalize hWD : World.drew _ = WD at HBV HYV HVW ⊢
          clear hWD
          have HCV : Hid (Blk WD (w.heap.size + 2) 24 [sv x.name, .int .i64 x.field, .int .i64 (dn : Int), .slice Ap x.par.length cp, .int .i64 x.dom]) := by have := HBV.out.cb; rw [hdn] at this; exact this
          refine wpAnyL_take (oi := ⟨some 77, _, _, _, _, _⟩) 0 6 (.agg #[.string (ss y.key.tx), .int .i64 (y.key.ps : Int), .int .i64 (y.key.kd : Int), .int .i64 (y.key.n : Int), .slice (some ⟨g3, 0, none⟩) y.a.length c1, .slice A2 y.b.length c2]) _ rfl (by kernel_rfl) (by kernel_rfl) (by kernel_rfl) (by kernel_rfl) (by kernel_rfl) (by kernel_rfl) (.head _) (fun _ _ _ h => h) (by kernel_rfl) (fun W' hW' => by have hW' : Blk W' wr.heap.size 112 [.string (ss y.key.tx), .int .i64 (y.key.ps : Int), .int .i64 (y.key.kd : Int), .int .i64 (y.key.n : Int), .slice (some ⟨g3, 0, none⟩) y.a.length c1, .slice A2 y.b.length c2] ∧ Blk W' (w.heap.size + 2) 24 [sv x.name, .int .i64 x.field, .int .i64 (dn : Int), .slice Ap x.par.length cp, .int .i64 x.dom] := hW'; have q0 := hW'.1.cell 0; have q1 := hW'.1.cell 1; have q2 := hW'.1.cell 2; have q3 := hW'.1.cell 3; have q4 := hW'.1.cell 4; have q5 := hW'.1.cell 5; go_simp) (Hooks.add (And.intro HYV.out HCV.out) (Hooks.add (And.intro HYV.out HCV.out) (Hooks.nil _ _))) ?_
          try simp only [Act.put]
          try simp only [List.setIfInBounds_toArray]
          try simp only [List.set_cons_succ]
          try simp only [List.set_cons_zero]
          refine wpAnyL_move (oi := ⟨some 78, _, _, _, _, _⟩) 1 ?_ rfl (by kernel_rfl) (by kernel_rfl) (by kernel_rfl) (by kernel_rfl) (fun _ _ _ h => h) (by kernel_rfl) ?_ (Hooks.add (And.intro HYV.out HCV.out) (Hooks.add (And.intro HYV.out HCV.out) (Hooks.nil _ _))) ?_
          rotate_left
          · intro W'; go_simp; first | done | with_reducible rfl
          try simp only [Act.put]
          try simp only [List.setIfInBounds_toArray]
          try simp only [List.set_cons_succ]
          try simp only [List.set_cons_zero]
          refine wpAnyL_take (oi := ⟨some 79, _, _, _, _, _⟩) 2 6 (.int .i64 (dn : Int)) _ rfl (by kernel_rfl) (by kernel_rfl) (by kernel_rfl) (by kernel_rfl) (by kernel_rfl) (by kernel_rfl) (.head _) (fun _ _ _ h => h) (by kernel_rfl) (fun W' hW' => by have hW' : Blk W' wr.heap.size 112 [.string (ss y.key.tx), .int .i64 (y.key.ps : Int), .int .i64 (y.key.kd : Int), .int .i64 (y.key.n : Int), .slice (some ⟨g3, 0, none⟩) y.a.length c1, .slice A2 y.b.length c2] ∧ Blk W' (w.heap.size + 2) 24 [sv x.name, .int .i64 x.field, .int .i64 (dn : Int), .slice Ap x.par.length cp, .int .i64 x.dom] := hW'; have q2 := hW'.2.cell 2; go_simp) (Hooks.add (And.intro HYV.out HCV.out) (Hooks.add (And.intro HYV.out HCV.out) (Hooks.nil _ _))) ?_
          try simp only [Act.put]
          try simp only [List.setIfInBounds_toArray]
          try simp only [List.set_cons_succ]
          try simp only [List.set_cons_zero]
          refine wpAnyL_move (oi := ⟨some 80, _, _, _, _, _⟩) 3 ?_ rfl (by kernel_rfl) (by kernel_rfl) (by kernel_rfl) (by kernel_rfl) (fun _ _ _ h => h) (by kernel_rfl) ?_ (Hooks.add (And.intro HYV.out HCV.out) (Hooks.add (And.intro HYV.out HCV.out) (Hooks.nil _ _))) ?_
          rotate_left
          · intro W'; go_simp; first | done | with_reducible rfl
          try simp only [Act.put]
          try simp only [List.setIfInBounds_toArray]
          try simp only [List.set_cons_succ]
          try simp only [List.set_cons_zero]
          refine wpAnyL_take (oi := ⟨some 81, _, _, _, _, _⟩) 4 5 (.int .i64 x.field) _ rfl (by kernel_rfl) (by kernel_rfl) (by kernel_rfl) (by kernel_rfl) (by kernel_rfl) (by kernel_rfl) (.tail _ (.head _)) (fun _ _ _ h => h) (by kernel_rfl) (fun W' hW' => by have hW' : Blk W' wr.heap.size 112 [.string (ss y.key.tx), .int .i64 (y.key.ps : Int), .int .i64 (y.key.kd : Int), .int .i64 (y.key.n : Int), .slice (some ⟨g3, 0, none⟩) y.a.length c1, .slice A2 y.b.length c2] ∧ Blk W' (w.heap.size + 2) 24 [sv x.name, .int .i64 x.field, .int .i64 (dn : Int), .slice Ap x.par.length cp, .int .i64 x.dom] := hW'; have q1 := hW'.2.cell 1; go_simp) (Hooks.add (And.intro HYV.out HCV.out) (Hooks.add (And.intro HYV.out HCV.out) (Hooks.nil _ _))) ?_
          try simp only [Act.put]
          try simp only [List.setIfInBounds_toArray]
          try simp only [List.set_cons_succ]
          try simp only [List.set_cons_zero]
          refine wpAnyL_one 5 (by kernel_rfl) rfl (fun K hK => ?_)
          go_wp2_with (go_at_call 40; refine (HTP.out _).mono ?_; rintro e w' ⟨rfl, rfl⟩)
          refine hK _ _ (Hooks.add (And.intro HYV.out HCV.out) (Hooks.add (And.intro HYV.out HCV.out) (Hooks.nil _ _))) ?_
          clear hK K
          refine wpAnyL_one 6 (by kernel_rfl) rfl (fun K hK => ?_)
          go_wp2_with (go_at_call 76; refine (rlocal_any y (some ⟨g3, 0, none⟩) A2 c1 c2 C dn mo (by omega) (by omega) hdl.2.1 hdl.2.2 WD (own_kept HTA2.out HVW.out) (own_kept HTB2.out HVW.out)).mono ?_; rintro e w4 ⟨hce, hbl⟩; have HB4 := hideIt (HBV.out.kept hbl); have HY4 := hideIt (HYV.out.kept hbl HYV.out.lt); have HV4 := hideIt (HVW.out.trans (hbl.mono HVW.out.size)); have hsz4 := HBV.out.bl.size; rw [HRB.out] at hce; rcases hce with ⟨h0, A3, c3, rfl, hir⟩ | ⟨h0, rfl⟩ <;> have H0 := hideIt h0 <;> clear h0 hbl <;> try (have HIR := hideIt (own_low hir hsz4); clear hir))
          all_goals
            refine hK _ _ (Hooks.skip rfl (Hooks.skip rfl (Hooks.nil _ _))) ?_
            clear hK K
            refine wpAnyL_move (oi := ⟨some 76, _, _, _, _, _⟩) 7 ?_ rfl (by kernel_rfl) (by kernel_rfl) (by kernel_rfl) (by kernel_rfl) (fun _ _ _ h => h) (by kernel_rfl) ?_ ((Hooks.skip rfl (Hooks.skip rfl (Hooks.nil _ _)))) ?_
            rotate_left
            · intro W'; go_simp; first | done | with_reducible rfl
            try simp only [Act.put]
            try simp only [List.setIfInBounds_toArray]
            try simp only [List.set_cons_succ]
            try simp only [List.set_cons_zero]
            refine wpAnyL_move (oi := ⟨some 84, _, _, _, _, _⟩) 8 ?_ rfl (by kernel_rfl) (by kernel_rfl) (by kernel_rfl) (by kernel_rfl) (fun _ _ _ h => h) (by kernel_rfl) ?_ ((Hooks.skip rfl (Hooks.skip rfl (Hooks.nil _ _)))) ?_
            rotate_left
            · intro W'; go_simp; first | done | with_reducible rfl
            try simp only [Act.put]
            try simp only [List.setIfInBounds_toArray]
            try simp only [List.set_cons_succ]
            try simp only [List.set_cons_zero]
            refine wpAnyL_move (oi := ⟨some 85, _, _, _, _, _⟩) 9 ?_ rfl (by kernel_rfl) (by kernel_rfl) (by kernel_rfl) (by kernel_rfl) (fun _ _ _ h => h) (by kernel_rfl) ?_ ((Hooks.skip rfl (Hooks.skip rfl (Hooks.nil _ _)))) ?_
            rotate_left
            · intro W'; go_simp; first | done | with_reducible rfl
            try simp only [Act.put]
            try simp only [List.setIfInBounds_toArray]
            try simp only [List.set_cons_succ]
            try simp only [List.set_cons_zero]
            refine wpAnyL_move (oi := ⟨some 86, _, _, _, _, _⟩) 10 ?_ rfl (by kernel_rfl) (by kernel_rfl) (by kernel_rfl) (by kernel_rfl) (fun _ _ _ h => h) (by kernel_rfl) ?_ ((Hooks.skip rfl (Hooks.skip rfl (Hooks.nil _ _)))) ?_
            rotate_left
            · intro W'; go_simp; first | done | with_reducible rfl
            try simp only [Act.put]
            try simp only [List.setIfInBounds_toArray]
            try simp only [List.set_cons_succ]
            try simp only [List.set_cons_zero]
            refine wpAnyL_move (oi := ⟨some 10, _, _, _, _, _⟩) 11 ?_ rfl (by kernel_rfl) (by kernel_rfl) (by kernel_rfl) (by kernel_rfl) (fun _ _ _ h => h) (by kernel_rfl) ?_ ((Hooks.skip rfl (Hooks.skip rfl (Hooks.nil _ _)))) ?_
            rotate_left
            · intro W'; go_simp; first | done | with_reducible rfl
            try simp only [Act.put]
            try simp only [List.setIfInBounds_toArray]
            try simp only [List.set_cons_succ]
            try simp only [List.set_cons_zero]
            refine wpAnyL_move (oi := ⟨some 11, _, _, _, _, _⟩) 12 ?_ rfl (by kernel_rfl) (by kernel_rfl) (by kernel_rfl) (by kernel_rfl) (fun _ _ _ h => h) (by kernel_rfl) ?_ ((Hooks.skip rfl (Hooks.skip rfl (Hooks.nil _ _)))) ?_
            rotate_left
            · intro W'; go_simp; first | done | with_reducible rfl
            try simp only [Act.put]
            try simp only [List.setIfInBounds_toArray]
            try simp only [List.set_cons_succ]
            try simp only [List.set_cons_zero]
            refine wpAnyL_move (oi := ⟨some 12, _, _, _, _, _⟩) 13 ?_ rfl (by kernel_rfl) (by kernel_rfl) (by kernel_rfl) (by kernel_rfl) (fun _ _ _ h => h) (by kernel_rfl) ?_ ((Hooks.skip rfl (Hooks.skip rfl (Hooks.nil _ _)))) ?_
            rotate_left
            · intro W'; go_simp; first | done | with_reducible rfl
            try simp only [Act.put]
            try simp only [List.setIfInBounds_toArray]
            try simp only [List.set_cons_succ]
            try simp only [List.set_cons_zero]
            refine loads_done (by kernel_rfl) ?_
          · have HOK := hideIt (HP.out.trans (if_neg (fun q => q H0.out)))
            have y0 := HY4.out.cell 0
            have s3 := HB4.out.cb.cell 3
            obtain ⟨vs, hov, hall⟩ := HB4.out.pr
            have HOV := hideIt hov
            have HAL := hideIt hall
            clear hov hall
            go_wp2_with ((with_reducible refine at_append ?_); refine wpList_app2 rfl (.tmp 93) (.tmp 95) 22 rfl w.heap.size 61 i0 (.slice none 0 0) 1 24 Tryz.underlying22 hi0 hz0 hz1 hz2 rfl (by decide) (.slice Ap x.par.length cp) x.par.length vs rfl (World.ownsRow.alloc HOV.out _) _ _ 1 1 [.slice A3 rb.1.length c3] rfl (sl_one w4 _ _) (ones_one rfl) (by unfold maxLen; omega) (by omega) (Nat.le_trans HB4.out.bl.size (below_new w4 _).size) ?_; intro v5 w5 ho5 hg5; obtain ⟨A5, c5, rfl, _, _⟩ := own_form ho5; have HO5 := hideIt ho5; have HG5 := hideIt hg5; have hc5 := (HB4.out.cb.alloc (.cells #[.slice A3 rb.1.length c3] 61)).grown hg5 (own_ne (World.ownsRow.alloc HOV.out (.cells #[.slice A3 rb.1.length c3] 61)) (HB4.out.cb.alloc (.cells #[.slice A3 rb.1.length c3] 61)) (by decide)); have u3 := hc5.cell 3; have u4 := hc5.free 3; clear ho5 hg5 hc5)
            go_roundg (gk - 1)
            case measure => omega
            case rel =>
              refine ⟨k + 1, { x with par := x.par ++ [rb.1] }, A5, c5, by omega, by go_num, (by rw [hdn]; exact HOK.out), ?_, HD31.out.1, HD31.out.2.1, by show (x.par ++ [rb.1]).length ≤ 32; rw [List.length_append]; show _ + 1 ≤ 32; omega⟩
              exact (HB4.out.new (.cells #[.slice A3 rb.1.length c3] 61)).push (World.ownsRow.alloc HOV.out _) (All2.imp (fun l u ⟨A, c, h3, h4⟩ => ⟨A, c, h3, World.ownsRow.alloc h4 _⟩) HAL.out) (World.ownsRow.alloc HIR.out _) HG5.out HO5.out
          · have HP := hideIt (HP.out.trans (if_pos H0.out))
            have y0 := HY4.out.cell 0
            have hne0 := i_neq 25 .i64 rb.2.2 0
            rw [decide_eq_true H0.out] at hne0
            have r0 := HB4.out.rb.cell 0
            have r1 := HB4.out.rb.cell 1
            have r2 := HB4.out.rb.cell 2
            have r3 := HB4.out.rb.cell 3
            have r4 := HB4.out.rb.cell 4
            have f0 := HB4.out.rb.free 0
            have f1 := HB4.out.rb.free 1
            have f2 := HB4.out.rb.free 2
            have f3 := HB4.out.rb.free 3
            have f4 := HB4.out.rb.free 4
            go_wp2_with fail
            have hz := zero_put (B := w.heap.size) HB4.out.rb (Nat.le_succ _) (.string ⟨#[]⟩) (.int .i64 0) (.int .i64 0) (.slice none 0 0) (.int .i64 0)
            rw [HP.out]
            exact bodyPost_ret (res_code rfl _ _ (w.heap.size + 1) _ _ _ rfl hz.1 Tryz.underlying24 rfl icd) rfl ⟨.inr ⟨H0.out, rfl⟩, (HB4.out.bl.trans hz.2)⟩
        · rw [decide_eq_false hlc] at kl
          have hrb : rowB y (dn : Int) (mo : Int) = parityB y (dn : Int) (mo : Int) := if_neg hlc
          rw [hrb] at HP
          generalize hrr : parityB y (dn : Int) (mo : Int) = rb at HP
          have HRB := hideIt hrr
          clear hrb hlc hrr
          have HBV := hideIt (HB2.out.kept (Below.refl _ _).drew)
          have HYV := hideIt (HY2.out.kept (Below.refl _ _).drew HY2.out.lt)
          refine loads_begin_n 14 [(6, (fun W => Blk W wr.heap.size 112 [.string (ss y.key.tx), .int .i64 (y.key.ps : Int), .int .i64 (y.key.kd : Int), .int .i64 (y.key.n : Int), .slice (some ⟨g3, 0, none⟩) y.a.length c1, .slice A2 y.b.length c2] ∧ Blk W (w.heap.size + 2) 24 [sv x.name, .int .i64 x.field, .int .i64 (dn : Int), .slice Ap x.par.length cp, .int .i64 x.dom])), (5, (fun W => Blk W wr.heap.size 112 [.string (ss y.key.tx), .int .i64 (y.key.ps : Int), .int .i64 (y.key.kd : Int), .int .i64 (y.key.n : Int), .slice (some ⟨g3, 0, none⟩) y.a.length c1, .slice A2 y.b.length c2] ∧ Blk W (w.heap.size + 2) 24 [sv x.name, .int .i64 x.field, .int .i64 (dn : Int), .slice Ap x.par.length cp, .int .i64 x.dom]))] rfl (by kernel_rfl) ?_
          have HVW := hideIt ((Below.refl w2.heap.size w2).drew)
          generalize hWD : World.drew _ = WD at HBV HYV HVW ⊢
          clear hWD
          have HCV : Hid (Blk WD (w.heap.size + 2) 24 [sv x.name, .int .i64 x.field, .int .i64 (dn : Int), .slice Ap x.par.length cp, .int .i64 x.dom]) := by have := HBV.out.cb; rw [hdn] at this; exact this
          refine wpAnyL_take (oi := ⟨some 62, _, _, _, _, _⟩) 0 6 (.agg #[.string (ss y.key.tx), .int .i64 (y.key.ps : Int), .int .i64 (y.key.kd : Int), .int .i64 (y.key.n : Int), .slice (some ⟨g3, 0, none⟩) y.a.length c1, .slice A2 y.b.length c2]) _ rfl (by kernel_rfl) (by kernel_rfl) (by kernel_rfl) (by kernel_rfl) (by kernel_rfl) (by kernel_rfl) (.head _) (fun _ _ _ h => h) (by kernel_rfl) (fun W' hW' => by have hW' : Blk W' wr.heap.size 112 [.string (ss y.key.tx), .int .i64 (y.key.ps : Int), .int .i64 (y.key.kd : Int), .int .i64 (y.key.n : Int), .slice (some ⟨g3, 0, none⟩) y.a.length c1, .slice A2 y.b.length c2] ∧ Blk W' (w.heap.size + 2) 24 [sv x.name, .int .i64 x.field, .int .i64 (dn : Int), .slice Ap x.par.length cp, .int .i64 x.dom] := hW'; have q0 := hW'.1.cell 0; have q1 := hW'.1.cell 1; have q2 := hW'.1.cell 2; have q3 := hW'.1.cell 3; have q4 := hW'.1.cell 4; have q5 := hW'.1.cell 5; go_simp) (Hooks.add (And.intro HYV.out HCV.out) (Hooks.add (And.intro HYV.out HCV.out) (Hooks.nil _ _))) ?_
          try simp only [Act.put]
          try simp only [List.setIfInBounds_toArray]
          try simp only [List.set_cons_succ]
          try simp only [List.set_cons_zero]
          refine wpAnyL_move (oi := ⟨some 63, _, _, _, _, _⟩) 1 ?_ rfl (by kernel_rfl) (by kernel_rfl) (by kernel_rfl) (by kernel_rfl) (fun _ _ _ h => h) (by kernel_rfl) ?_ (Hooks.add (And.intro HYV.out HCV.out) (Hooks.add (And.intro HYV.out HCV.out) (Hooks.nil _ _))) ?_
          rotate_left
          · intro W'; go_simp; first | done | with_reducible rfl
          try simp only [Act.put]
          try simp only [List.setIfInBounds_toArray]
          try simp only [List.set_cons_succ]
          try simp only [List.set_cons_zero]
          refine wpAnyL_take (oi := ⟨some 64, _, _, _, _, _⟩) 2 6 (.int .i64 (dn : Int)) _ rfl (by kernel_rfl) (by kernel_rfl) (by kernel_rfl) (by kernel_rfl) (by kernel_rfl) (by kernel_rfl) (.head _) (fun _ _ _ h => h) (by kernel_rfl) (fun W' hW' => by have hW' : Blk W' wr.heap.size 112 [.string (ss y.key.tx), .int .i64 (y.key.ps : Int), .int .i64 (y.key.kd : Int), .int .i64 (y.key.n : Int), .slice (some ⟨g3, 0, none⟩) y.a.length c1, .slice A2 y.b.length c2] ∧ Blk W' (w.heap.size + 2) 24 [sv x.name, .int .i64 x.field, .int .i64 (dn : Int), .slice Ap x.par.length cp, .int .i64 x.dom] := hW'; have q2 := hW'.2.cell 2; go_simp) (Hooks.add (And.intro HYV.out HCV.out) (Hooks.add (And.intro HYV.out HCV.out) (Hooks.nil _ _))) ?_
          try simp only [Act.put]
          try simp only [List.setIfInBounds_toArray]
          try simp only [List.set_cons_succ]
          try simp only [List.set_cons_zero]
          refine wpAnyL_move (oi := ⟨some 65, _, _, _, _, _⟩) 3 ?_ rfl (by kernel_rfl) (by kernel_rfl) (by kernel_rfl) (by kernel_rfl) (fun _ _ _ h => h) (by kernel_rfl) ?_ (Hooks.add (And.intro HYV.out HCV.out) (Hooks.add (And.intro HYV.out HCV.out) (Hooks.nil _ _))) ?_
          rotate_left
          · intro W'; go_simp; first | done | with_reducible rfl
          try simp only [Act.put]
          try simp only [List.setIfInBounds_toArray]
          try simp only [List.set_cons_succ]
          try simp only [List.set_cons_zero]
          refine wpAnyL_take (oi := ⟨some 66, _, _, _, _, _⟩) 4 5 (.int .i64 x.field) _ rfl (by kernel_rfl) (by kernel_rfl) (by kernel_rfl) (by kernel_rfl) (by kernel_rfl) (by kernel_rfl) (.tail _ (.head _)) (fun _ _ _ h => h) (by kernel_rfl) (fun W' hW' => by have hW' : Blk W' wr.heap.size 112 [.string (ss y.key.tx), .int .i64 (y.key.ps : Int), .int .i64 (y.key.kd : Int), .int .i64 (y.key.n : Int), .slice (some ⟨g3, 0, none⟩) y.a.length c1, .slice A2 y.b.length c2] ∧ Blk W' (w.heap.size + 2) 24 [sv x.name, .int .i64 x.field, .int .i64 (dn : Int), .slice Ap x.par.length cp, .int .i64 x.dom] := hW'; have q1 := hW'.2.cell 1; go_simp) (Hooks.add (And.intro HYV.out HCV.out) (Hooks.add (And.intro HYV.out HCV.out) (Hooks.nil _ _))) ?_
          try simp only [Act.put]
          try simp only [List.setIfInBounds_toArray]
          try simp only [List.set_cons_succ]
          try simp only [List.set_cons_zero]
          refine wpAnyL_one 5 (by kernel_rfl) rfl (fun K hK => ?_)
          go_wp2_with (go_at_call 40; refine (HTP.out _).mono ?_; rintro e w' ⟨rfl, rfl⟩)
          refine hK _ _ (Hooks.add (And.intro HYV.out HCV.out) (Hooks.add (And.intro HYV.out HCV.out) (Hooks.nil _ _))) ?_
          clear hK K
          refine wpAnyL_one 6 (by kernel_rfl) rfl (fun K hK => ?_)
          go_wp2_with (go_at_call 75; refine (rparity_any y (some ⟨g3, 0, none⟩) c1 (.slice A2 y.b.length c2) rfl C dn mo (by omega) (by omega) hdl.1 hdl.2.1 WD (own_kept HTA2.out HVW.out)).mono ?_; rintro e w4 ⟨hce, hbl⟩; have HB4 := hideIt (HBV.out.kept hbl); have HY4 := hideIt (HYV.out.kept hbl HYV.out.lt); have HV4 := hideIt (HVW.out.trans (hbl.mono HVW.out.size)); have hsz4 := HBV.out.bl.size; rw [HRB.out] at hce; rcases hce with ⟨h0, A3, c3, rfl, hir⟩ | ⟨h0, rfl⟩ <;> have H0 := hideIt h0 <;> clear h0 hbl <;> try (have HIR := hideIt (own_low hir hsz4); clear hir))
          all_goals
            refine hK _ _ (Hooks.skip rfl (Hooks.skip rfl (Hooks.nil _ _))) ?_
            clear hK K
            refine wpAnyL_move (oi := ⟨some 61, _, _, _, _, _⟩) 7 ?_ rfl (by kernel_rfl) (by kernel_rfl) (by kernel_rfl) (by kernel_rfl) (fun _ _ _ h => h) (by kernel_rfl) ?_ ((Hooks.skip rfl (Hooks.skip rfl (Hooks.nil _ _)))) ?_
            rotate_left
            · intro W'; go_simp; first | done | with_reducible rfl
            try simp only [Act.put]
            try simp only [List.setIfInBounds_toArray]
            try simp only [List.set_cons_succ]
            try simp only [List.set_cons_zero]
            refine wpAnyL_move (oi := ⟨some 69, _, _, _, _, _⟩) 8 ?_ rfl (by kernel_rfl) (by kernel_rfl) (by kernel_rfl) (by kernel_rfl) (fun _ _ _ h => h) (by kernel_rfl) ?_ ((Hooks.skip rfl (Hooks.skip rfl (Hooks.nil _ _)))) ?_
            rotate_left
            · intro W'; go_simp; first | done | with_reducible rfl
            try simp only [Act.put]
            try simp only [List.setIfInBounds_toArray]
            try simp only [List.set_cons_succ]
            try simp only [List.set_cons_zero]
            refine wpAnyL_move (oi := ⟨some 70, _, _, _, _, _⟩) 9 ?_ rfl (by kernel_rfl) (by kernel_rfl) (by kernel_rfl) (by kernel_rfl) (fun _ _ _ h => h) (by kernel_rfl) ?_ ((Hooks.skip rfl (Hooks.skip rfl (Hooks.nil _ _)))) ?_
            rotate_left
            · intro W'; go_simp; first | done | with_reducible rfl
            try simp only [Act.put]
            try simp only [List.setIfInBounds_toArray]
            try simp only [List.set_cons_succ]
            try simp only [List.set_cons_zero]
            refine wpAnyL_move (oi := ⟨some 71, _, _, _, _, _⟩) 10 ?_ rfl (by kernel_rfl) (by kernel_rfl) (by kernel_rfl) (by kernel_rfl) (fun _ _ _ h => h) (by kernel_rfl) ?_ ((Hooks.skip rfl (Hooks.skip rfl (Hooks.nil _ _)))) ?_
            rotate_left
            · intro W'; go_simp; first | done | with_reducible rfl
            try simp only [Act.put]
            try simp only [List.setIfInBounds_toArray]
            try simp only [List.set_cons_succ]
            try simp only [List.set_cons_zero]
            refine wpAnyL_move (oi := ⟨some 10, _, _, _, _, _⟩) 11 ?_ rfl (by kernel_rfl) (by kernel_rfl) (by kernel_rfl) (by kernel_rfl) (fun _ _ _ h => h) (by kernel_rfl) ?_ ((Hooks.skip rfl (Hooks.skip rfl (Hooks.nil _ _)))) ?_
            rotate_left
            · intro W'; go_simp; first | done | with_reducible rfl
            try simp only [Act.put]
            try simp only [List.setIfInBounds_toArray]
            try simp only [List.set_cons_succ]
            try simp only [List.set_cons_zero]
            refine wpAnyL_move (oi := ⟨some 11, _, _, _, _, _⟩) 12 ?_ rfl (by kernel_rfl) (by kernel_rfl) (by kernel_rfl) (by kernel_rfl) (fun _ _ _ h => h) (by kernel_rfl) ?_ ((Hooks.skip rfl (Hooks.skip rfl (Hooks.nil _ _)))) ?_
            rotate_left
            · intro W'; go_simp; first | done | with_reducible rfl
            try simp only [Act.put]
            try simp only [List.setIfInBounds_toArray]
            try simp only [List.set_cons_succ]
            try simp only [List.set_cons_zero]
            refine wpAnyL_move (oi := ⟨some 12, _, _, _, _, _⟩) 13 ?_ rfl (by kernel_rfl) (by kernel_rfl) (by kernel_rfl) (by kernel_rfl) (fun _ _ _ h => h) (by kernel_rfl) ?_ ((Hooks.skip rfl (Hooks.skip rfl (Hooks.nil _ _)))) ?_
            rotate_left
            · intro W'; go_simp; first | done | with_reducible rfl
            try simp only [Act.put]
            try simp only [List.setIfInBounds_toArray]
            try simp only [List.set_cons_succ]
            try simp only [List.set_cons_zero]
            refine loads_done (by kernel_rfl) ?_
          · have HOK := hideIt (HP.out.trans (if_neg (fun q => q H0.out)))
            have y0 := HY4.out.cell 0
            have s3 := HB4.out.cb.cell 3
            obtain ⟨vs, hov, hall⟩ := HB4.out.pr
            have HOV := hideIt hov
            have HAL := hideIt hall
            clear hov hall
            go_wp2_with ((with_reducible refine at_append ?_); refine wpList_app2 rfl (.tmp 93) (.tmp 95) 22 rfl w.heap.size 61 i0 (.slice none 0 0) 1 24 Tryz.underlying22 hi0 hz0 hz1 hz2 rfl (by decide) (.slice Ap x.par.length cp) x.par.length vs rfl (World.ownsRow.alloc HOV.out _) _ _ 1 1 [.slice A3 rb.1.length c3] rfl (sl_one w4 _ _) (ones_one rfl) (by unfold maxLen; omega) (by omega) (Nat.le_trans HB4.out.bl.size (below_new w4 _).size) ?_; intro v5 w5 ho5 hg5; obtain ⟨A5, c5, rfl, _, _⟩ := own_form ho5; have HO5 := hideIt ho5; have HG5 := hideIt hg5; have hc5 := (HB4.out.cb.alloc (.cells #[.slice A3 rb.1.length c3] 61)).grown hg5 (own_ne (World.ownsRow.alloc HOV.out (.cells #[.slice A3 rb.1.length c3] 61)) (HB4.out.cb.alloc (.cells #[.slice A3 rb.1.length c3] 61)) (by decide)); have u3 := hc5.cell 3; have u4 := hc5.free 3; clear ho5 hg5 hc5)
            go_roundg (gk - 1)
            case measure => omega
            case rel =>
              refine ⟨k + 1, { x with par := x.par ++ [rb.1] }, A5, c5, by omega, by go_num, (by rw [hdn]; exact HOK.out), ?_, HD31.out.1, HD31.out.2.1, by show (x.par ++ [rb.1]).length ≤ 32; rw [List.length_append]; show _ + 1 ≤ 32; omega⟩
              exact (HB4.out.new (.cells #[.slice A3 rb.1.length c3] 61)).push (World.ownsRow.alloc HOV.out _) (All2.imp (fun l u ⟨A, c, h3, h4⟩ => ⟨A, c, h3, World.ownsRow.alloc h4 _⟩) HAL.out) (World.ownsRow.alloc HIR.out _) HG5.out HO5.out
          · have HP := hideIt (HP.out.trans (if_pos H0.out))
            have y0 := HY4.out.cell 0
            have hne0 := i_neq 25 .i64 rb.2.2 0
            rw [decide_eq_true H0.out] at hne0
            have r0 := HB4.out.rb.cell 0
            have r1 := HB4.out.rb.cell 1
            have r2 := HB4.out.rb.cell 2
            have r3 := HB4.out.rb.cell 3
            have r4 := HB4.out.rb.cell 4
            have f0 := HB4.out.rb.free 0
            have f1 := HB4.out.rb.free 1
            have f2 := HB4.out.rb.free 2
            have f3 := HB4.out.rb.free 3
            have f4 := HB4.out.rb.free 4
            go_wp2_with fail
            have hz := zero_put (B := w.heap.size) HB4.out.rb (Nat.le_succ _) (.string ⟨#[]⟩) (.int .i64 0) (.int .i64 0) (.slice none 0 0) (.int .i64 0)
            rw [HP.out]
            exact bodyPost_ret (res_code rfl _ _ (w.heap.size + 1) _ _ _ rfl hz.1 Tryz.underlying24 rfl icd) rfl ⟨.inr ⟨H0.out, rfl⟩, (HB4.out.bl.trans hz.2)⟩
    · have hji : ¬ (k : Int) < (n : Int) := by omega
      have hR2 := HI.out.1
      rw [List.drop_of_length_le (by rw [← HN.out]; omega), buildL] at hR2
      have e0 := HI.out.2.1.cb.cell 0
      have e1 := HI.out.2.1.cb.cell 1
      have e2 := HI.out.2.1.cb.cell 2
      have e3 := HI.out.2.1.cb.cell 3
      have e4 := HI.out.2.1.cb.cell 4
      have g4 := HI.out.2.1.cb.free 4
      have hz4 := i_eql 3 .i64 x.dom 0
      have hd31 := HI.out.2.2
      have hsum := add_cc 3 x.data x.par.length (by omega) (by omega)
      by_cases hd0 : x.dom = 0
      · rw [if_pos hd0] at hR2
        rw [decide_eq_true hd0] at hz4
        have HP := hideIt hR2
        have hb4 := HI.out.2.1.set4 (x.data + x.par.length)
        have k0 := hb4.cb.cell 0
        have k1 := hb4.cb.cell 1
        have k2 := hb4.cb.cell 2
        have k3 := hb4.cb.cell 3
        have k4 := hb4.cb.cell 4
        have r0 := hb4.rb.cell 0
        have r1 := hb4.rb.cell 1
        have r2 := hb4.rb.cell 2
        have r3 := hb4.rb.cell 3
        have r4 := hb4.rb.cell 4
        have f0 := hb4.rb.free 0
        have f1 := hb4.rb.free 1
        have f2 := hb4.rb.free 2
        have f3 := hb4.rb.free 3
        have f4 := hb4.rb.free 4
        have HB4 := hideIt hb4
        clear hR2 hd0 hb4 hd31
        go_wp2_with fail
        have hz := zero_put (B := w.heap.size) HB4.out.rb (Nat.le_succ _) (sv x.name) (.int .i64 x.field) (.int .i64 x.data) (.slice Ap x.par.length cp) (.int .i64 (x.data + x.par.length))
        rw [HP.out]
        refine bodyPost_ret (res_code rfl _ _ (w.heap.size + 1) _ _ _ rfl hz.1 Tryz.underlying24 rfl icd) rfl ⟨.inl ⟨rfl, Ap, cp, rfl, ?_⟩, HB4.out.bl.trans hz.2⟩
        have b0 := HB4.out.rb
        have b1 := b0.store 0 (sv x.name)
        have b2 := b1.store 1 (.int .i64 x.field)
        have b3 := b2.store 2 (.int .i64 x.data)
        have b4 := b3.store 3 (.slice Ap x.par.length cp)
        exact (((((HB4.out.pr.set b0 (by decide) (by decide) 0 _).set b1 (by decide) (by decide) 1 _).set b2 (by decide) (by decide) 2 _).set b3 (by decide) (by decide) 3 _).set b4 (by decide) (by decide) 4 _)
      · rw [if_neg hd0] at hR2
        rw [decide_eq_false hd0] at hz4
        have HP := hideIt hR2
        have HB4 := hideIt HI.out.2.1
        have r0 := HB4.out.rb.cell 0
        have r1 := HB4.out.rb.cell 1
        have r2 := HB4.out.rb.cell 2
        have r3 := HB4.out.rb.cell 3
        have r4 := HB4.out.rb.cell 4
        have f0 := HB4.out.rb.free 0
        have f1 := HB4.out.rb.free 1
        have f2 := HB4.out.rb.free 2
        have f3 := HB4.out.rb.free 3
        have f4 := HB4.out.rb.free 4
        clear hR2 hd0 hd31
        go_wp2_with fail
        have hz := zero_put (B := w.heap.size) HB4.out.rb (Nat.le_succ _) (sv x.name) (.int .i64 x.field) (.int .i64 x.data) (.slice Ap x.par.length cp) (.int .i64 x.dom)
        rw [HP.out]
        refine bodyPost_ret (res_code rfl _ _ (w.heap.size + 1) _ _ _ rfl hz.1 Tryz.underlying24 rfl icd) rfl ⟨.inl ⟨rfl, Ap, cp, rfl, ?_⟩, HB4.out.bl.trans hz.2⟩
        have b0 := HB4.out.rb
        have b1 := b0.store 0 (sv x.name)
        have b2 := b1.store 1 (.int .i64 x.field)
        have b3 := b2.store 2 (.int .i64 x.data)
        have b4 := b3.store 3 (.slice Ap x.par.length cp)
        exact (((((HB4.out.pr.set b0 (by decide) (by decide) 0 _).set b1 (by decide) (by decide) 1 _).set b2 (by decide) (by decide) 2 _).set b3 (by decide) (by decide) 3 _).set b4 (by decide) (by decide) 4 _)

end Go.Proofs.YtcogkdnlpjfgdaaGreatDoor
