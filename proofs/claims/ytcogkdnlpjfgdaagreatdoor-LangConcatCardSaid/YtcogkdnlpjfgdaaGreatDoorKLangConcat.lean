/-
  The walk of the law: Several printed codes, one after the other, are read as these codes (P7.7).
-/
import Derived.Test.YtcogkdnlpjfgdaaGreatDoorLwB
import Derived.Maps.Own
import Derived.Maps.OwnSet
import Derived.StringKeys
namespace Go.Proofs.YtcogkdnlpjfgdaaGreatDoor.langConcat
open Go.RowKit
set_option linter.unusedVariables false
set_option linter.unusedSimpArgs false

open Go.WideMaps Go.Maps in
theorem law9 : Keyed Tryz.prog 9 := string_keyed Tryz.underlying9
theorem zeroB (w : World) : (zeroValue 4).run Tryz.prog w = .ok (.bool false) w := by kernel_rfl
abbrev OM (W : World) (B n : Nat) (D : DataW Unit) : Prop := W.ownsMap Tryz.prog 9 (plainElem Tryz.prog 4) B n D
def Seen (D : DataW Unit) (ns : List Bs) : Prop := Maps.IsMap D ∧ ∀ nm : Bs, D.atKey (.string nm) (.lit (.bool false)) = .lit (.bool (decide (nm ∈ ns)))
theorem Seen.nil : Seen (.map []) [] := ⟨Maps.isMap_empty, fun nm => rfl⟩
theorem Seen.put {D : DataW Unit} {ns : List Bs} {nm : Bs} (h : Seen D ns) : Seen (D.put (.string nm) (.lit (.bool true))) (ns ++ [nm]) := by
  refine ⟨h.1.put _ _, fun x => ?_⟩
  by_cases hx : x = nm
  · subst hx
    rw [Maps.atKey_put_same h.1 (by trivial), decide_eq_true (by simp)]
  · rw [Maps.atKey_put_other (by intro e; injection e with e; exact hx e), h.2]
    congr 3
    simp [hx]
theorem own_below {W W' : World} {b n : Nat} {D : DataW Unit} (h : OM W b n D) (hb : Below W.heap.size W W') : OM W' b n D := by
  have hlt := h.lt
  obtain ⟨es, clock, hh, r⟩ := h
  exact ⟨es, clock, (hb.block b hlt).trans hh, r⟩
open Go.WideMaps Go.Maps in
theorem key9 (nm : Bs) (hl : nm.length ≤ 9223372036854775807) : keyOf Tryz.prog 9 (sv nm) = some (.string nm) := by
  have := keyOf_string_mk (P := Tryz.prog) Tryz.underlying9 (s := ss nm) (by rw [ss_size]; exact Nat.le_trans hl (by decide))
  rw [show (ss nm).data.toList = nm from rfl] at this
  exact this
set_option maxRecDepth 100000 in
theorem seen_look {W : World} {b n : Nat} {D : DataW Unit} {ns : List Bs} (h : OM W b n D) (hs : Seen D ns) (nm : Bs) (hl : nm.length ≤ 9223372036854775807) :
    (Instr.lookup 57 (.map (some b)) (sv nm) false).run Tryz.prog W = .ok (.bool (decide (nm ∈ ns))) W := by
  obtain ⟨v, ps, hrun, hv⟩ := h.lookup law9 Tryz.underlying57 (zeroB W) (plainElem_bool Tryz.underlying4 false) (key9 nm hl)
  rw [hs.2] at hv
  have hvb : v = .bool (decide (nm ∈ ns)) := by
    unfold plainElem at hv
    rw [Tryz.underlying4] at hv
    cases v <;> simp_all
  rw [hvb] at hrun
  exact hrun
structure CI9 (w wr : World) (l : List Cd) (i : Nat) (O : Bs) : Prop where
  bel : Below w.heap.size w wr
  out : O = (l.take i).flatMap printS
  good : ∀ c ∈ l.take i, Good c
  nd : ((l.take i).map Cd.name).Nodup
  le : O.length ≤ 2000
  own : ∃ D : DataW Unit, OM wr w.heap.size i D ∧ Seen D ((l.take i).map Cd.name)
theorem CI9.step {w wr w2 : World} {l : List Cd} {i : Nat} {O : Bs} {x : Cd} {D : DataW Unit} (h : CI9 w wr l i O) (hT : l.take (i + 1) = l.take i ++ [x]) (hb : Below w.heap.size w w2) (hg : Good x) (hm : x.name ∉ (l.take i).map Cd.name)
    (hl : O.length + (printS x).length ≤ 2000) (hs : Seen D ((l.take i).map Cd.name)) (ho : OM w2 w.heap.size (i + 1) (D.put (.string x.name) (.lit (.bool true)))) : CI9 w w2 l (i + 1) (O ++ printS x) := by
  refine ⟨hb, by rw [hT, List.flatMap_append, h.out]; simp, ?_, ?_, by rw [List.length_append]; omega, ⟨_, ho, by rw [hT, List.map_append]; exact hs.put⟩⟩
  · intro c hc
    rw [hT, List.mem_append] at hc
    rcases hc with hc | hc
    · exact h.good c hc
    · rw [List.mem_singleton] at hc; subst hc; exact hg
  · rw [hT, List.map_append, List.nodup_append]
    refine ⟨h.nd, by simp, fun a ha b hb' e => ?_⟩
    simp only [List.map_cons, List.map_nil, List.mem_singleton] at hb'
    exact hm (hb' ▸ e ▸ ha)
theorem print_zero {x : Cd} (hl : x.par.length ≤ 9223372036854775807) (h : (printX x).2 = 0) : Good x ∧ (printS x).length ≤ 2000 ∧ printX x = (printS x, 0) := by
  unfold printX at h ⊢
  by_cases h1 : checkX x ≠ 0
  · rw [if_pos h1] at h; exact absurd h h1
  · rw [if_neg h1] at h ⊢
    by_cases h2 : 2000 < (printS x).length
    · rw [if_pos h2] at h; exact absurd (show (2 : Int) = 0 from h) (by decide)
    · rw [if_neg h2]
      refine ⟨(checkC_good x).1 ((checkX_zero x (Nat.le_trans hl (by decide))).1 (Classical.not_not.1 h1)), by omega, rfl⟩
set_option maxHeartbeats 4000000 in
set_option maxRecDepth 100000 in
theorem walk (l0 : List Cd) (A0 : Option Addr) (c0 : Nat) (w : World) (x0 : CsIn w l0 A0) (n0 : ∀ x ∈ l0, x.name.length ≤ 9223372036854775807) (T1 : TabW w) :
    Calls Tryz.prog 10 #[.slice A0 l0.length c0] w fun e w' => e = .returned (.bool true) ∧ Below w.heap.size w w' := by
  have HSA := hideIt (fun W (hW : Below w.heap.size w W) => sanity_any W (T1.keep hW))
  have HX := hideIt x0
  have HNM := hideIt n0
  obtain ⟨n, hn⟩ : ∃ n, n = l0.length := ⟨_, rfl⟩
  have HN := hideIt hn
  rw [← hn]
  clear x0 n0 hn
  by_cases h8 : 8 < n
  · have h8i : (n : Int) > 8 := by omega
    clear h8
    go_enter Tryz.func10, Tryz.ntmps10
    go_wp2_with (go_at_call 13; refine (HSA.out _ (Below.refl _ _)).mono ?_; rintro e w3 ⟨rfl, hb⟩; have HB3 := hideIt hb; clear hb HSA)
    go_ret
    exact ⟨rfl, HB3.out⟩
  · have h8i : ¬ (n : Int) > 8 := by omega
    have hmm := @run_makeMap Tryz.prog
    go_enter Tryz.func10, Tryz.ntmps10
    go_wp2_with fail
    go_loopg [3, 19] n (fun gk s3 s19 wr => ∃ (i : Nat) (O : Bs), i + gk = n ∧ s3 = sv O ∧ s19 = .int .i64 (i : Int) ∧ Aside (CI9 w wr l0 i O))
    case atStart => exact ⟨0, [], by omega, rfl, rfl, ⟨below_new w _, rfl, fun c hc => by simp at hc, by simp, by simp, ⟨_, World.ownsMap_made _ _ _ _, Seen.nil⟩⟩⟩
    case round =>
      obtain ⟨i, O, hi, rfl, rfl, HI⟩ := hrel
      have HI := hideIt HI.out
      have hp := len_c O
      have hpl := HI.out.le
      by_cases hlt : i < n
      · have hil : i < l0.length := by rw [← HN.out]; exact hlt
        obtain ⟨b, o, A1, c1, hA, hb, hcell, hpm⟩ := HX.out.cm.code hil
        subst hA
        have hji : (i : Int) < (n : Int) := by omega
        have hinc := inc_w 3 i (by omega)
        have HC := fun k u h => (HI.out.bel.cell (p := ⟨b, o + (i * 5 + k), none⟩) hb).trans (hcell k u h)
        have HT := hideIt (take_snoc l0 i hil)
        have hnl := HNM.out _ (List.getElem_mem hil)
        have hcin : CIn wr l0[i] A1 := ⟨(hpm.below HI.out.bel).wide HI.out.bel.size, HX.out.par _ (List.getElem_mem hil), HX.out.row _ (List.getElem_mem hil)⟩
        obtain ⟨D, hD, hS⟩ := HI.out.own
        generalize l0[i] = x at *
        have a0 : wr.cell? ⟨b, o + i * 5, none⟩ = some (.string (ss x.name)) := HC 0 _ rfl
        have a1 : wr.cell? ⟨b, o + i * 5 + 1, none⟩ = some (.int .i64 x.field) := HC 1 _ rfl
        have a2 : wr.cell? ⟨b, o + i * 5 + 2, none⟩ = some (.int .i64 x.data) := HC 2 _ rfl
        have a3 : wr.cell? ⟨b, o + i * 5 + 3, none⟩ = some (.slice A1 x.par.length c1) := HC 3 _ rfl
        have a4 : wr.cell? ⟨b, o + i * 5 + 4, none⟩ = some (.int .i64 x.dom) := HC 4 _ rfl
        have HBX := hideIt (BC.new c1 hcin)
        have HB0 := hideIt (la7 (o := .cells #[sv x.name, .int .i64 x.field, .int .i64 x.data, .slice A1 x.par.length c1, .int .i64 x.dom] 24) HI.out.bel)
        have HOM := hideIt (own_below hD (below_new wr (.cells #[sv x.name, .int .i64 x.field, .int .i64 x.data, .slice A1 x.par.length c1, .int .i64 x.dom] 24)))
        have HSN := hideIt hS
        have HPX := hideIt (fun (h : (printX x).2 = 0) => print_zero hcin.len h)
        have HKEY := hideIt (key9 x.name hnl)
        have HPR := hideIt (fun W (hW : Below w.heap.size w W) (h : CIn W x A1) => print_any x A1 c1 W h (T1.keep hW))
        obtain ⟨q, hq⟩ : ∃ q, q = (printX x).2 := ⟨_, rfl⟩
        by_cases hq0 : q = 0
        · obtain ⟨hg, hl, hpx⟩ := HPX.out (hq ▸ hq0)
          rw [hpx] at HPR
          have HG := hideIt hg
          have hp2 := len_c (printS x)
          have HST := hideIt (fun (w2 : World) (hb : Below w.heap.size w w2) (hm : x.name ∉ (l0.take i).map Cd.name) (hl : O.length + (printS x).length ≤ 2000) (ho : OM w2 w.heap.size (i + 1) (D.put (.string x.name) (.lit (.bool true)))) => CI9.step HI.out HT.out hb hg hm hl hS ho)
          generalize printS x = T at *
          have HLK := hideIt (fun W (h : OM W w.heap.size i D) => seen_look h hS x.name hnl)
          clear hq hq0 hg hpx HPX hD hS hcin hpm hcell hb hil HC
          by_cases hm : x.name ∈ (l0.take i).map Cd.name
          · rw [decide_eq_true hm] at HLK
            clear hm HST
            go_wp2_with (first
              | (go_at_call 11; refine (HPR.out _ HB0.out HBX.out.cin).mono ?_; rintro e w1 ⟨rfl, hb⟩; have HBX1 := hideIt (HBX.out.keep hb); have HB1 := hideIt (ls7 HB0.out hb); have n1 := HBX1.out.box.cell 0; have HOM1 := hideIt (own_below HOM.out hb); have hlook := HLK.out w1 HOM1.out; clear hb HOM HLK HPR HBX HB0 a0 a1 a2 a3 a4)
              | (go_at_call 13; refine (HSA.out _ HB1.out).mono ?_; rintro e w3 ⟨rfl, hb⟩; have HB3 := hideIt (ls7 HB1.out hb); clear hb HSA HB1))
            go_ret
            exact ⟨rfl, HB3.out⟩
          · rw [decide_eq_false hm] at HLK
            have HM := hideIt hm
            clear hm
            by_cases hlong : 2000 < O.length + T.length
            · have hlg : ((O.length : Int) + (T.length : Int)) > 2000 := by omega
              clear HST
              go_wp2_with (first
                | (go_at_call 11; refine (HPR.out _ HB0.out HBX.out.cin).mono ?_; rintro e w1 ⟨rfl, hb⟩; have HBX1 := hideIt (HBX.out.keep hb); have HB1 := hideIt (ls7 HB0.out hb); have n1 := HBX1.out.box.cell 0; have HOM1 := hideIt (own_below HOM.out hb); have hlook := HLK.out w1 HOM1.out; clear hb HOM HLK HPR HBX HB0 a0 a1 a2 a3 a4)
                | (go_at_call 13; refine (HSA.out _ HB1.out).mono ?_; rintro e w3 ⟨rfl, hb⟩; have HB3 := hideIt (ls7 HB1.out hb); clear hb HSA HB1))
              go_ret
              exact ⟨rfl, HB3.out⟩
            · have hlg : ¬ ((O.length : Int) + (T.length : Int)) > 2000 := by omega
              have hadd := s_add 9 O T (by omega)
              go_wp2_with (first
                | (go_at_call 11; refine (HPR.out _ HB0.out HBX.out.cin).mono ?_; rintro e w1 ⟨rfl, hb⟩; have HBX1 := hideIt (HBX.out.keep hb); have HB1 := hideIt (ls7 HB0.out hb); have n1 := HBX1.out.box.cell 0; have HOM1 := hideIt (own_below HOM.out hb); have hlook := HLK.out w1 HOM1.out; clear hb HOM HLK HPR HBX HB0 a0 a1 a2 a3 a4)
                | (at_mapUpdate; refine wpList_mapUpdate_own _ rfl _ _ _ 57 rfl 9 4 law9 Tryz.underlying57 _ w.heap.size i _ rfl HOM1.out (by unfold maxLen; omega) _ _ _ rfl rfl HKEY.out _ [] (plainElem_bool Tryz.underlying4 true) ?_; intro w2 hown2 hgrow2; have HI2 := hideIt (HST.out w2 (HB1.out.grown hgrow2 HB1.out.size (fun j hj => by cases hj; exact Nat.le_refl _)) HM.out (by omega) hown2); clear hown2 hgrow2 HOM1 HB1 HBX1 n1 hlook))
              go_roundg (gk - 1)
              case measure => omega
              case rel => exact ⟨i + 1, O ++ T, by omega, rfl, by go_num, HI2.out⟩
        · have en := i_neq 25 .i64 q 0
          rw [decide_eq_true hq0] at en
          rw [← hq] at HPR
          generalize (printX x).1 = T at *
          clear hq hq0 HPX hD hS hcin hpm hcell hb hil HC
          go_wp2_with (first
            | (go_at_call 11; refine (HPR.out _ HB0.out HBX.out.cin).mono ?_; rintro e w1 ⟨rfl, hb⟩; have HBX1 := hideIt (HBX.out.keep hb); have HB1 := hideIt (ls7 HB0.out hb); have n1 := HBX1.out.box.cell 0; clear hb HPR HBX HB0 a0 a1 a2 a3 a4)
            | (go_at_call 13; refine (HSA.out _ HB1.out).mono ?_; rintro e w3 ⟨rfl, hb⟩; have HB3 := hideIt (ls7 HB1.out hb); clear hb HSA HB1))
          go_ret
          exact ⟨rfl, HB3.out⟩
      · have hji : ¬ (i : Int) < (n : Int) := by omega
        have hall : l0.take i = l0 := List.take_of_length_le (by rw [← HN.out]; omega)
        have hgd := HI.out.good
        have hnd := HI.out.nd
        have hou := HI.out.out
        rw [hall] at hgd hnd hou
        have hpa : parseAllC O = (l0, 0, 0) := by
          rw [hou]
          exact parseAll_print hgd (by rw [← hou]; exact hpl) (by rw [← HN.out]; omega) hnd
        have HA := hideIt (fun W => (parseAll_any O W).mono (R' := fun e w' => (∃ A c, e = .returned (.tuple #[.slice A n c, .int .i64 0, .int .i64 0]) ∧ CsIn w' l0 A) ∧ Below W.heap.size W w') (fun e w' h => ⟨by
          obtain ⟨A, c, he, hc⟩ := h.1
          rw [hpa] at he hc
          rw [HN.out]
          exact ⟨A, c, he, hc.csin⟩, h.2⟩))
        have HSS := hideIt (fun A A' c c' W (h : CsIn W l0 A) (h' : CsIn W l0 A') => show Calls Tryz.prog 22 #[.slice A n c, .slice A' n c'] W (fun e w' => e = .returned (.bool true) ∧ Below W.heap.size W w') by
          have h := rsameAll_any l0 l0 A A' c c' W h h'
          rw [(samesB_iff l0 l0).2 rfl, ← HN.out] at h
          exact h)
        have HB0 := hideIt HI.out.bel
        have HX0 := hideIt (HX.out.keep HB0.out)
        clear hall hgd hnd hou hpa hp hpl
        go_wp2_with (first
          | (go_at_call 20; refine (HA.out _).mono ?_; rintro e w1 ⟨⟨A2, c2, rfl, hc⟩, hb⟩; have HX1 := hideIt (HX0.out.keep hb); have HY1 := hideIt hc; have HB1 := hideIt (ls7 HB0.out hb); clear hc hb HA HX0 HB0)
          | (go_at_call 13; refine (HSA.out _ HB1.out).mono ?_; rintro e w3 ⟨rfl, hb⟩; have HX3 := hideIt (HX1.out.keep hb); have HY3 := hideIt (HY1.out.keep hb); have HB3 := hideIt (ls7 HB1.out hb); clear hb HSA HX1 HY1 HB1)
          | (go_at_call 22; refine (HSS.out _ _ _ _ _ HX3.out HY3.out).mono ?_; rintro e w4 ⟨rfl, hb⟩; have HB4 := hideIt (ls7 HB3.out hb); clear hb HSS HX3 HY3 HB3))
        go_ret
        exact ⟨rfl, HB4.out⟩

end Go.Proofs.YtcogkdnlpjfgdaaGreatDoor.langConcat
