/-
  The library's Values, AppendSeq, Collect, Sorted and Compact at integers; the names of the racks, sorted, each once.
-/
import Derived.Test.YtkfahoaiialndaaGreatDoorD9a
import Derived.Test.YtkfahoaiialndaaGreatDoorD9b
import Derived.Test.YtkfahoaiialndaaGreatDoorD9c
import Derived.Test.YtkfahoaiialndaaGreatDoorD9d
import Derived.Test.YtkfahoaiialndaaGreatDoorDstR
import Derived.Test.YtkfahoaiialndaaGreatDoorDstQ
import Derived.Test.YtkfahoaiialndaaGreatDoorLayN
import Derived.OwnWalkIn
import Derived.TacticsInMore
import Derived.LoopNIn
import Derived.LoopIn
namespace Go.Proofs.YtkfahoaiialndaaGreatDoor
open Go.RowKit Go.Shelf
set_option linter.unusedVariables false
set_option linter.unusedSimpArgs false
attribute [local go_sem] Oper.semAt_some

theorem take_pre9 {α : Type} (l : List α) (j : Nat) (h : j < l.length) : l.take j ++ [l[j]] <+: l := by
  rw [← take_snoc l j h]; exact List.take_prefix _ _
theorem lt_of_block9 {w w' : World} {k : Nat} (h : k < w.heap.size) (e : w'.heap[k]? = w.heap[k]?) : k < w'.heap.size := by
  rw [Array.getElem?_eq_getElem h] at e
  exact (Array.getElem?_eq_some_iff.1 e).1
theorem values_call (A : Option Addr) (n c : Nat) (w : World) :
    Calls Tryz.prog 51 #[.slice A n c] w fun e w' => e = .returned (.func (.func 76) #[] #[.pointer (some ⟨w.heap.size, 0, none⟩)]) ∧ w' = w.alloc (.cells #[.slice A n c] 26) := by
  go_enter Tryz.func51, Tryz.ntmps51
  go_wp2_with fail
  go_ret
  exact ⟨rfl, rfl⟩
set_option maxHeartbeats 400000 in
set_option maxRecDepth 100000 in
theorem values_iter (zs : List Int) (hz : zs.length ≤ 1000) (Bs b o c : Nat) (w0 : World) (hBs : w0.cell? ⟨Bs, 0, none⟩ = some (.slice (some ⟨b, o, none⟩) zs.length c))
    (hc : ∀ j (h : j < zs.length), w0.cell? ⟨b, o + j, none⟩ = some (.int .i64 zs[j])) :
    IterV Tryz.prog 76 #[.pointer (some ⟨Bs, 0, none⟩)] (fun x : Int => #[.int .i64 x]) zs (fun k => k = Bs ∨ k = b) w0 := by
  intro l T J Jx W hC hT hY h0
  have hcB : ∀ V : World, Keeps T W V → V.cell? ⟨Bs, 0, none⟩ = some (.slice (some ⟨b, o, none⟩) zs.length c) := fun V hV => by
    have h1 := hC Bs (Or.inl rfl)
    rw [hV.cell (p := ⟨Bs, 0, none⟩) (lt_of_block9 h1.1 h1.2) (fun h => hT Bs h (Or.inl rfl)), World.cell?_of_block (w := w0) (a := ⟨Bs, 0, none⟩) h1.2]
    exact hBs
  have hcE : ∀ V : World, Keeps T W V → ∀ j (h : j < zs.length), V.cell? ⟨b, o + j, none⟩ = some (.int .i64 zs[j]) := fun V hV j hj => by
    have h1 := hC b (Or.inr rfl)
    rw [hV.cell (p := ⟨b, o + j, none⟩) (lt_of_block9 h1.1 h1.2) (fun h => hT b h (Or.inr rfl)), World.cell?_of_block (w := w0) (a := ⟨b, o + j, none⟩) h1.2]
    exact hc j hj
  have hbW := hcB W (Keeps.refl T W)
  have HE := hideIt hcE
  have HY := hideIt hY
  have H0 := hideIt h0
  clear hcB hcE hC hT hY h0 hBs hc
  refine callsIn_of_wp Tryz.func76 rfl trivial ?_
  simp only [Tryz.ntmps76, List.size_toArray, List.length_cons, List.length_nil, Nat.reduceAdd, Nat.reduceSub, Array.replicate_succ, Array.replicate_zero, List.push_toArray, List.append_toArray, List.nil_append, List.cons_append]
  gi_wp2
  gi_loopw [7] (fun i wr => ∃ j : Nat, j ≤ zs.length ∧ i = .int .i64 j ∧ J (zs.take j) wr ∧ Keeps T W wr) (fun i _ => zs.length - (intOf i).toNat)
  case atStart => exact ⟨0, by omega, rfl, H0.out, Keeps.refl T W⟩
  case round =>
    obtain ⟨j, hj, rfl, hJs, hKs⟩ := hrel
    clear hbW
    by_cases hlt : j < zs.length
    · have hpre := take_pre9 zs j hlt
      have HS1 := hideIt (take_snoc zs j hlt)
      have HP1 := hideIt (List.take_prefix (j + 1) zs)
      have hcell := HE.out _ hKs j hlt
      have hinc := inc_c 3 j (by omega)
      have hji : (j : Int) < (zs.length : Int) := by omega
      obtain ⟨fn, tmps, assign, body, hy, hR⟩ := HY.out _ _ wr hpre hKs hJs
      have HKS := hideIt hKs
      clear hpre hJs hKs
      generalize zs[j] = x at *
      clear hlt
      gi_wp2
      refine ⟨rfl, ?_⟩
      refine hR.mono ?_
      rintro e W3 (⟨rfl, hK3, hJ3⟩ | ⟨rfl, hK3, hJx3⟩)
      · gi_wp2
        go_roundw
        case rel => exact ⟨j + 1, by omega, by go_num, by rw [HS1.out]; exact hJ3, HKS.out.trans hK3⟩
        case measure => simp [intOf]; omega
      · gi_wp2
        refine bodyPost_ret (results_none rfl _ _ _) rfl ?_
        exact ⟨⟨_, rfl⟩, HKS.out.trans hK3, .inr ⟨_, by rw [← HS1.out]; exact HP1.out, hJx3⟩⟩
    · obtain rfl : j = zs.length := by omega
      rw [List.take_length] at hJs
      have HJS := hideIt hJs
      have HKS := hideIt hKs
      clear hJs hKs
      gi_wp2
      go_end0
      exact ⟨⟨_, rfl⟩, HKS.out, .inl HJS.out⟩
end Go.Proofs.YtkfahoaiialndaaGreatDoor
