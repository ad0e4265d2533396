/-
  Digests in rows of the call's own. No program stands behind this text.
  Drawn regions whose loads are taken first: the texts that later ones import together.
  A region that draws its order, where two operations stand next: both ways, to one end.
-/
import Derived.Test.YtkjnimcapjjfdaaDoorOnceU
import Derived.Test.YtkjnimcapjjfdaaDoorDig
namespace Go.Proofs.YtkjnimcapjjfdaaDoor
open Go.RowKit
set_option linter.unusedVariables false

theorem fill_dig (z : Array Value) (d : List UInt8) (hd : d.length = 16) (hz : z.size = 16) : Instr.fill (fun i => some (i * 16, 16)) z [(0, dv d)] = some (d.map bv).toArray := by
  have hc : (dv d).cells = (d.map bv).toArray := rfl
  obtain ⟨r, hr, hsz, hk⟩ := Great.fill_dense (s := 16) (by omega) [dv d] 0 z (by intro v hv; rw [List.mem_singleton] at hv; subst hv; rw [hc]; simp [hd]) (by simp [hz])
  have e : r = (d.map bv).toArray := by
    apply Array.ext_getElem?
    intro k
    rw [hk k]
    by_cases h : k < 16
    · have h1 : k / 16 = 0 := by omega
      have h2 : k % 16 = k := by omega
      rw [if_pos (by simp; omega), h1, h2, Nat.sub_zero]
      simp [hc]
    · rw [if_neg (by simp; omega)]
      simp [hz, hd, Nat.le_of_not_lt h]
  rw [← e, ← hr]
  rfl

theorem Tryd.infoDig : (Tryd.prog.info? 30).map (fun i => (i.zero, i.size, i.bytes)) = some (some (.agg (List.replicate 16 (Value.int .u8 0)).toArray), 16, 16) := by kernel_rfl
/-- A new block of one digest, as a slice. -/
theorem sl_dig (w : World) (d : List UInt8) (hd : d.length = 16) : Sl (w.alloc (.cells (d.map bv).toArray 30)) (w.heap.size + 1) (some ⟨w.heap.size, 0, none⟩) 16 1 (d.map bv) :=
  ⟨by rw [List.length_map, hd], fun _ => ⟨w.heap.size, 0, rfl, Nat.lt_succ_self _, fun j v hj => by rw [(Blk.new w 30 (d.map bv)).cell, Nat.zero_add]; exact hj⟩⟩



section
variable {P : Program} {md : Region.Mode} {ops : Array Oper} {Q : Exit → Act → World → Prop} {S : World → Prop} {t : Nat}
theorem wpOp_of_list {j : Nat} {o : Oper} {a : Act} {w : World} {K : Act → World → Prop} (ho : ops[j]? = some o) (h1 : wpList P ops (Exit.then K Q) [o] a w) : wpOp P ops Q j K a w := by
  unfold wpOp
  simp only [ho]
  unfold wpList at h1
  split
  · rename_i hw
    rw [if_pos hw] at h1
    rcases h1 with h1 | ⟨h1, a0, w0, h2⟩
    · refine .inl ?_
      unfold Oper.wp at h1 ⊢
      generalize (execOp a.eval o).run P w = r at h1 ⊢
      cases r with
      | ok n w' =>
        cases n <;> simp only [Oper.upon] at h1 ⊢
        case value u => exact h1
        case skip => exact h1
        case defer d => exact h1
        case enter f args =>
          refine Calls.mono h1 fun e w'' he => ?_
          cases e <;> exact he
        case row row args => exact h1
      | halt x w' =>
        cases x <;> simp only [Oper.upon] at h1 ⊢
        case panic u => exact h1
    · exact .inr ⟨h1, a0, w0, h2⟩
  · rename_i hw
    rw [if_neg hw] at h1
    exact h1
/-- Two stand next. -/
theorem wpAnyU_two (i j : Nat) {oi oj : Oper} {fuel : Nat} {listed : Array Bool} {a : Act} {w : World} (hr : Region.ready md ops listed = [i, j]) (hi : ops[i]? = some oi) (hj : ops[j]? = some oj)
    (h1 : ∀ K : Act → World → Prop, (∀ a' w', ((listed.setIfInBounds i true).getD t true = false → S w') → wpAnyU P md ops Q S t fuel (listed.setIfInBounds i true) a' w' → K a' w') → wpList P ops (Exit.then K Q) [oi] a w)
    (h2 : ∀ K : Act → World → Prop, (∀ a' w', ((listed.setIfInBounds j true).getD t true = false → S w') → wpAnyU P md ops Q S t fuel (listed.setIfInBounds j true) a' w' → K a' w') → wpList P ops (Exit.then K Q) [oj] a w) :
    wpAnyU P md ops Q S t (fuel + 1) listed a w := by
  refine ⟨fun h0 => (by rw [hr] at h0; cases h0), fun k hk => ?_⟩
  rw [hr] at hk
  rcases List.mem_cons.1 hk with rfl | hk
  · exact wpOp_of_list hi (h1 _ fun a' w' p q => ⟨p, q⟩)
  · rw [List.mem_singleton] at hk
    subst hk
    exact wpOp_of_list hj (h2 _ fun a' w' p q => ⟨p, q⟩)
/-- Whatever way is gone: what stands behind the region is gone through once. -/
theorem fork_to (s1 s2 s3 s4 s5 : Nat) (R : Value → World → Prop) {fuel : Nat} {listed : Array Bool} {a : Act} {w : World}
    (h1 : ∀ Q' : Exit → Act → World → Prop, (∀ x1 x2 x3 v W, R v W → Q' .normal (((((a.put (some s1) x1).put (some s2) x2).put (some s3) x3).put (some s4) v).put (some s5) v) W) → wpAnyU P md ops Q' S t fuel listed a w)
    (h2 : ∀ x1 x2 x3 v W, R v W → Q .normal (((((a.put (some s1) x1).put (some s2) x2).put (some s3) x3).put (some s4) v).put (some s5) v) W) : wpAnyU P md ops Q S t fuel listed a w := h1 Q h2
end
theorem blk_app {w w' : World} {base : Nat} {e : TypeId} {size n g : Nat} {v : Value} {xs cs : List Value} {t : TypeId} (ho : w.ownsRow base e size v n xs) (hg : w.grownBy w' v.ownBlock) (hk : Blk w g t cs) (hlt : g < base) : Blk w' g t cs :=
  hk.grown hg (fun h => by have := (ho.lt g h.symm).1; omega)
theorem below_app {B : Nat} {a w w' : World} {base : Nat} {e : TypeId} {size n : Nat} {v : Value} {xs : List Value} (h : Below B a w) (ho : w.ownsRow base e size v n xs) (hg : w.grownBy w' v.ownBlock) (hB : B ≤ base) (hs : B ≤ w.heap.size) : Below B a w' :=
  h.grown hg hs (fun k hk => by have := (ho.lt k hk).1; omega)
theorem blk_sl16 {w : World} {g B : Nat} {e : TypeId} {d : List UInt8} (h : Blk w g e (d.map bv)) (hd : d.length = 16) (hB : g < B) : Sl w B (some ⟨g, 0, none⟩) 16 1 (d.map bv) :=
  ⟨by rw [List.length_map, hd], fun _ => ⟨g, 0, rfl, hB, fun j v hj => by rw [h.cell, Nat.zero_add]; exact hj⟩⟩

end Go.Proofs.YtkjnimcapjjfdaaDoor
