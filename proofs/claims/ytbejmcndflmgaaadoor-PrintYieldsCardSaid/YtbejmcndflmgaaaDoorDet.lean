/-
  A string of which up to four adjacent bytes are replaced: as plain mathematics, and in memory.
-/
import Derived.Test.YtbejmcndflmgaaaDoorPLaw
import Derived.Laws.IdiomCopy
namespace Go.Proofs.YtbejmcndflmgaaaDoor
open Go.RowKit
set_option linter.unusedVariables false

theorem xorL_self : ∀ l : List UInt8, xorL l l = List.replicate l.length 0
  | [] => rfl
  | x :: l => by
    show (x ^^^ x) :: xorL l l = _
    rw [xorL_self l, UInt8.xor_self]; rfl
theorem xorL_app (a b c d : List UInt8) (h : a.length = c.length) : xorL (a ++ b) (c ++ d) = xorL a c ++ xorL b d := by
  unfold xorL; rw [List.zipWith_append h]
theorem xorL_back : ∀ a b : List UInt8, a.length = b.length → xorL a (xorL a b) = b
  | [], [], _ => rfl
  | [], _ :: _, h => by simp at h
  | _ :: _, [], h => by simp at h
  | x :: a, y :: b, h => by
    show (x ^^^ (x ^^^ y)) :: xorL a (xorL a b) = _
    rw [xorL_back a b (by simpa using h), ← UInt8.xor_assoc, UInt8.xor_self, UInt8.zero_xor]
theorem xorL_none (a b : List UInt8) (h : a.length = b.length) (hz : xorL a b = List.replicate a.length 0) : b = a := by
  rw [← xorL_back a b h, hz]
  exact xorL_zeroR a
theorem feeds_small (d : List UInt8) (h : d.length ≤ 4) (hz : feeds 0 d = 0) : d = List.replicate d.length 0 := by
  have hc : ∀ l, feeds 0 (0 :: l) = feeds 0 l := fun l => by rw [feeds_cons, show fd 0 0 = 0 by decide +kernel]
  match d, h with
  | [], _ => rfl
  | [a], _ =>
    obtain ⟨_, _, _, rfl⟩ := four_zero 0 0 0 a (by rw [hc, hc, hc]; exact hz)
    rfl
  | [a, b], _ =>
    obtain ⟨_, _, rfl, rfl⟩ := four_zero 0 0 a b (by rw [hc, hc]; exact hz)
    rfl
  | [a, b, c], _ =>
    obtain ⟨_, rfl, rfl, rfl⟩ := four_zero 0 a b c (by rw [hc]; exact hz)
    rfl
  | [a, b, c, d], _ =>
    obtain ⟨rfl, rfl, rfl, rfl⟩ := four_zero a b c d hz
    rfl
  | _ :: _ :: _ :: _ :: _ :: _, h => simp at h
theorem patch_crc (A M R ch : List UInt8) (hm : M.length = ch.length) (h4 : M.length ≤ 4) (h : crc (A ++ (ch ++ R)) = crc (A ++ (M ++ R))) : ch = M := by
  have he : xorL (A ++ (M ++ R)) (xorL (A ++ (M ++ R)) (A ++ (ch ++ R))) = A ++ (ch ++ R) := xorL_back _ _ (by simp [hm])
  rw [← he, crc_diff _ _ (by rw [xorL_len _ _ (by simp [hm])]), xorL_app _ _ _ _ rfl, xorL_app _ _ _ _ hm, xorL_self, xorL_self, feeds_pad] at h
  have h2 := itr_zero _ _ h
  have h3 := feeds_small _ (by rw [xorL_len _ _ hm]; exact h4) h2
  rw [xorL_len _ _ hm] at h3
  exact xorL_none _ _ hm h3
/-- The string l, from the place k on replaced by the beginning of f. -/
def patch (l : List UInt8) (k : Nat) (f : List UInt8) : List UInt8 := l.take k ++ (f.take (l.length - k) ++ l.drop (k + 4))
theorem patch_split (l : List UInt8) (k : Nat) : l = l.take k ++ ((l.drop k).take 4 ++ l.drop (k + 4)) := by
  rw [← List.drop_drop, List.take_append_drop, List.take_append_drop]
theorem patch_same (l : List UInt8) (k : Nat) (f : List UInt8) (hk : k ≤ l.length) (hf : f.length = 4) (h : crc (patch l k f) = crc l) : patch l k f = l := by
  have hl : ((l.drop k).take 4).length = (f.take (l.length - k)).length := by simp [hf]; omega
  have h2 : crc (l.take k ++ (f.take (l.length - k) ++ l.drop (k + 4))) = crc (l.take k ++ ((l.drop k).take 4 ++ l.drop (k + 4))) := by
    rw [← patch_split l k]; exact h
  have h3 := patch_crc _ _ _ _ hl (by simp; omega) h2
  unfold patch
  rw [h3, ← patch_split l k]
theorem patch_len (l : List UInt8) (k : Nat) (f : List UInt8) (hk : k ≤ l.length) (hf : f.length = 4) : (patch l k f).length = l.length := by
  unfold patch
  simp [hf]; omega
theorem patch_get (l : List UInt8) (k : Nat) (f : List UInt8) (hk : k ≤ l.length) (hf : f.length = 4) (i : Nat) (hi : i < l.length) :
    (patch l k f)[i]? = if k ≤ i ∧ i < k + (f.take (l.length - k)).length then f[i - k]? else l[i]? := by
  have hm : (f.take (l.length - k)).length = min (l.length - k) 4 := by simp [hf]
  have ht : (l.take k).length = k := by simp; omega
  unfold patch
  by_cases h1 : i < k
  · rw [if_neg (by omega), List.getElem?_append_left (by omega), List.getElem?_take, if_pos h1]
  · rw [List.getElem?_append_right (by omega), ht]
    by_cases h2 : i < k + (f.take (l.length - k)).length
    · rw [if_pos ⟨by omega, h2⟩, List.getElem?_append_left (by omega), List.getElem?_take, if_pos (by omega)]
    · rw [if_neg (by omega), List.getElem?_append_right (by omega), List.getElem?_drop, hm]
      congr 1
      omega
theorem brow_patch {w : World} {g : Nat} {l f : List UInt8} (h : BRow w g l) (k : Nat) (hk : k ≤ l.length) (hf : f.length = 4) : BRow (w.setCells g k ((f.take (l.length - k)).map bv)) g (patch l k f) := by
  have hm : ((f.take (l.length - k)).map bv).length = min (l.length - k) 4 := by simp [hf]
  have hm2 : (f.take (l.length - k)).length = min (l.length - k) 4 := by simp [hf]
  refine ⟨?_, fun i hi => ?_, fun i hi => by rw [World.frozen?_setCells]; exact h.free i (by rwa [patch_len l k f hk hf] at hi)⟩
  · exact Nat.lt_of_lt_of_le h.lt (below_setCells (B := 0) (Nat.zero_le _) _ k w (Below.refl 0 w)).size
  · have hil : i < l.length := by rwa [patch_len l k f hk hf] at hi
    have hg := patch_get l k f hk hf i hil
    rw [List.getElem?_eq_getElem hi] at hg
    by_cases h1 : k ≤ i ∧ i < k + (f.take (l.length - k)).length
    · rw [if_pos h1, List.getElem?_eq_getElem (by omega)] at hg
      have h2 := World.cell?_setCells_in g ((f.take (l.length - k)).map bv) k w (fun j hj => by rw [h.cell (k + j) (by omega)]; rfl) (i - k) (by omega)
      rw [show k + (i - k) = i by omega] at h2
      rw [h2, Option.some.inj hg, List.getElem_map, List.getElem_take]
    · rw [if_neg h1, List.getElem?_eq_getElem hil] at hg
      rw [World.cell?_setCells_out g _ k w ⟨g, i, none⟩ (fun _ _ => by show i < k ∨ k + _ ≤ i; omega), h.cell i hil, Option.some.inj hg]

/-- b[k:], k within b. -/
theorem cut_at {P : Program} {T e : TypeId} (hT : P.underlying T = some (.slice e)) (hs : ∀ W, (sizeOf e).run P W = .ok 1 W) (g : Nat) {n cap k : Nat} (hk : k < n) (hn : n ≤ cap) (W : World) :
    (Instr.sliceAt T (.slice (some ⟨g, 0, none⟩) n cap) (some (.int .i64 (k : Int))) none none).run P W = .ok (.slice (some ⟨g, k, none⟩) (n - k) (cap - k)) W := by
  have hel : P.elem T = e := by simp [Program.elem, hT]
  rw [run_sliceAt_slice W T _ _ _ _ (by rw [hel]; exact hT), run_slice_l W T _ n cap (by rw [hel]; exact hT) .i64 k (by omega) (by omega), hel, hs]
  simp only [Result.andThen, sliced, Int.toNat_natCast, if_neg (show ¬ cap = k by omega), Option.map_some, addr_add, Nat.zero_add, Nat.mul_one]
theorem arr4_all (b : Nat) (W : World) : (Instr.sliceAt 31 (.pointer (some ⟨b, 0, none⟩)) none none none).run Tryd.prog W = .ok (.slice (some ⟨b, 0, none⟩) 4 4) W := by
  have hl : Tryd.prog.arrayLen 31 = 4 := by kernel_rfl
  have hs : (sizeOf (Tryd.prog.elem 31)).run Tryd.prog W = .ok 1 W := by kernel_rfl
  rw [run_sliceAt_array_all W 31 ⟨b, 0, none⟩ (by kernel_rfl), hs, hl]
  simp only [Result.andThen, slicedAt, if_neg (show ¬ 4 = 0 by omega), addr_add, Nat.zero_mul, Nat.add_zero, Nat.sub_zero]
/-- The builtin copy, its run given. -/
theorem wpList_copyv {P : Program} {w w' : World} {ops : Array Oper} {rest : List Oper} {o : Oper} {a : Act} {Q : Exit → Act → World → Prop} (hgd : o.guard = none) (d s : Operand) (dT sT : TypeId)
    (ho : o.op = .call { callee := .builtin .copy, args := #[d, s], argTypes := #[dT, sT] }) (v : Value) (hrun : (Builtin.copy_ #[dT, sT] o.type #[a.eval d, a.eval s]).run P w = .ok v w')
    (h : wpList P ops Q rest (a.put o.dst v) w') : wpList P ops Q (o :: rest) a w := by
  refine wpList_plain hgd fun K hK => ?_
  unfold Oper.wp
  simp [execOp, ho, resolve, invoke, builtin, hrun, Result.andThen]
  exact hK _ _ h
/-- An operation of a quiet walk whose run is given. -/
theorem quiet_run {P : Program} {C : World → Prop} {o : Oper} {a : Act} {K : Act → Prop} (v : Value) (h : ∀ W, C W → (execOp a.eval o).run P W = .ok (.value v) W) (hk : K (a.put o.dst v)) : o.quiet P a C K :=
  ⟨v, fun W hW => by unfold Oper.quietAt; rw [h W hW]; exact ⟨rfl, rfl⟩, hk⟩

end Go.Proofs.YtbejmcndflmgaaaDoor
