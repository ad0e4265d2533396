/-
  What a definition means, walked: a number's value, the tests on numbers.
-/
import Derived.Test.YtcogkdnlpjfgdaaGreatDoorLngX
import Derived.Test.YtcogkdnlpjfgdaaGreatDoorLayA
import Derived.Shelf.Strconv.Atoi
import Derived.Lib.ConvBytes
namespace Go.Proofs.YtcogkdnlpjfgdaaGreatDoor
open Go.RowKit
set_option linter.unusedVariables false
set_option linter.unusedSimpArgs false

theorem below_bytes (w : World) (e : TypeId) (s : ByteArray) : Below w.heap.size w (Lib.bytesWorld w e s) :=
  ⟨rfl, rfl, rfl, by rw [Lib.bytesWorld_size]; omega, fun k hk => Lib.bytesWorld_at_old w e s k hk⟩
theorem digit_of {c : UInt8} (h : digB c = true) : Lib.digitVal c = some (c.toNat - 48) := by
  unfold digB at h
  unfold Lib.digitVal
  rw [if_pos (of_decide_eq_true h)]
theorem decFrom_of : ∀ (l : Bs) (acc : Nat), (∀ c ∈ l, digB c = true) → Lib.decFrom acc l = some (l.foldl (fun n c => 10 * n + (c.toNat - 48)) acc)
  | [], acc, _ => rfl
  | c :: l, acc, h => by
    rw [Lib.decFrom, digit_of (h c (by simp))]
    dsimp only
    rw [decFrom_of l _ (fun d hd => h d (by simp [hd])), List.foldl_cons, Nat.mul_comm]
theorem atoi_of (l : Bs) (h0 : l ≠ []) (h : ∀ c ∈ l, digB c = true) : Lib.atoi l = some (valS l : Int) := by
  cases l with
  | nil => exact absurd rfl h0
  | cons c r =>
    have hc := h c (by simp)
    have h1 : ¬ (c == 45) = true := fun e => by rw [eq_of_beq e] at hc; exact absurd hc (by decide)
    have h2 : ¬ (c == 43) = true := fun e => by rw [eq_of_beq e] at hc; exact absurd hc (by decide)
    rw [Lib.atoi, if_neg h1, if_neg h2]
    unfold Lib.decNat
    rw [if_neg (by simp), decFrom_of _ _ h]
    rfl
/-- A token that is a number. -/
structure NumT (x : Tk) : Prop where
  ne : x.tx ≠ []
  len : x.tx.length ≤ 5
  dig : ∀ c ∈ x.tx, digB c = true
  val : x.n = valS x.tx
theorem numT_of {x : Tk} (h : TokK x) (h2 : x.kd = 2) : NumT x :=
  ⟨fun e => by have := h.fin.1 e; omega, (h.val h2).2.1, (h.val h2).2.2, (h.val h2).1⟩
theorem valS_lt : ∀ (l : Bs), (∀ c ∈ l, digB c = true) → ∀ acc : Nat, l.foldl (fun n c => 10 * n + (c.toNat - 48)) acc < (acc + 1) * 10 ^ l.length
  | [], _, acc => by simp
  | c :: l, h, acc => by
    rw [List.foldl_cons, List.length_cons, Nat.pow_succ]
    have h1 := valS_lt l (fun d hd => h d (by simp [hd])) (10 * acc + (c.toNat - 48))
    have hc := h c (by simp)
    unfold digB at hc
    have hc := of_decide_eq_true hc
    have h2 : 10 * acc + (c.toNat - 48) + 1 ≤ (acc + 1) * 10 := by omega
    have h3 := Nat.mul_le_mul_right (10 ^ l.length) h2
    rw [Nat.mul_comm (10 ^ l.length) 10, ← Nat.mul_assoc]
    omega
theorem NumT.lt {x : Tk} (h : NumT x) : x.n < 100000 := by
  have h1 := valS_lt x.tx h.dig 0
  rw [h.val]
  unfold valS
  have h2 : 10 ^ x.tx.length ≤ 10 ^ 5 := Nat.pow_le_pow_right (by omega) h.len
  omega

set_option maxHeartbeats 1000000 in
theorem value_any (x : Tk) (hx : NumT x) (w : World) :
    Calls Tryz.prog 68 #[tkV x] w fun e w' => e = .returned (.int .i64 (x.n : Int)) ∧ Below w.heap.size w w' := by
  have HA : Hid (∀ W, Calls Tryz.prog 96 #[sv x.tx] W fun e w' => e = .returned (.tuple #[.int .i64 (x.n : Int), .nilIface]) ∧ Below W.heap.size W w') := fun W => by
    refine (Any.strconv_Atoi layAtoi (ss x.tx) (x.n : Int) (by rw [ss_size]; have := hx.len; omega) (by rw [ss_list, atoi_of x.tx hx.ne hx.dig, hx.val]) W).mono ?_
    rintro e w' ⟨rfl, t, rfl⟩
    exact ⟨rfl, below_bytes _ _ _⟩
  clear hx
  go_enter Tryz.func68, Tryz.ntmps68
  go_wp2_with (go_at_call 96; refine (HA.out _).mono ?_; rintro e w1 ⟨rfl, hb⟩; have HB1 := hideIt hb; clear hb)
  go_ret
  exact ⟨rfl, (below_new w _).trans (HB1.out.mono (below_new w _).size)⟩

/-- The tests. -/
def fieldB (m : Int) : Bool := decide (m = 8 ∨ m = 16)
def dataB (n : Int) : Bool := decide (1 ≤ n ∧ n ≤ 31)
def coefB (m n : Int) : Bool := decide (0 ≤ n ∧ n ≤ topF m)
theorem isField_any (m : Int) (w : World) : Calls Tryz.prog 34 #[.int .i64 m] w fun e w' => e = .returned (.bool (fieldB m)) ∧ w = w' := by
  unfold fieldB
  have h8 := i_eql 3 .i64 m 8
  have h16 := i_eql 3 .i64 m 16
  by_cases h1 : m = 8
  · rw [decide_eq_true (.inl h1)]
    rw [decide_eq_true h1] at h8
    clear h1
    go_enter Tryz.func34, Tryz.ntmps34
    go_wp2_with fail
    go_ret
    exact ⟨rfl, rfl⟩
  · rw [decide_eq_false h1] at h8
    by_cases h2 : m = 16
    · rw [decide_eq_true (.inr h2)]
      rw [decide_eq_true h2] at h16
      clear h1 h2
      go_enter Tryz.func34, Tryz.ntmps34
      go_wp2_with fail
      go_ret
      exact ⟨rfl, rfl⟩
    · rw [decide_eq_false (fun h => h.elim h1 h2)]
      rw [decide_eq_false h2] at h16
      clear h1 h2
      go_enter Tryz.func34, Tryz.ntmps34
      go_wp2_with fail
      go_ret
      exact ⟨rfl, rfl⟩
theorem isData_any (n : Int) (w : World) : Calls Tryz.prog 35 #[.int .i64 n] w fun e w' => e = .returned (.bool (dataB n)) ∧ w = w' := by
  unfold dataB
  by_cases h1 : n ≥ 1
  · by_cases h2 : n ≤ 31
    · rw [decide_eq_true ⟨h1, h2⟩]
      go_enter Tryz.func35, Tryz.ntmps35
      go_wp2_with fail
      go_ret
      exact ⟨rfl, rfl⟩
    · rw [decide_eq_false (fun h => h2 h.2)]
      go_enter Tryz.func35, Tryz.ntmps35
      go_wp2_with fail
      go_ret
      exact ⟨rfl, rfl⟩
  · rw [decide_eq_false (fun h => h1 h.1)]
    go_enter Tryz.func35, Tryz.ntmps35
    go_wp2_with fail
    go_ret
    exact ⟨rfl, rfl⟩
theorem isCoef_any (m n : Int) (hm : m = 8 ∨ m = 16) (w : World) : Calls Tryz.prog 59 #[.int .i64 m, .int .i64 n] w fun e w' => e = .returned (.bool (coefB m n)) ∧ w = w' := by
  unfold coefB topF
  by_cases h1 : n ≥ 0
  · rcases hm with rfl | rfl
    · rw [if_pos rfl]
      by_cases h2 : n < 256
      · rw [decide_eq_true ⟨h1, by omega⟩]
        go_enter Tryz.func59, Tryz.ntmps59
        go_wp2_with fail
        go_ret
        exact ⟨rfl, rfl⟩
      · rw [decide_eq_false (fun h => h2 (by omega))]
        go_enter Tryz.func59, Tryz.ntmps59
        go_wp2_with fail
        go_ret
        exact ⟨rfl, rfl⟩
    · rw [if_neg (by decide)]
      by_cases h2 : n < 65536
      · rw [decide_eq_true ⟨h1, by omega⟩]
        go_enter Tryz.func59, Tryz.ntmps59
        go_wp2_with fail
        go_ret
        exact ⟨rfl, rfl⟩
      · rw [decide_eq_false (fun h => h2 (by omega))]
        go_enter Tryz.func59, Tryz.ntmps59
        go_wp2_with fail
        go_ret
        exact ⟨rfl, rfl⟩
  · rw [decide_eq_false (fun h => h1 h.1)]
    go_enter Tryz.func59, Tryz.ntmps59
    go_wp2_with fail
    go_ret
    exact ⟨rfl, rfl⟩

/-- A function value that asks K of a number. -/
def AsksI (w : World) (v : Value) (K : Int → Bool) : Prop :=
  ∃ f caps, v = .func (.func f) #[] caps ∧ Enters Tryz.prog f ∧ ∀ x : Int, Calls Tryz.prog f (#[.int .i64 x] ++ caps) w fun e w' => e = .returned (.bool (K x)) ∧ w = w'
set_option maxHeartbeats 1000000 in
theorem indexI_any (l : List Int) (hl : l.length ≤ 9223372036854775807) (A : Option Addr) (c B : Nat) (kv : Value) (K : Int → Bool) (w : World) (hs : Sl w B A 1 l.length (l.map iv)) (hK : AsksI w kv K) :
    Calls Tryz.prog 88 #[.slice A l.length c, kv] w fun e w' => ∃ z : Int, e = .returned (.int .i64 z) ∧ decide (z ≥ 0) = l.any K ∧ w = w' := by
  obtain ⟨f, caps, rfl, hen, hdo⟩ := hK
  unfold Enters at hen
  have HD := hideIt hdo
  have HS := hideIt hs
  obtain ⟨n, hn⟩ : ∃ n, n = l.length := ⟨_, rfl⟩
  rw [← hn] at hl ⊢
  have HN := hideIt hn
  clear hdo hs hn
  go_enter Tryz.func88, Tryz.ntmps88
  go_wp2_with fail
  go_loopg [8] n (fun g s8 wr => ∃ j : Nat, j + g = n ∧ s8 = .int .i64 (j : Int) ∧ wr = w ∧ Aside ((l.take j).any K = false))
  case atStart => exact ⟨0, by omega, rfl, rfl, rfl⟩
  case round =>
    obtain ⟨j, hj, rfl, rfl, HI⟩ := hrel
    by_cases hlt : j < n
    · have hjl : j < l.length := by rw [← HN.out]; exact hlt
      obtain ⟨b, o, hA, hb, hcell⟩ := HS.out.num hjl
      subst hA
      have HT := hideIt (take_snoc l j hjl)
      have HM := hideIt (List.getElem_mem hjl)
      have hinc : binOp .add 3 (.int .i64 (j : Int)) (.int .i64 1) = pure (.int .i64 ((j + 1 : Nat) : Int)) := by
        rw [binOp_add]
        simp only [Op.intArith]
        rw [IntWalk.i64_in _ (by omega)]
        rfl
      have hji : (j : Int) < (n : Int) := by omega
      have HX := hideIt (HD.out l[j])
      generalize l[j] = x at *
      clear hjl hb
      cases hk : K x with
      | true =>
        rw [hk] at HX
        have HK := hideIt hk
        clear hk
        go_wp2_with (go_at_fn f; refine HX.out.mono ?_; rintro e w' ⟨rfl, rfl⟩)
        go_ret
        exact ⟨_, rfl, by rw [List.any_eq_true.2 ⟨x, HM.out, HK.out⟩]; simp, rfl⟩
      | false =>
        rw [hk] at HX
        have HK := hideIt hk
        clear hk
        go_wp2_with (go_at_fn f; refine HX.out.mono ?_; rintro e w' ⟨rfl, rfl⟩)
        go_roundg (gk - 1)
        case measure => omega
        case rel =>
          refine ⟨j + 1, by omega, by go_num, rfl, ?_⟩
          show (l.take (j + 1)).any K = false
          rw [HT.out, List.any_append, HI.out]
          simp [HK.out]
    · have hji : ¬ (j : Int) < (n : Int) := by omega
      have HE : Hid (l.any K = false) := by
        have := HI.out
        rw [List.take_of_length_le (by rw [← HN.out]; omega)] at this
        exact this
      go_wp2_with fail
      go_ret
      exact ⟨_, rfl, by rw [HE.out]; decide, rfl⟩
set_option maxHeartbeats 400000 in
theorem containsI_any (l : List Int) (hl : l.length ≤ 9223372036854775807) (A : Option Addr) (c B : Nat) (kv : Value) (K : Int → Bool) (w : World) (hs : Sl w B A 1 l.length (l.map iv)) (hK : AsksI w kv K) :
    Calls Tryz.prog 60 #[.slice A l.length c, kv] w fun e w' => e = .returned (.bool (l.any K)) ∧ w = w' := by
  have HX := hideIt (indexI_any l hl A c B kv K w hs hK)
  obtain ⟨f, caps, rfl, _, _⟩ := hK
  clear hs
  cases hk : l.any K with
  | true =>
    rw [hk] at HX
    go_enter Tryz.func60, Tryz.ntmps60
    go_wp2_with (go_at_call 88; refine HX.out.mono ?_; rintro e w' ⟨z, rfl, hz, rfl⟩; have hz := of_decide_eq_true hz)
    go_ret
    exact ⟨rfl, rfl⟩
  | false =>
    rw [hk] at HX
    go_enter Tryz.func60, Tryz.ntmps60
    go_wp2_with (go_at_call 88; refine HX.out.mono ?_; rintro e w' ⟨z, rfl, hz, rfl⟩; have hz := of_decide_eq_false hz)
    go_ret
    exact ⟨rfl, rfl⟩
def nz (x : Int) : Bool := decide (x ≠ 0)
theorem nzI_any (x : Int) (w : World) : Calls Tryz.prog 89 #[.int .i64 x] w fun e w' => e = .returned (.bool (nz x)) ∧ w = w' := by
  have h := i_neq 3 .i64 x 0
  rw [show decide (x ≠ 0) = nz x from rfl] at h
  generalize nz x = b at *
  go_enter Tryz.func89, Tryz.ntmps89
  go_wp2_with fail
  go_ret
  exact ⟨rfl, rfl⟩
theorem isZero_any (l : List Int) (hl : l.length ≤ 9223372036854775807) (A : Option Addr) (c B : Nat) (w : World) (hs : Sl w B A 1 l.length (l.map iv)) :
    Calls Tryz.prog 61 #[.slice A l.length c] w fun e w' => e = .returned (.bool (!l.any nz)) ∧ w = w' := by
  have HX := hideIt (containsI_any l hl A c B (.func (.func 89) #[] #[]) nz w hs ⟨_, _, rfl, enters_of Tryz.func89 (by kernel_rfl) rfl, fun x => nzI_any x w⟩)
  have hnot : ∀ (x : Bool) (w : World), (Op.unary .not (.bool x)).run Tryz.prog w = .ok (.bool (!x)) w := fun _ _ => rfl
  generalize l.any nz = b at *
  clear hs
  go_enter Tryz.func61, Tryz.ntmps61
  go_wp2_with (go_at_call 60; refine HX.out.mono ?_; rintro e w' ⟨rfl, rfl⟩)
  go_ret
  exact ⟨rfl, rfl⟩

end Go.Proofs.YtcogkdnlpjfgdaaGreatDoor
