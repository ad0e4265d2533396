/-
  Codes of the erasure layer in memory; which are valid; the program's and the reference's Valid and Width, walked.
-/
import Derived.Test.YtpjgmekpnlpjaaaDoorCdM
import Derived.Test.YtpjgmekpnlpjaaaDoorGfb
import Derived.Test.YtpjgmekpnlpjaaaDoorGma
namespace Go.Proofs.YtpjgmekpnlpjaaaDoor
open Go.RowKit
set_option linter.unusedVariables false
set_option linter.unusedSimpArgs false

structure Cd where
  name : List UInt8
  field : Int
  data : Int
  par : List (List Int)
  dom : Int
abbrev cdV (nm : List UInt8) (f d : Int) (v : Value) (dm : Int) : Value := .agg #[sv nm, .int .i64 f, .int .i64 d, v, .int .i64 dm]
abbrev cdC (nm : List UInt8) (f d : Int) (v : Value) (dm : Int) : List Value := [sv nm, .int .i64 f, .int .i64 d, v, .int .i64 dm]
abbrev Cd.v (x : Cd) (A : Option Addr) (c : Nat) : Value := cdV x.name x.field x.data (.slice A x.par.length c) x.dom
abbrev Cd.cs (x : Cd) (A : Option Addr) (c : Nat) : List Value := cdC x.name x.field x.data (.slice A x.par.length c) x.dom

/-- A code as an argument: where its rows lie. -/
structure CIn (w : World) (x : Cd) (A : Option Addr) : Prop where
  pm : PM w w.heap.size A x.par
  len : x.par.length ≤ 9223372036854775807
  lens : ∀ l ∈ x.par, l.length ≤ 9223372036854775807
theorem CIn.keep {w w' : World} {x : Cd} {A : Option Addr} (h : CIn w x A) (hb : Below w.heap.size w w') : CIn w' x A := ⟨(h.pm.below hb).wide hb.size, h.len, h.lens⟩

/-- A code in its box. -/
structure BC (W : World) (p : Nat) (x : Cd) (A : Option Addr) (c : Nat) : Prop where
  box : Blk W p 24 (x.cs A c)
  cin : CIn W x A
theorem BC.keep {W W' : World} {p : Nat} {x : Cd} {A : Option Addr} {c : Nat} (h : BC W p x A c) (hb : Below W.heap.size W W') : BC W' p x A c := ⟨h.box.kept hb h.box.lt, h.cin.keep hb⟩
theorem BC.new {W : World} {x : Cd} {A : Option Addr} (c : Nat) (h : CIn W x A) : BC (W.alloc (.cells (x.cs A c).toArray 24)) W.heap.size x A c :=
  ⟨Blk.new W 24 (x.cs A c), h.keep (below_new W _)⟩
theorem BC.c1 {W : World} {p : Nat} {x : Cd} {A : Option Addr} {c : Nat} (h : BC W p x A c) : W.cell? ⟨p, 1, none⟩ = some (.int .i64 x.field) := h.box.cell 1
theorem BC.c2 {W : World} {p : Nat} {x : Cd} {A : Option Addr} {c : Nat} (h : BC W p x A c) : W.cell? ⟨p, 2, none⟩ = some (.int .i64 x.data) := h.box.cell 2
theorem BC.c3 {W : World} {p : Nat} {x : Cd} {A : Option Addr} {c : Nat} (h : BC W p x A c) : W.cell? ⟨p, 3, none⟩ = some (.slice A x.par.length c) := h.box.cell 3
theorem la7 {w0 W : World} {o : Obj} (h : Below w0.heap.size w0 W) : Below w0.heap.size w0 (W.alloc o) := h.alloc h.size _
theorem ls7 {w0 P W : World} (h : Below w0.heap.size w0 P) (k : Below P.heap.size P W) : Below w0.heap.size w0 W := h.trans (k.mono h.size)
theorem isz5 : (Tryd.prog.info? 24).map (·.size) = some 5 := by kernel_rfl
theorem wpList_ldC {ops : Array Oper} {rest : List Oper} {o : Oper} {a : Act} {w : World} {Q : Exit → Act → World → Prop} (hw : Region.wanted o (yielded ops a.tmps) = true) (x : Operand) (ho : o.op = .load 24 x) {p : Nat} {y : Cd} {A : Option Addr} {c : Nat} (hx : a.eval x = .pointer (some ⟨p, 0, none⟩))
    (hp : Blk w p 24 (y.cs A c)) (h : wpList Tryd.prog ops Q rest (a.put o.dst (y.v A c)) w) : wpList Tryd.prog ops Q (o :: rest) a w :=
  wpList_get_g hw _ x ho p (y.cs A c) _ _ hx hp Tryd.underlying24 rfl isz5 h
theorem not_b (x : Bool) (w : World) : (Op.unary .not (.bool x)).run Tryd.prog w = .ok (.bool (!x)) w := rfl

def rowOk (m n : Int) (l : List Int) : Bool := decide ((l.length : Int) = n) && l.all (vd m) && l.any (fun a => decide (a ≠ 0))
def vC (x : Cd) : Bool := vd x.field 0 && decide (1 ≤ x.data) && decide (x.data + x.par.length ≤ 32) && x.par.all (rowOk x.field x.data)
def wC (x : Cd) : Int := if vC x = true then x.data + x.par.length else 0

theorem vd_field {m a : Int} (h : vd m a = true) : vd m 0 = true := by
  obtain ⟨k, x, rfl, rfl, hm, hx⟩ := vd_spec h
  exact vd_true (a := 0) hm (Nat.two_pow_pos k)
theorem vd_nonneg {m a : Int} (h : vd m a = true) : 0 ≤ a := by
  obtain ⟨k, x, rfl, rfl, hm, hx⟩ := vd_spec h
  omega

/-! ### the program's -/

theorem i_gtr (T : TypeId) (a b : Int) : binOp .gtr T (.int .i64 a) (.int .i64 b) = pure (.bool (decide (a > b))) := by
  rw [binOp_gtr]
theorem at_max {P : Program} {ops : Array Oper} {rest : List Oper} {Q : Exit → Act → World → Prop} {a : Act} {w : World} {xs : Array Operand} {ts : Array TypeId} {d t p f g}
    (h : wpList P ops Q ({ dst := d, op := .call { callee := .builtin .max, args := xs, argTypes := ts }, type := t, pos := p, after := f, guard := g } :: rest) a w) :
    wpList P ops Q ({ dst := d, op := .call { callee := .builtin .max, args := xs, argTypes := ts }, type := t, pos := p, after := f, guard := g } :: rest) a w := h

theorem wrong_any (x : Cd) (A : Option Addr) (c : Nat) (p : Nat) (w : World) (hT : Tabs w) (hb : BC w p x A c) (a : Int) :
    Calls Tryd.prog 65 #[.int .i64 a, .pointer (some ⟨p, 0, none⟩)] w fun e w' => e = .returned (.bool (!vd x.field a)) ∧ w = w' := by
  have c1 := hb.box.cell 1
  have HV := hideIt (valid_any x.field a w hT)
  have hnot := not_b
  clear hT hb
  go_enter Tryd.func65, Tryd.ntmps65
  go_wp2_with (go_at_call 45; refine HV.out.mono ?_; rintro e w' ⟨rfl, rfl⟩)
  go_ret
  exact ⟨rfl, rfl⟩
end Go.Proofs.YtpjgmekpnlpjaaaDoor
