/- Drawers of flat structs. -/
import Derived.Test.YtmkfnhgaiheckaaCur
import Derived.Test.YtmkfnhgaiheckaaAt
import Derived.Test.YtmkfnhgaiheckaaVal
namespace Go.Proofs.Ytmkfnhgaiheckaa
open Go.ChangeShapes Go.WideShapes Go.ChangeAt Go.RowKit
set_option linter.unusedVariables false
set_option linter.unusedSimpArgs false
set_option maxHeartbeats 2000000

theorem bytes_of {w : World} {a : Option Addr} {len : Nat} (h : ReadsU w a len) : Bytes w w.heap.size a len :=
  ⟨h.1, fun k hk => by
    obtain ⟨ad, x, e, hc, h0, h1⟩ := h.2 k hk
    exact ⟨ad, x, e, by have := cell_lt hc; rw [block_of_add] at this; exact this, hc, h0, by omega⟩⟩
theorem Bytes.alloc' {w : World} {a : Option Addr} {len : Nat} (h : Bytes w w.heap.size a len) (o : Obj) : Bytes (w.alloc o) (w.alloc o).heap.size a len :=
  ⟨h.1, fun k hk => by
    obtain ⟨ad, x, e, hb, hc, h0⟩ := h.2 k hk
    exact ⟨ad, x, e, by simp; omega, (World.cell?_alloc_lt _ _ _ (by rw [block_of_add]; exact hb)).trans hc, h0⟩⟩
theorem Cur.far {B g : Nat} {w : World} {p : Addr} (h : Cur B g w) (hne : g ≠ p.block) (hp : B ≤ p.block) (v : Value) : Cur B g (w.setCell p v) := by
  obtain ⟨a, len, cap, i, x, hblk, hg, hi, hby⟩ := h
  exact ⟨a, len, cap, i, x, hblk.far hne v, hg, hi, hby.keep fun q hq => World.cell?_setCell_other _ _ _ _ (fun e => by subst e; omega)⟩
def GotRack (B g : Nat) (W0 : World) (e : Ending) (w' : World) : Prop := ∃ x0 x1 x2 : Int, ((0 ≤ x0 ∧ x0 < 60) ∧ (0 ≤ x1 ∧ x1 < 30) ∧ (0 ≤ x2 ∧ x2 < 15)) ∧ e = .returned (.agg #[.int .i64 x0, .int .i64 x1, .int .i64 x2]) ∧ St B g W0 w'
def GotCard (B g : Nat) (W0 : World) (e : Ending) (w' : World) : Prop := ∃ x0 x1 : Int, ((0 ≤ x0 ∧ x0 < 10) ∧ (0 ≤ x1 ∧ x1 < 5)) ∧ e = .returned (.agg #[.int .i64 x0, .int .i64 x1]) ∧ St B g W0 w'
def GotDough (B g : Nat) (W0 : World) (e : Ending) (w' : World) : Prop := ∃ x0 x1 x2 : Int, ((0 ≤ x0 ∧ x0 < 250) ∧ (0 ≤ x1 ∧ x1 < 10) ∧ (0 ≤ x2 ∧ x2 < 250)) ∧ e = .returned (.agg #[.int .i64 (550 + x0), .int .i64 (15 + x1), .int .i64 x2]) ∧ St B g W0 w'
def GotLoaf (B g : Nat) (W0 : World) (e : Ending) (w' : World) : Prop := ∃ x0 x1 : Int, ((0 ≤ x0 ∧ x0 < 250) ∧ (0 ≤ x1 ∧ x1 < 25)) ∧ e = .returned (.agg #[.int .i64 (50 + 4 * x0), .int .i64 x1]) ∧ St B g W0 w'
def GotCost (B g : Nat) (W0 : World) (e : Ending) (w' : World) : Prop := ∃ x0 x1 x2 : Int, ((0 ≤ x0 ∧ x0 < 250) ∧ (0 ≤ x1 ∧ x1 < 250) ∧ (0 ≤ x2 ∧ x2 < 100)) ∧ e = .returned (.agg #[.int .i64 x0, .int .i64 x1, .int .i64 x2]) ∧ St B g W0 w'
def GotLeaven (B g : Nat) (W0 : World) (e : Ending) (w' : World) : Prop := ∃ x0 x1 : Int, ((0 ≤ x0 ∧ x0 < 250) ∧ (0 ≤ x1 ∧ x1 < 20)) ∧ e = .returned (.agg #[.int .i64 (1 + x0), .int .i64 x1]) ∧ St B g W0 w'
end Go.Proofs.Ytmkfnhgaiheckaa
