/- Drawers of rows: the plain part. -/
import Derived.Test.YtmkfnhgaiheckaaDrw
import Derived.Test.YtmkfnhgaiheckaaIntR
import Derived.Test.YtmkfnhgaiheckaaOwnI
namespace Go.Proofs.Ytmkfnhgaiheckaa
open Go.ChangeShapes Go.WideShapes Go.ChangeAt Go.RowKit
set_option linter.unusedVariables false
set_option linter.unusedSimpArgs false
set_option maxHeartbeats 2000000

theorem infoDl : (Try.prog.info? 3).map (fun i => (i.zero, i.size, i.bytes)) = some (some (.int .i64 0), 1, 8) := by kernel_rfl
theorem Cur.base {B g base : Nat} {w w' : World} (h : Cur B g w) (hb : Below base w w') (hg : g < base) : Cur B g w' := by
  obtain ⟨a, len, cap, i, x, hblk, hg0, hi, hby⟩ := h
  exact ⟨a, len, cap, i, x, hblk.below hb hg, hg0, hi, hby.keep fun p hp => hb.cell (by omega)⟩
theorem St.base {B g base : Nat} {W0 w w' : World} (h : St B g W0 w) (hb : Below base w w') (hg : g < base) (h0 : W0.heap.size ≤ base) : St B g W0 w' :=
  ⟨h.1.base hb hg, hb.os.trans h.2.os, hb.tape.trans h.2.tape, hb.output.trans h.2.output, Nat.le_trans h.2.size hb.size, fun i hi hne => (hb.block i (by omega)).trans (h.2.block i hi hne)⟩
/-- a row of numbers, drawn -/
def GotL (B g : Nat) (W0 w : World) (lo hi : Nat) (P : Int → Prop) (e : Ending) (w' : World) : Prop :=
  ∃ (A : Option Addr) (c n : Nat) (xs : List Int), e = .returned (.slice A n c) ∧ lo ≤ n ∧ n ≤ hi ∧ (∀ i, i < n → P (xs.getD i 0)) ∧ w'.ownsRow w.heap.size 3 1 (.slice A n c) n (iv xs) ∧ St B g W0 w'
theorem getD_app (L : List Int) (m : Nat) (v : Int) (hl : L.length = m) (P : Int → Prop) (h : ∀ i, i < m → P (L.getD i 0)) (hv : P v) : ∀ i, i < m + 1 → P ((L ++ [v]).getD i 0) := fun i hi => by
  by_cases e : i < m
  · rw [show (L ++ [v]).getD i 0 = L.getD i 0 by simp [List.getD_eq_getElem?_getD, List.getElem?_append_left (by omega : i < L.length)]]
    exact h i e
  · obtain rfl : i = m := by omega
    rw [show (L ++ [v]).getD i 0 = v by simp [List.getD_eq_getElem?_getD, List.getElem?_append_right (by omega : L.length ≤ i), hl]]
    exact hv
theorem own_cap {w : World} {base n c : Nat} {e : TypeId} {A : Option Addr} {xs : List Value} (h : w.ownsRow base e 1 (.slice A n c) n xs) : n ≤ c := by
  rcases h.2 with ⟨h1, h2⟩ | ⟨g, cap, cur, hv, hg, hh, hnc, _⟩
  · omega
  · injection hv with _ _ h3; omega
end Go.Proofs.Ytmkfnhgaiheckaa
