/- A slice of ints of the call's own, in one block: its copy, its marking. -/
import Derived.Test.YtmkfnhgaiheckaaIntI
import Derived.Test.YtmkfnhgaiheckaaIntE
import Derived.Test.YtmkfnhgaiheckaaIntT
namespace Go.Proofs.Ytmkfnhgaiheckaa
open Go.ChangeShapes Go.WideShapes Go.ChangeAt Go.RowKit
set_option linter.unusedVariables false
set_option linter.unusedSimpArgs false
def OwnInt (w : World) (g n : Nat) (xs : List Int) : Prop := w.ownsRow g 3 1 (.slice (some ⟨g, 0, none⟩) n n) n (iv xs)
section
variable {w w' : World} {g n : Nat} {xs : List Int}
theorem OwnInt.reads (h : OwnInt w g n xs) : ReadsI w (some ⟨g, 0, none⟩) n xs := reads_own_i h
theorem OwnInt.lt (h : OwnInt w g n xs) : g < w.heap.size := own_lt h g rfl
theorem OwnInt.step (h : OwnInt w g n xs) (hb : Below w.heap.size w w') : OwnInt w' g n xs := own_step h hb
theorem OwnInt.below {B : Nat} (h : OwnInt w g n xs) (hb : Below B w w') (hg : g < B) : OwnInt w' g n xs := own_below_at h hb (fun j hj => by simp [Value.ownBlock] at hj; omega)
theorem OwnInt.alloc (h : OwnInt w g n xs) (o : Obj) : OwnInt (w.alloc o) g n xs := h.step ((Below.refl _ w).alloc (Nat.le_refl _) o)
theorem OwnInt.drew (h : OwnInt w g n xs) : OwnInt w.drew g n xs := h.step (Below.refl _ w).drew
theorem OwnInt.only {g' : Nat} (h : OwnInt w g n xs) (hb : w.grownBy w' (some g')) (hne : g ≠ g') : OwnInt w' g n xs := by
  have hl := OwnInt.lt h
  refine ⟨h.1, ?_⟩
  rcases h.2 with ⟨hn, _⟩ | ⟨g2, cap, cur, hv, hg', hh, rest⟩
  · cases hn
  · injection hv with h1 h2 h3
    injection h1 with h1
    injection h1 with h1
    subst h1
    exact .inr ⟨g, cap, cur, by rw [h3], hg', (hb.block g hl (fun e => by injection e; omega)).trans hh, rest⟩
theorem OwnInt.blk (h : OwnInt w g n xs) : ∃ cur : Array Value, Blk w g 3 cur ∧ cur.size = n := by
  rcases h.2 with ⟨hn, _⟩ | ⟨g2, cap, cur, hv, hg, hh, hnc, hcp, hcs, htake⟩
  · cases hn
  · injection hv with h1 h2 h3
    injection h1 with h1
    injection h1 with h1
    subst h1 h3
    exact ⟨cur, hh, by omega⟩
end
def RowInt (xs : List Int) (w : World) (e : Ending) (w' : World) : Prop :=
  ∃ g, e = .returned (.slice (some ⟨g, 0, none⟩) xs.length xs.length) ∧ OwnInt w' g xs.length xs ∧ w.heap.size ≤ g ∧ Below w.heap.size w w'
/-- a row of ints and one value more -/
def RowV (zs : List Int) (v : Value) (w : World) (e : Ending) (w' : World) : Prop :=
  ∃ A c, e = .returned (.tuple #[.slice A zs.length c, v]) ∧ w'.ownsRow w.heap.size 3 1 (.slice A zs.length c) zs.length (iv zs) ∧ Below w.heap.size w w'
/-- only block g has turned -/
def Only (g : Nat) (v : Value) (w : World) (e : Ending) (w' : World) : Prop := e = .returned v ∧ w.grownBy w' (some g)
theorem eqIntS_c (A B : Option Addr) (n c d : Nat) (xs : List Int) (w : World) (hn : n ≤ maxLen) (hx : ReadsI w A n xs) (hy : ReadsI w B n xs) :
    Calls Try.prog 61 #[.slice A n c, .slice B n d] w (Val (.bool true) w) := eqI_c A B n c d xs w hn hx hy
theorem toIntS_c (A : Option Addr) (n c : Nat) (xs : List Int) (w : World) (hn : (n : Int) ≤ 10000000) (hx : ReadsI w A n xs) :
    Calls Try.prog 71 #[.slice A n c] w (RowInt xs w) := toI_at A n c xs w hn hx
end Go.Proofs.Ytmkfnhgaiheckaa
