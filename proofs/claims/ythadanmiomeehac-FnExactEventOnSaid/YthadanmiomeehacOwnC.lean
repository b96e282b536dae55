/- A row of numbers in one block, with a capacity; its marking. -/
import Derived.Test.YthadanmiomeehacOwnM
import Derived.Test.YthadanmiomeehacIntS
import Derived.Test.YthadanmiomeehacOwnI
namespace Go.Proofs.Ythadanmiomeehac
open Go.ChangeShapes Go.WideShapes Go.ChangeAt Go.RowKit
set_option linter.unusedVariables false
set_option linter.unusedSimpArgs false
set_option maxHeartbeats 2000000

/-- block g holds these numbers -/
def OwnC (w : World) (g n c : Nat) (xs : List Int) : Prop := w.ownsRow g 3 1 (.slice (some ⟨g, 0, none⟩) n c) n (iv xs)
section
variable {w w' : World} {g n c : Nat} {xs : List Int}
theorem OwnC.reads (h : OwnC w g n c xs) : ReadsI w (some ⟨g, 0, none⟩) n xs := reads_own_i h
theorem OwnC.lt (h : OwnC w g n c xs) : g < w.heap.size := own_lt h g rfl
theorem OwnC.len (h : OwnC w g n c xs) : xs.length = n := own_len_i h
theorem OwnC.step (h : OwnC w g n c xs) (hb : Below w.heap.size w w') : OwnC w' g n c xs := own_step h hb
theorem OwnC.below {B : Nat} (h : OwnC w g n c xs) (hb : Below B w w') (hg : g < B) : OwnC w' g n c xs := own_below_at h hb (fun j hj => by simp [Value.ownBlock] at hj; omega)
theorem OwnC.alloc (h : OwnC w g n c xs) (o : Obj) : OwnC (w.alloc o) g n c xs := h.step ((Below.refl _ w).alloc (Nat.le_refl _) o)
theorem OwnC.drew (h : OwnC w g n c xs) : OwnC w.drew g n c xs := h.step (Below.refl _ w).drew
theorem OwnC.drewN (h : OwnC w g n c xs) (q : Nat) : OwnC (w.drewN q) g n c xs := h.step (below_drewN (Below.refl _ w) q)
theorem OwnC.blk (h : OwnC w g n c xs) : ∃ cur : Array Value, Blk w g 3 cur := by
  rcases h.2 with ⟨hn, _⟩ | ⟨g2, cap, cur, hv, hg, hh, rest⟩
  · cases hn
  · injection hv with h1 h2 h3
    injection h1 with h1
    injection h1 with h1
    subst h1
    exact ⟨cur, hh⟩
theorem OwnC.ne {g' : Nat} {t : TypeId} {cs : Array Value} (h : OwnC w g n c xs) (hk : Blk w g' t cs) (ht : t ≠ 3) : g ≠ g' := by
  intro e
  subst e
  obtain ⟨cur, hb⟩ := h.blk
  have := hb.symm.trans hk
  injection this with this
  injection this with _ h2 _
  exact ht h2.symm
theorem OwnC.only {g' : Nat} (h : OwnC w g n c xs) (hb : w.grownBy w' (some g')) (hne : g ≠ g') : OwnC w' g n c xs := by
  have hl := OwnC.lt h
  refine ⟨h.1, ?_⟩
  rcases h.2 with ⟨hn, _⟩ | ⟨g2, cap, cur, hv, hg', hh, rest⟩
  · cases hn
  · injection hv with h1 h2 h3
    injection h1 with h1
    injection h1 with h1
    subst h1
    exact .inr ⟨g, cap, cur, by rw [h3], hg', (hb.block g hl (fun e => by injection e; omega)).trans hh, rest⟩
theorem OwnC.far {g' : Nat} {t : TypeId} {cs : Array Value} (h : OwnC w g n c xs) (hk : Blk w g' t cs) (ht : t ≠ 3) (hb : w.grownBy w' (some g')) : OwnC w' g n c xs := h.only hb (h.ne hk ht)
theorem OwnC.base {B : Nat} (h : OwnC w g n c xs) (hB : B ≤ g) : w.ownsRow B 3 1 (.slice (some ⟨g, 0, none⟩) n c) n (iv xs) := own_base h hB
end
theorem only_set {w : World} (p : Addr) (u : Value) : w.grownBy (w.setCell p u) (some p.block) := only_setCell (only_refl w _) (.inl rfl) u
/-- what marking leaves -/
def MarkedC (g k n c : Nat) (w : World) (e : Ending) (w' : World) : Prop := e = .returned (.int .i64 ((k + n : Nat) : Int)) ∧ OwnC w' g n c (marksI k n) ∧ w.grownBy w' (some g)
end Go.Proofs.Ythadanmiomeehac
