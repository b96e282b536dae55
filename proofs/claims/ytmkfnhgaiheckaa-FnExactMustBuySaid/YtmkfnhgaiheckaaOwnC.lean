/- A row of numbers in one block, with a capacity; its marking. -/
import Derived.Test.YtmkfnhgaiheckaaOwnM
import Derived.Test.YtmkfnhgaiheckaaIntS
import Derived.Test.YtmkfnhgaiheckaaOwnI
namespace Go.Proofs.Ytmkfnhgaiheckaa
open Go.ChangeShapes Go.WideShapes Go.ChangeAt Go.RowKit
set_option linter.unusedVariables false
set_option linter.unusedSimpArgs false
set_option maxHeartbeats 2000000

/-- block g holds these numbers -/
def OwnC (w : World) (g n c : Nat) (xs : List Int) : Prop := w.ownsRow g 3 1 (.slice (some ⟨g, 0, none⟩) n c) n (iv xs)
section
variable {w w' : World} {g n c : Nat} {xs : List Int}
theorem OwnC.reads (h : OwnC w g n c xs) : ReadsI w (some ⟨g, 0, none⟩) n xs := reads_own_i h
theorem OwnC.lt (h : OwnC w g n c xs) : g < w.heap.size := own_lt h g rfl
theorem OwnC.len (h : OwnC w g n c xs) : xs.length = n := own_len_i h
theorem OwnC.step (h : OwnC w g n c xs) (hb : Below w.heap.size w w') : OwnC w' g n c xs := own_step h hb
theorem OwnC.below {B : Nat} (h : OwnC w g n c xs) (hb : Below B w w') (hg : g < B) : OwnC w' g n c xs := own_below_at h hb (fun j hj => by simp [Value.ownBlock] at hj; omega)
theorem OwnC.alloc (h : OwnC w g n c xs) (o : Obj) : OwnC (w.alloc o) g n c xs := h.step ((Below.refl _ w).alloc (Nat.le_refl _) o)
theorem OwnC.drew (h : OwnC w g n c xs) : OwnC w.drew g n c xs := h.step (Below.refl _ w).drew
theorem OwnC.drewN (h : OwnC w g n c xs) (q : Nat) : OwnC (w.drewN q) g n c xs := h.step (below_drewN (Below.refl _ w) q)
theorem OwnC.blk (h : OwnC w g n c xs) : ∃ cur : Array Value, Blk w g 3 cur := by
  rcases h.2 with ⟨hn, _⟩ | ⟨g2, cap, cur, hv, hg, hh, rest⟩
  · cases hn
  · injection hv with h1 h2 h3
    injection h1 with h1
    injection h1 with h1
    subst h1
    exact ⟨cur, hh⟩
theorem OwnC.ne {g' : Nat} {t : TypeId} {cs : Array Value} (h : OwnC w g n c xs) (hk : Blk w g' t cs) (ht : t ≠ 3) : g ≠ g' := by
  intro e
  subst e
  obtain ⟨cur, hb⟩ := h.blk
  have := hb.symm.trans hk
  injection this with this
  injection this with _ h2 _
  exact ht h2.symm
theorem OwnC.only {g' : Nat} (h : OwnC w g n c xs) (hb : w.grownBy w' (some g')) (hne : g ≠ g') : OwnC w' g n c xs := by
  have hl := OwnC.lt h
  refine ⟨h.1, ?_⟩
  rcases h.2 with ⟨hn, _⟩ | ⟨g2, cap, cur, hv, hg', hh, rest⟩
  · cases hn
  · injection hv with h1 h2 h3
    injection h1 with h1
    injection h1 with h1
    subst h1
    exact .inr ⟨g, cap, cur, by rw [h3], hg', (hb.block g hl (fun e => by injection e; omega)).trans hh, rest⟩
theorem OwnC.far {g' : Nat} {t : TypeId} {cs : Array Value} (h : OwnC w g n c xs) (hk : Blk w g' t cs) (ht : t ≠ 3) (hb : w.grownBy w' (some g')) : OwnC w' g n c xs := h.only hb (h.ne hk ht)
theorem OwnC.base {B : Nat} (h : OwnC w g n c xs) (hB : B ≤ g) : w.ownsRow B 3 1 (.slice (some ⟨g, 0, none⟩) n c) n (iv xs) := own_base h hB
end
theorem only_set {w : World} (p : Addr) (u : Value) : w.grownBy (w.setCell p u) (some p.block) := only_setCell (only_refl w _) (.inl rfl) u
theorem only1 {w : World} {b j0 : Nat} {v0 : Value} : w.grownBy (w.setCell ⟨b, j0, none⟩ v0) (some b) := only_setCell (only_refl _ _) (p := ⟨b, j0, none⟩) (.inl rfl) v0
theorem ins1 {B : Nat} {a w : World} {b j0 : Nat} {v0 : Value} (h : In B a w) (hb : B ≤ b) : In B a (w.setCell ⟨b, j0, none⟩ v0) := In.set_ h (p := ⟨b, j0, none⟩) hb v0
theorem only2 {w : World} {b j0 j1 : Nat} {v0 v1 : Value} : w.grownBy ((w.setCell ⟨b, j0, none⟩ v0).setCell ⟨b, j1, none⟩ v1) (some b) := only_setCell (only_setCell (only_refl _ _) (p := ⟨b, j0, none⟩) (.inl rfl) v0) (p := ⟨b, j1, none⟩) (.inl rfl) v1
theorem ins2 {B : Nat} {a w : World} {b j0 j1 : Nat} {v0 v1 : Value} (h : In B a w) (hb : B ≤ b) : In B a ((w.setCell ⟨b, j0, none⟩ v0).setCell ⟨b, j1, none⟩ v1) := In.set_ (In.set_ h (p := ⟨b, j0, none⟩) hb v0) (p := ⟨b, j1, none⟩) hb v1
theorem only3 {w : World} {b j0 j1 j2 : Nat} {v0 v1 v2 : Value} : w.grownBy (((w.setCell ⟨b, j0, none⟩ v0).setCell ⟨b, j1, none⟩ v1).setCell ⟨b, j2, none⟩ v2) (some b) := only_setCell (only_setCell (only_setCell (only_refl _ _) (p := ⟨b, j0, none⟩) (.inl rfl) v0) (p := ⟨b, j1, none⟩) (.inl rfl) v1) (p := ⟨b, j2, none⟩) (.inl rfl) v2
theorem ins3 {B : Nat} {a w : World} {b j0 j1 j2 : Nat} {v0 v1 v2 : Value} (h : In B a w) (hb : B ≤ b) : In B a (((w.setCell ⟨b, j0, none⟩ v0).setCell ⟨b, j1, none⟩ v1).setCell ⟨b, j2, none⟩ v2) := In.set_ (In.set_ (In.set_ h (p := ⟨b, j0, none⟩) hb v0) (p := ⟨b, j1, none⟩) hb v1) (p := ⟨b, j2, none⟩) hb v2
theorem only4 {w : World} {b j0 j1 j2 j3 : Nat} {v0 v1 v2 v3 : Value} : w.grownBy ((((w.setCell ⟨b, j0, none⟩ v0).setCell ⟨b, j1, none⟩ v1).setCell ⟨b, j2, none⟩ v2).setCell ⟨b, j3, none⟩ v3) (some b) := only_setCell (only_setCell (only_setCell (only_setCell (only_refl _ _) (p := ⟨b, j0, none⟩) (.inl rfl) v0) (p := ⟨b, j1, none⟩) (.inl rfl) v1) (p := ⟨b, j2, none⟩) (.inl rfl) v2) (p := ⟨b, j3, none⟩) (.inl rfl) v3
theorem ins4 {B : Nat} {a w : World} {b j0 j1 j2 j3 : Nat} {v0 v1 v2 v3 : Value} (h : In B a w) (hb : B ≤ b) : In B a ((((w.setCell ⟨b, j0, none⟩ v0).setCell ⟨b, j1, none⟩ v1).setCell ⟨b, j2, none⟩ v2).setCell ⟨b, j3, none⟩ v3) := In.set_ (In.set_ (In.set_ (In.set_ h (p := ⟨b, j0, none⟩) hb v0) (p := ⟨b, j1, none⟩) hb v1) (p := ⟨b, j2, none⟩) hb v2) (p := ⟨b, j3, none⟩) hb v3
theorem only5 {w : World} {b j0 j1 j2 j3 j4 : Nat} {v0 v1 v2 v3 v4 : Value} : w.grownBy (((((w.setCell ⟨b, j0, none⟩ v0).setCell ⟨b, j1, none⟩ v1).setCell ⟨b, j2, none⟩ v2).setCell ⟨b, j3, none⟩ v3).setCell ⟨b, j4, none⟩ v4) (some b) := only_setCell (only_setCell (only_setCell (only_setCell (only_setCell (only_refl _ _) (p := ⟨b, j0, none⟩) (.inl rfl) v0) (p := ⟨b, j1, none⟩) (.inl rfl) v1) (p := ⟨b, j2, none⟩) (.inl rfl) v2) (p := ⟨b, j3, none⟩) (.inl rfl) v3) (p := ⟨b, j4, none⟩) (.inl rfl) v4
theorem ins5 {B : Nat} {a w : World} {b j0 j1 j2 j3 j4 : Nat} {v0 v1 v2 v3 v4 : Value} (h : In B a w) (hb : B ≤ b) : In B a (((((w.setCell ⟨b, j0, none⟩ v0).setCell ⟨b, j1, none⟩ v1).setCell ⟨b, j2, none⟩ v2).setCell ⟨b, j3, none⟩ v3).setCell ⟨b, j4, none⟩ v4) := In.set_ (In.set_ (In.set_ (In.set_ (In.set_ h (p := ⟨b, j0, none⟩) hb v0) (p := ⟨b, j1, none⟩) hb v1) (p := ⟨b, j2, none⟩) hb v2) (p := ⟨b, j3, none⟩) hb v3) (p := ⟨b, j4, none⟩) hb v4
theorem only6 {w : World} {b j0 j1 j2 j3 j4 j5 : Nat} {v0 v1 v2 v3 v4 v5 : Value} : w.grownBy ((((((w.setCell ⟨b, j0, none⟩ v0).setCell ⟨b, j1, none⟩ v1).setCell ⟨b, j2, none⟩ v2).setCell ⟨b, j3, none⟩ v3).setCell ⟨b, j4, none⟩ v4).setCell ⟨b, j5, none⟩ v5) (some b) := only_setCell (only_setCell (only_setCell (only_setCell (only_setCell (only_setCell (only_refl _ _) (p := ⟨b, j0, none⟩) (.inl rfl) v0) (p := ⟨b, j1, none⟩) (.inl rfl) v1) (p := ⟨b, j2, none⟩) (.inl rfl) v2) (p := ⟨b, j3, none⟩) (.inl rfl) v3) (p := ⟨b, j4, none⟩) (.inl rfl) v4) (p := ⟨b, j5, none⟩) (.inl rfl) v5
theorem ins6 {B : Nat} {a w : World} {b j0 j1 j2 j3 j4 j5 : Nat} {v0 v1 v2 v3 v4 v5 : Value} (h : In B a w) (hb : B ≤ b) : In B a ((((((w.setCell ⟨b, j0, none⟩ v0).setCell ⟨b, j1, none⟩ v1).setCell ⟨b, j2, none⟩ v2).setCell ⟨b, j3, none⟩ v3).setCell ⟨b, j4, none⟩ v4).setCell ⟨b, j5, none⟩ v5) := In.set_ (In.set_ (In.set_ (In.set_ (In.set_ (In.set_ h (p := ⟨b, j0, none⟩) hb v0) (p := ⟨b, j1, none⟩) hb v1) (p := ⟨b, j2, none⟩) hb v2) (p := ⟨b, j3, none⟩) hb v3) (p := ⟨b, j4, none⟩) hb v4) (p := ⟨b, j5, none⟩) hb v5
theorem only7 {w : World} {b j0 j1 j2 j3 j4 j5 j6 : Nat} {v0 v1 v2 v3 v4 v5 v6 : Value} : w.grownBy (((((((w.setCell ⟨b, j0, none⟩ v0).setCell ⟨b, j1, none⟩ v1).setCell ⟨b, j2, none⟩ v2).setCell ⟨b, j3, none⟩ v3).setCell ⟨b, j4, none⟩ v4).setCell ⟨b, j5, none⟩ v5).setCell ⟨b, j6, none⟩ v6) (some b) := only_setCell (only_setCell (only_setCell (only_setCell (only_setCell (only_setCell (only_setCell (only_refl _ _) (p := ⟨b, j0, none⟩) (.inl rfl) v0) (p := ⟨b, j1, none⟩) (.inl rfl) v1) (p := ⟨b, j2, none⟩) (.inl rfl) v2) (p := ⟨b, j3, none⟩) (.inl rfl) v3) (p := ⟨b, j4, none⟩) (.inl rfl) v4) (p := ⟨b, j5, none⟩) (.inl rfl) v5) (p := ⟨b, j6, none⟩) (.inl rfl) v6
theorem ins7 {B : Nat} {a w : World} {b j0 j1 j2 j3 j4 j5 j6 : Nat} {v0 v1 v2 v3 v4 v5 v6 : Value} (h : In B a w) (hb : B ≤ b) : In B a (((((((w.setCell ⟨b, j0, none⟩ v0).setCell ⟨b, j1, none⟩ v1).setCell ⟨b, j2, none⟩ v2).setCell ⟨b, j3, none⟩ v3).setCell ⟨b, j4, none⟩ v4).setCell ⟨b, j5, none⟩ v5).setCell ⟨b, j6, none⟩ v6) := In.set_ (In.set_ (In.set_ (In.set_ (In.set_ (In.set_ (In.set_ h (p := ⟨b, j0, none⟩) hb v0) (p := ⟨b, j1, none⟩) hb v1) (p := ⟨b, j2, none⟩) hb v2) (p := ⟨b, j3, none⟩) hb v3) (p := ⟨b, j4, none⟩) hb v4) (p := ⟨b, j5, none⟩) hb v5) (p := ⟨b, j6, none⟩) hb v6
theorem only8 {w : World} {b j0 j1 j2 j3 j4 j5 j6 j7 : Nat} {v0 v1 v2 v3 v4 v5 v6 v7 : Value} : w.grownBy ((((((((w.setCell ⟨b, j0, none⟩ v0).setCell ⟨b, j1, none⟩ v1).setCell ⟨b, j2, none⟩ v2).setCell ⟨b, j3, none⟩ v3).setCell ⟨b, j4, none⟩ v4).setCell ⟨b, j5, none⟩ v5).setCell ⟨b, j6, none⟩ v6).setCell ⟨b, j7, none⟩ v7) (some b) := only_setCell (only_setCell (only_setCell (only_setCell (only_setCell (only_setCell (only_setCell (only_setCell (only_refl _ _) (p := ⟨b, j0, none⟩) (.inl rfl) v0) (p := ⟨b, j1, none⟩) (.inl rfl) v1) (p := ⟨b, j2, none⟩) (.inl rfl) v2) (p := ⟨b, j3, none⟩) (.inl rfl) v3) (p := ⟨b, j4, none⟩) (.inl rfl) v4) (p := ⟨b, j5, none⟩) (.inl rfl) v5) (p := ⟨b, j6, none⟩) (.inl rfl) v6) (p := ⟨b, j7, none⟩) (.inl rfl) v7
theorem ins8 {B : Nat} {a w : World} {b j0 j1 j2 j3 j4 j5 j6 j7 : Nat} {v0 v1 v2 v3 v4 v5 v6 v7 : Value} (h : In B a w) (hb : B ≤ b) : In B a ((((((((w.setCell ⟨b, j0, none⟩ v0).setCell ⟨b, j1, none⟩ v1).setCell ⟨b, j2, none⟩ v2).setCell ⟨b, j3, none⟩ v3).setCell ⟨b, j4, none⟩ v4).setCell ⟨b, j5, none⟩ v5).setCell ⟨b, j6, none⟩ v6).setCell ⟨b, j7, none⟩ v7) := In.set_ (In.set_ (In.set_ (In.set_ (In.set_ (In.set_ (In.set_ (In.set_ h (p := ⟨b, j0, none⟩) hb v0) (p := ⟨b, j1, none⟩) hb v1) (p := ⟨b, j2, none⟩) hb v2) (p := ⟨b, j3, none⟩) hb v3) (p := ⟨b, j4, none⟩) hb v4) (p := ⟨b, j5, none⟩) hb v5) (p := ⟨b, j6, none⟩) hb v6) (p := ⟨b, j7, none⟩) hb v7
theorem only9 {w : World} {b j0 j1 j2 j3 j4 j5 j6 j7 j8 : Nat} {v0 v1 v2 v3 v4 v5 v6 v7 v8 : Value} : w.grownBy (((((((((w.setCell ⟨b, j0, none⟩ v0).setCell ⟨b, j1, none⟩ v1).setCell ⟨b, j2, none⟩ v2).setCell ⟨b, j3, none⟩ v3).setCell ⟨b, j4, none⟩ v4).setCell ⟨b, j5, none⟩ v5).setCell ⟨b, j6, none⟩ v6).setCell ⟨b, j7, none⟩ v7).setCell ⟨b, j8, none⟩ v8) (some b) := only_setCell (only_setCell (only_setCell (only_setCell (only_setCell (only_setCell (only_setCell (only_setCell (only_setCell (only_refl _ _) (p := ⟨b, j0, none⟩) (.inl rfl) v0) (p := ⟨b, j1, none⟩) (.inl rfl) v1) (p := ⟨b, j2, none⟩) (.inl rfl) v2) (p := ⟨b, j3, none⟩) (.inl rfl) v3) (p := ⟨b, j4, none⟩) (.inl rfl) v4) (p := ⟨b, j5, none⟩) (.inl rfl) v5) (p := ⟨b, j6, none⟩) (.inl rfl) v6) (p := ⟨b, j7, none⟩) (.inl rfl) v7) (p := ⟨b, j8, none⟩) (.inl rfl) v8
theorem ins9 {B : Nat} {a w : World} {b j0 j1 j2 j3 j4 j5 j6 j7 j8 : Nat} {v0 v1 v2 v3 v4 v5 v6 v7 v8 : Value} (h : In B a w) (hb : B ≤ b) : In B a (((((((((w.setCell ⟨b, j0, none⟩ v0).setCell ⟨b, j1, none⟩ v1).setCell ⟨b, j2, none⟩ v2).setCell ⟨b, j3, none⟩ v3).setCell ⟨b, j4, none⟩ v4).setCell ⟨b, j5, none⟩ v5).setCell ⟨b, j6, none⟩ v6).setCell ⟨b, j7, none⟩ v7).setCell ⟨b, j8, none⟩ v8) := In.set_ (In.set_ (In.set_ (In.set_ (In.set_ (In.set_ (In.set_ (In.set_ (In.set_ h (p := ⟨b, j0, none⟩) hb v0) (p := ⟨b, j1, none⟩) hb v1) (p := ⟨b, j2, none⟩) hb v2) (p := ⟨b, j3, none⟩) hb v3) (p := ⟨b, j4, none⟩) hb v4) (p := ⟨b, j5, none⟩) hb v5) (p := ⟨b, j6, none⟩) hb v6) (p := ⟨b, j7, none⟩) hb v7) (p := ⟨b, j8, none⟩) hb v8
theorem only10 {w : World} {b j0 j1 j2 j3 j4 j5 j6 j7 j8 j9 : Nat} {v0 v1 v2 v3 v4 v5 v6 v7 v8 v9 : Value} : w.grownBy ((((((((((w.setCell ⟨b, j0, none⟩ v0).setCell ⟨b, j1, none⟩ v1).setCell ⟨b, j2, none⟩ v2).setCell ⟨b, j3, none⟩ v3).setCell ⟨b, j4, none⟩ v4).setCell ⟨b, j5, none⟩ v5).setCell ⟨b, j6, none⟩ v6).setCell ⟨b, j7, none⟩ v7).setCell ⟨b, j8, none⟩ v8).setCell ⟨b, j9, none⟩ v9) (some b) := only_setCell (only_setCell (only_setCell (only_setCell (only_setCell (only_setCell (only_setCell (only_setCell (only_setCell (only_setCell (only_refl _ _) (p := ⟨b, j0, none⟩) (.inl rfl) v0) (p := ⟨b, j1, none⟩) (.inl rfl) v1) (p := ⟨b, j2, none⟩) (.inl rfl) v2) (p := ⟨b, j3, none⟩) (.inl rfl) v3) (p := ⟨b, j4, none⟩) (.inl rfl) v4) (p := ⟨b, j5, none⟩) (.inl rfl) v5) (p := ⟨b, j6, none⟩) (.inl rfl) v6) (p := ⟨b, j7, none⟩) (.inl rfl) v7) (p := ⟨b, j8, none⟩) (.inl rfl) v8) (p := ⟨b, j9, none⟩) (.inl rfl) v9
theorem ins10 {B : Nat} {a w : World} {b j0 j1 j2 j3 j4 j5 j6 j7 j8 j9 : Nat} {v0 v1 v2 v3 v4 v5 v6 v7 v8 v9 : Value} (h : In B a w) (hb : B ≤ b) : In B a ((((((((((w.setCell ⟨b, j0, none⟩ v0).setCell ⟨b, j1, none⟩ v1).setCell ⟨b, j2, none⟩ v2).setCell ⟨b, j3, none⟩ v3).setCell ⟨b, j4, none⟩ v4).setCell ⟨b, j5, none⟩ v5).setCell ⟨b, j6, none⟩ v6).setCell ⟨b, j7, none⟩ v7).setCell ⟨b, j8, none⟩ v8).setCell ⟨b, j9, none⟩ v9) := In.set_ (In.set_ (In.set_ (In.set_ (In.set_ (In.set_ (In.set_ (In.set_ (In.set_ (In.set_ h (p := ⟨b, j0, none⟩) hb v0) (p := ⟨b, j1, none⟩) hb v1) (p := ⟨b, j2, none⟩) hb v2) (p := ⟨b, j3, none⟩) hb v3) (p := ⟨b, j4, none⟩) hb v4) (p := ⟨b, j5, none⟩) hb v5) (p := ⟨b, j6, none⟩) hb v6) (p := ⟨b, j7, none⟩) hb v7) (p := ⟨b, j8, none⟩) hb v8) (p := ⟨b, j9, none⟩) hb v9
theorem only11 {w : World} {b j0 j1 j2 j3 j4 j5 j6 j7 j8 j9 j10 : Nat} {v0 v1 v2 v3 v4 v5 v6 v7 v8 v9 v10 : Value} : w.grownBy (((((((((((w.setCell ⟨b, j0, none⟩ v0).setCell ⟨b, j1, none⟩ v1).setCell ⟨b, j2, none⟩ v2).setCell ⟨b, j3, none⟩ v3).setCell ⟨b, j4, none⟩ v4).setCell ⟨b, j5, none⟩ v5).setCell ⟨b, j6, none⟩ v6).setCell ⟨b, j7, none⟩ v7).setCell ⟨b, j8, none⟩ v8).setCell ⟨b, j9, none⟩ v9).setCell ⟨b, j10, none⟩ v10) (some b) := only_setCell (only_setCell (only_setCell (only_setCell (only_setCell (only_setCell (only_setCell (only_setCell (only_setCell (only_setCell (only_setCell (only_refl _ _) (p := ⟨b, j0, none⟩) (.inl rfl) v0) (p := ⟨b, j1, none⟩) (.inl rfl) v1) (p := ⟨b, j2, none⟩) (.inl rfl) v2) (p := ⟨b, j3, none⟩) (.inl rfl) v3) (p := ⟨b, j4, none⟩) (.inl rfl) v4) (p := ⟨b, j5, none⟩) (.inl rfl) v5) (p := ⟨b, j6, none⟩) (.inl rfl) v6) (p := ⟨b, j7, none⟩) (.inl rfl) v7) (p := ⟨b, j8, none⟩) (.inl rfl) v8) (p := ⟨b, j9, none⟩) (.inl rfl) v9) (p := ⟨b, j10, none⟩) (.inl rfl) v10
theorem ins11 {B : Nat} {a w : World} {b j0 j1 j2 j3 j4 j5 j6 j7 j8 j9 j10 : Nat} {v0 v1 v2 v3 v4 v5 v6 v7 v8 v9 v10 : Value} (h : In B a w) (hb : B ≤ b) : In B a (((((((((((w.setCell ⟨b, j0, none⟩ v0).setCell ⟨b, j1, none⟩ v1).setCell ⟨b, j2, none⟩ v2).setCell ⟨b, j3, none⟩ v3).setCell ⟨b, j4, none⟩ v4).setCell ⟨b, j5, none⟩ v5).setCell ⟨b, j6, none⟩ v6).setCell ⟨b, j7, none⟩ v7).setCell ⟨b, j8, none⟩ v8).setCell ⟨b, j9, none⟩ v9).setCell ⟨b, j10, none⟩ v10) := In.set_ (In.set_ (In.set_ (In.set_ (In.set_ (In.set_ (In.set_ (In.set_ (In.set_ (In.set_ (In.set_ h (p := ⟨b, j0, none⟩) hb v0) (p := ⟨b, j1, none⟩) hb v1) (p := ⟨b, j2, none⟩) hb v2) (p := ⟨b, j3, none⟩) hb v3) (p := ⟨b, j4, none⟩) hb v4) (p := ⟨b, j5, none⟩) hb v5) (p := ⟨b, j6, none⟩) hb v6) (p := ⟨b, j7, none⟩) hb v7) (p := ⟨b, j8, none⟩) hb v8) (p := ⟨b, j9, none⟩) hb v9) (p := ⟨b, j10, none⟩) hb v10
theorem only12 {w : World} {b j0 j1 j2 j3 j4 j5 j6 j7 j8 j9 j10 j11 : Nat} {v0 v1 v2 v3 v4 v5 v6 v7 v8 v9 v10 v11 : Value} : w.grownBy ((((((((((((w.setCell ⟨b, j0, none⟩ v0).setCell ⟨b, j1, none⟩ v1).setCell ⟨b, j2, none⟩ v2).setCell ⟨b, j3, none⟩ v3).setCell ⟨b, j4, none⟩ v4).setCell ⟨b, j5, none⟩ v5).setCell ⟨b, j6, none⟩ v6).setCell ⟨b, j7, none⟩ v7).setCell ⟨b, j8, none⟩ v8).setCell ⟨b, j9, none⟩ v9).setCell ⟨b, j10, none⟩ v10).setCell ⟨b, j11, none⟩ v11) (some b) := only_setCell (only_setCell (only_setCell (only_setCell (only_setCell (only_setCell (only_setCell (only_setCell (only_setCell (only_setCell (only_setCell (only_setCell (only_refl _ _) (p := ⟨b, j0, none⟩) (.inl rfl) v0) (p := ⟨b, j1, none⟩) (.inl rfl) v1) (p := ⟨b, j2, none⟩) (.inl rfl) v2) (p := ⟨b, j3, none⟩) (.inl rfl) v3) (p := ⟨b, j4, none⟩) (.inl rfl) v4) (p := ⟨b, j5, none⟩) (.inl rfl) v5) (p := ⟨b, j6, none⟩) (.inl rfl) v6) (p := ⟨b, j7, none⟩) (.inl rfl) v7) (p := ⟨b, j8, none⟩) (.inl rfl) v8) (p := ⟨b, j9, none⟩) (.inl rfl) v9) (p := ⟨b, j10, none⟩) (.inl rfl) v10) (p := ⟨b, j11, none⟩) (.inl rfl) v11
theorem ins12 {B : Nat} {a w : World} {b j0 j1 j2 j3 j4 j5 j6 j7 j8 j9 j10 j11 : Nat} {v0 v1 v2 v3 v4 v5 v6 v7 v8 v9 v10 v11 : Value} (h : In B a w) (hb : B ≤ b) : In B a ((((((((((((w.setCell ⟨b, j0, none⟩ v0).setCell ⟨b, j1, none⟩ v1).setCell ⟨b, j2, none⟩ v2).setCell ⟨b, j3, none⟩ v3).setCell ⟨b, j4, none⟩ v4).setCell ⟨b, j5, none⟩ v5).setCell ⟨b, j6, none⟩ v6).setCell ⟨b, j7, none⟩ v7).setCell ⟨b, j8, none⟩ v8).setCell ⟨b, j9, none⟩ v9).setCell ⟨b, j10, none⟩ v10).setCell ⟨b, j11, none⟩ v11) := In.set_ (In.set_ (In.set_ (In.set_ (In.set_ (In.set_ (In.set_ (In.set_ (In.set_ (In.set_ (In.set_ (In.set_ h (p := ⟨b, j0, none⟩) hb v0) (p := ⟨b, j1, none⟩) hb v1) (p := ⟨b, j2, none⟩) hb v2) (p := ⟨b, j3, none⟩) hb v3) (p := ⟨b, j4, none⟩) hb v4) (p := ⟨b, j5, none⟩) hb v5) (p := ⟨b, j6, none⟩) hb v6) (p := ⟨b, j7, none⟩) hb v7) (p := ⟨b, j8, none⟩) hb v8) (p := ⟨b, j9, none⟩) hb v9) (p := ⟨b, j10, none⟩) hb v10) (p := ⟨b, j11, none⟩) hb v11
theorem only13 {w : World} {b j0 j1 j2 j3 j4 j5 j6 j7 j8 j9 j10 j11 j12 : Nat} {v0 v1 v2 v3 v4 v5 v6 v7 v8 v9 v10 v11 v12 : Value} : w.grownBy (((((((((((((w.setCell ⟨b, j0, none⟩ v0).setCell ⟨b, j1, none⟩ v1).setCell ⟨b, j2, none⟩ v2).setCell ⟨b, j3, none⟩ v3).setCell ⟨b, j4, none⟩ v4).setCell ⟨b, j5, none⟩ v5).setCell ⟨b, j6, none⟩ v6).setCell ⟨b, j7, none⟩ v7).setCell ⟨b, j8, none⟩ v8).setCell ⟨b, j9, none⟩ v9).setCell ⟨b, j10, none⟩ v10).setCell ⟨b, j11, none⟩ v11).setCell ⟨b, j12, none⟩ v12) (some b) := only_setCell (only_setCell (only_setCell (only_setCell (only_setCell (only_setCell (only_setCell (only_setCell (only_setCell (only_setCell (only_setCell (only_setCell (only_setCell (only_refl _ _) (p := ⟨b, j0, none⟩) (.inl rfl) v0) (p := ⟨b, j1, none⟩) (.inl rfl) v1) (p := ⟨b, j2, none⟩) (.inl rfl) v2) (p := ⟨b, j3, none⟩) (.inl rfl) v3) (p := ⟨b, j4, none⟩) (.inl rfl) v4) (p := ⟨b, j5, none⟩) (.inl rfl) v5) (p := ⟨b, j6, none⟩) (.inl rfl) v6) (p := ⟨b, j7, none⟩) (.inl rfl) v7) (p := ⟨b, j8, none⟩) (.inl rfl) v8) (p := ⟨b, j9, none⟩) (.inl rfl) v9) (p := ⟨b, j10, none⟩) (.inl rfl) v10) (p := ⟨b, j11, none⟩) (.inl rfl) v11) (p := ⟨b, j12, none⟩) (.inl rfl) v12
theorem ins13 {B : Nat} {a w : World} {b j0 j1 j2 j3 j4 j5 j6 j7 j8 j9 j10 j11 j12 : Nat} {v0 v1 v2 v3 v4 v5 v6 v7 v8 v9 v10 v11 v12 : Value} (h : In B a w) (hb : B ≤ b) : In B a (((((((((((((w.setCell ⟨b, j0, none⟩ v0).setCell ⟨b, j1, none⟩ v1).setCell ⟨b, j2, none⟩ v2).setCell ⟨b, j3, none⟩ v3).setCell ⟨b, j4, none⟩ v4).setCell ⟨b, j5, none⟩ v5).setCell ⟨b, j6, none⟩ v6).setCell ⟨b, j7, none⟩ v7).setCell ⟨b, j8, none⟩ v8).setCell ⟨b, j9, none⟩ v9).setCell ⟨b, j10, none⟩ v10).setCell ⟨b, j11, none⟩ v11).setCell ⟨b, j12, none⟩ v12) := In.set_ (In.set_ (In.set_ (In.set_ (In.set_ (In.set_ (In.set_ (In.set_ (In.set_ (In.set_ (In.set_ (In.set_ (In.set_ h (p := ⟨b, j0, none⟩) hb v0) (p := ⟨b, j1, none⟩) hb v1) (p := ⟨b, j2, none⟩) hb v2) (p := ⟨b, j3, none⟩) hb v3) (p := ⟨b, j4, none⟩) hb v4) (p := ⟨b, j5, none⟩) hb v5) (p := ⟨b, j6, none⟩) hb v6) (p := ⟨b, j7, none⟩) hb v7) (p := ⟨b, j8, none⟩) hb v8) (p := ⟨b, j9, none⟩) hb v9) (p := ⟨b, j10, none⟩) hb v10) (p := ⟨b, j11, none⟩) hb v11) (p := ⟨b, j12, none⟩) hb v12
theorem only14 {w : World} {b j0 j1 j2 j3 j4 j5 j6 j7 j8 j9 j10 j11 j12 j13 : Nat} {v0 v1 v2 v3 v4 v5 v6 v7 v8 v9 v10 v11 v12 v13 : Value} : w.grownBy ((((((((((((((w.setCell ⟨b, j0, none⟩ v0).setCell ⟨b, j1, none⟩ v1).setCell ⟨b, j2, none⟩ v2).setCell ⟨b, j3, none⟩ v3).setCell ⟨b, j4, none⟩ v4).setCell ⟨b, j5, none⟩ v5).setCell ⟨b, j6, none⟩ v6).setCell ⟨b, j7, none⟩ v7).setCell ⟨b, j8, none⟩ v8).setCell ⟨b, j9, none⟩ v9).setCell ⟨b, j10, none⟩ v10).setCell ⟨b, j11, none⟩ v11).setCell ⟨b, j12, none⟩ v12).setCell ⟨b, j13, none⟩ v13) (some b) := only_setCell (only_setCell (only_setCell (only_setCell (only_setCell (only_setCell (only_setCell (only_setCell (only_setCell (only_setCell (only_setCell (only_setCell (only_setCell (only_setCell (only_refl _ _) (p := ⟨b, j0, none⟩) (.inl rfl) v0) (p := ⟨b, j1, none⟩) (.inl rfl) v1) (p := ⟨b, j2, none⟩) (.inl rfl) v2) (p := ⟨b, j3, none⟩) (.inl rfl) v3) (p := ⟨b, j4, none⟩) (.inl rfl) v4) (p := ⟨b, j5, none⟩) (.inl rfl) v5) (p := ⟨b, j6, none⟩) (.inl rfl) v6) (p := ⟨b, j7, none⟩) (.inl rfl) v7) (p := ⟨b, j8, none⟩) (.inl rfl) v8) (p := ⟨b, j9, none⟩) (.inl rfl) v9) (p := ⟨b, j10, none⟩) (.inl rfl) v10) (p := ⟨b, j11, none⟩) (.inl rfl) v11) (p := ⟨b, j12, none⟩) (.inl rfl) v12) (p := ⟨b, j13, none⟩) (.inl rfl) v13
theorem ins14 {B : Nat} {a w : World} {b j0 j1 j2 j3 j4 j5 j6 j7 j8 j9 j10 j11 j12 j13 : Nat} {v0 v1 v2 v3 v4 v5 v6 v7 v8 v9 v10 v11 v12 v13 : Value} (h : In B a w) (hb : B ≤ b) : In B a ((((((((((((((w.setCell ⟨b, j0, none⟩ v0).setCell ⟨b, j1, none⟩ v1).setCell ⟨b, j2, none⟩ v2).setCell ⟨b, j3, none⟩ v3).setCell ⟨b, j4, none⟩ v4).setCell ⟨b, j5, none⟩ v5).setCell ⟨b, j6, none⟩ v6).setCell ⟨b, j7, none⟩ v7).setCell ⟨b, j8, none⟩ v8).setCell ⟨b, j9, none⟩ v9).setCell ⟨b, j10, none⟩ v10).setCell ⟨b, j11, none⟩ v11).setCell ⟨b, j12, none⟩ v12).setCell ⟨b, j13, none⟩ v13) := In.set_ (In.set_ (In.set_ (In.set_ (In.set_ (In.set_ (In.set_ (In.set_ (In.set_ (In.set_ (In.set_ (In.set_ (In.set_ (In.set_ h (p := ⟨b, j0, none⟩) hb v0) (p := ⟨b, j1, none⟩) hb v1) (p := ⟨b, j2, none⟩) hb v2) (p := ⟨b, j3, none⟩) hb v3) (p := ⟨b, j4, none⟩) hb v4) (p := ⟨b, j5, none⟩) hb v5) (p := ⟨b, j6, none⟩) hb v6) (p := ⟨b, j7, none⟩) hb v7) (p := ⟨b, j8, none⟩) hb v8) (p := ⟨b, j9, none⟩) hb v9) (p := ⟨b, j10, none⟩) hb v10) (p := ⟨b, j11, none⟩) hb v11) (p := ⟨b, j12, none⟩) hb v12) (p := ⟨b, j13, none⟩) hb v13
/-- what marking leaves -/
def MarkedC (g k n c : Nat) (w : World) (e : Ending) (w' : World) : Prop := e = .returned (.int .i64 ((k + n : Nat) : Int)) ∧ OwnC w' g n c (marksI k n) ∧ w.grownBy w' (some g)
theorem markC_c (g n c k : Nat) (xs : List Int) (w : World) (hn : (n : Int) ≤ 10000000) (hk : (k : Int) ≤ 10000000) (hown : OwnC w g n c xs) :
    Calls Try.prog 64 #[.slice (some ⟨g, 0, none⟩) n c, .int .i64 k] w (MarkedC g k n c w) := by
  have hxl : xs.length = n := hown.len
  have HXL := Lib.hid hxl
  clear hxl
  go_enter Try.func64, Try.ntmps64
  go_wp2
  go_loopw [1, 5] (fun m i wr => ∃ (j : Nat) (ys : List Int), j ≤ n ∧ i = .int .i64 j ∧ m = .int .i64 ((k + j : Nat) : Int) ∧ ys.length = n ∧ OwnC wr g n c ys ∧ (∀ t, t < j → ys.getD t 0 = ((k + t : Nat) : Int)) ∧ w.grownBy wr (some g)) (fun _ i _ => n - (intOf i).toNat)
  case atStart => exact ⟨0, xs, Nat.zero_le _, rfl, rfl, HXL.out, hown, fun t ht => absurd ht (Nat.not_lt_zero _), only_refl _ _⟩
  case round =>
    clear hown
    obtain ⟨j, ys, hj, rfl, rfl, hyl, hown, hys, hb⟩ := hrel
    have HYL := Lib.hid hyl
    have HYS := Lib.hid hys
    clear hyl hys
    by_cases hlt : j < n
    · have hown2 : wr.ownsRow g 3 1 (.slice (some ⟨g, 0, none⟩) n c) n (iv ys) := hown
      have hc : wr.cell? ⟨g, j, none⟩ = some (.int .i64 (ys.getD j 0)) := by rw [hown2.cellAt j (by omega)]; exact iv_at ys j (by have := HYL.out; omega)
      have hf := hown2.frozenAt j
      have hst := (hown2.stored j (.int .i64 ((k + j : Nat) : Int))).1
      rw [← iv_set] at hst
      have HST : Hid (OwnC (wr.setCell ⟨g, j, none⟩ (.int .i64 ((k + j : Nat) : Int))) g n c (ys.set j ((k + j : Nat) : Int))) := Lib.hid hst
      have hbb : w.grownBy (wr.setCell ⟨g, j, none⟩ (.int .i64 ((k + j : Nat) : Int))) (some g) := only_setCell hb (p := ⟨g, j, none⟩) (.inl rfl) _
      generalize ys.getD j 0 = y0 at hc
      clear hown hown2 hst
      go_wp2_with fail
      have HC := Lib.hid hc
      clear hc hf
      go_roundw
      case rel => exact ⟨j + 1, ys.set j ((k + j : Nat) : Int), by omega, by go_num, by go_num, by have := HYL.out; simp; omega, HST.out, fun t ht => by
          by_cases e : t = j
          · subst e; have := HYL.out; simp [show t < ys.length from by omega]
          · have := HYS.out t (by omega); rw [← this]; simp [show ¬ j = t from fun h => e h.symm], hbb⟩
      case measure => simp [intOf]; omega
    · obtain rfl : j = n := by omega
      have e : ys = marksI k j := by
        apply List.ext_getElem
        · rw [HYL.out, marksI_len]
        · intro i h1 h2
          have := HYS.out i (by have := HYL.out; omega)
          rw [List.getD_eq_getElem?_getD, List.getElem?_eq_getElem h1] at this
          have h3 := marksI_at k j i (by have := HYL.out; omega)
          rw [List.getD_eq_getElem?_getD, List.getElem?_eq_getElem h2] at h3
          exact this.trans h3.symm
      subst e
      have HO := Lib.hid hown
      clear hown
      go_wp2
      go_ret
      exact ⟨ret_int rfl, HO.out, hb⟩
end Go.Proofs.Ytmkfnhgaiheckaa
