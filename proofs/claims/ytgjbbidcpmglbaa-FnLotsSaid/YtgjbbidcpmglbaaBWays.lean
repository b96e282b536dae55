/- A row of truth values that the code makes and fills. -/
import Derived.Test.YtgjbbidcpmglbaaIn
import Derived.Test.YtgjbbidcpmglbaaIntR
namespace Go.Proofs.Ytgjbbidcpmglbaa
open Go.ChangeShapes Go.WideShapes Go.ChangeAt Go.RowKit
set_option linter.unusedVariables false
set_option linter.unusedSimpArgs false

theorem infoBo : (Try.prog.info? 4).map (fun i => (i.zero, i.size, i.bytes)) = some (some (.bool false), 1, 1) := by kernel_rfl
/-- block g holds n truth values: f of their places -/
def BWays (w : World) (g n : Nat) (f : Nat → Bool) : Prop := ∃ cur : Array Value, Blk w g 4 cur ∧ cur.size = n ∧ ∀ t : Nat, t < n → cur[t]? = some (.bool (f t))
theorem BWays.set_ {w : World} {g n : Nat} {f : Nat → Bool} (h : BWays w g n f) (t : Nat) (v : Bool) (f' : Nat → Bool) (ht : f' t = v) (hf : ∀ u, u ≠ t → f' u = f u) (hn : t < n) : BWays (w.setCell ⟨g, t, none⟩ (.bool v)) g n f' := by
  obtain ⟨cur, hb, hs, hc⟩ := h
  refine ⟨_, hb.set_ t _, by simp; exact hs, fun u hu => ?_⟩
  rw [Array.getElem?_setIfInBounds]
  by_cases e : t = u
  · subst e
    rw [if_pos rfl, if_pos (by omega), ht]
  · rw [if_neg e, hc u hu, hf u (fun h => e h.symm)]
theorem BWays.congr {w : World} {g n : Nat} {f f' : Nat → Bool} (h : BWays w g n f) (hf : ∀ u, u < n → f' u = f u) : BWays w g n f' := by
  obtain ⟨cur, hb, hs, hc⟩ := h
  exact ⟨cur, hb, hs, fun u hu => by rw [hc u hu, hf u hu]⟩
theorem BWays.cell {w : World} {g n : Nat} {f : Nat → Bool} (h : BWays w g n f) (t : Nat) (ht : t < n) : w.cell? ⟨g, t, none⟩ = some (.bool (f t)) := by
  obtain ⟨cur, hb, hs, hc⟩ := h
  rw [hb.cell]; exact hc t ht
theorem BWays.free {w : World} {g n : Nat} {f : Nat → Bool} (h : BWays w g n f) (t : Nat) : w.frozen? ⟨g, t, none⟩ = false := by
  obtain ⟨cur, hb, _⟩ := h
  exact hb.frozen t
theorem BWays.drewN {w : World} {g n : Nat} {f : Nat → Bool} (h : BWays w g n f) (q : Nat) : BWays (w.drewN q) g n f := by
  obtain ⟨cur, hb, hs, hc⟩ := h
  exact ⟨cur, hb.below (below_drewN (Below.refl _ w) q) hb.lt, hs, hc⟩
theorem BWays.drew {w : World} {g n : Nat} {f : Nat → Bool} (h : BWays w g n f) : BWays w.drew g n f := by
  obtain ⟨cur, hb, hs, hc⟩ := h
  exact ⟨cur, hb.below (Below.refl _ w).drew hb.lt, hs, hc⟩
theorem bways_made {w w1 : World} {n : Nat} (hown : w1.ownsRow w.heap.size 4 1 (.slice (some ⟨w.heap.size, 0, none⟩) n n) n (List.replicate n (Value.bool false))) : BWays w1 w.heap.size n (fun _ => false) := by
  rcases hown.2 with ⟨h, _⟩ | ⟨g, cap, cur, h, hg, hh, hnc, hcp, hcs, htake⟩
  · cases h
  · injection h with h1 h2 h3
    injection h1 with h1
    injection h1 with h1
    subst h1 h3
    refine ⟨cur, hh, by simpa using hcs, fun t ht => ?_⟩
    have h5 := congrArg (·[t]?) htake
    simp [ht] at h5
    simpa using h5
theorem BWays.below {w w' : World} {g n : Nat} {f : Nat → Bool} (h : BWays w g n f) (h1 : Below w.heap.size w w') : BWays w' g n f := by
  obtain ⟨cur, hb, hs, hc⟩ := h
  exact ⟨cur, hb.below h1 hb.lt, hs, hc⟩
theorem BWays.alloc {w : World} {g n : Nat} {f : Nat → Bool} (h : BWays w g n f) (o : Obj) : BWays (w.alloc o) g n f := h.below ((Below.refl _ w).alloc (Nat.le_refl _) o)
theorem BWays.lt {w : World} {g n : Nat} {f : Nat → Bool} (h : BWays w g n f) : g < w.heap.size := by obtain ⟨cur, hb, _⟩ := h; exact hb.lt
theorem BWays.only {w w' : World} {g g' n : Nat} {f : Nat → Bool} (h : BWays w g n f) (hb : w.grownBy w' (some g')) (hne : g ≠ g') : BWays w' g n f := by
  obtain ⟨cur, hk, r⟩ := h
  exact ⟨cur, hk.grown hb (fun e => by injection e; omega), r⟩
theorem BWays.other {w : World} {g g' n t : Nat} {f : Nat → Bool} {v : Value} (h : BWays w g n f) (hne : g ≠ g') : BWays (w.setCell ⟨g', t, none⟩ v) g n f :=
  h.only (only_setCell (only_refl _ _) (p := ⟨g', t, none⟩) (.inl rfl) v) hne
end Go.Proofs.Ytgjbbidcpmglbaa
