/- A row of numbers that the code makes and fills. -/
import Derived.Test.YtmkfnhgaiheckaaIn
import Derived.Test.YtmkfnhgaiheckaaIntR
namespace Go.Proofs.Ytmkfnhgaiheckaa
open Go.ChangeShapes Go.WideShapes Go.ChangeAt Go.RowKit
set_option linter.unusedVariables false
set_option linter.unusedSimpArgs false

theorem infoN : (Try.prog.info? 3).map (fun i => (i.zero, i.size, i.bytes)) = some (some (.int .i64 0), 1, 8) := by kernel_rfl
/-- block g holds n numbers: f of their places -/
def Ways (w : World) (g n : Nat) (f : Nat → Int) : Prop := ∃ cur : Array Value, Blk w g 3 cur ∧ cur.size = n ∧ ∀ t : Nat, t < n → cur[t]? = some (.int .i64 (f t))
theorem Ways.set_ {w : World} {g n : Nat} {f : Nat → Int} (h : Ways w g n f) (t : Nat) (v : Int) (f' : Nat → Int) (ht : f' t = v) (hf : ∀ u, u ≠ t → f' u = f u) (hn : t < n) : Ways (w.setCell ⟨g, t, none⟩ (.int .i64 v)) g n f' := by
  obtain ⟨cur, hb, hs, hc⟩ := h
  refine ⟨_, hb.set_ t _, by simp; exact hs, fun u hu => ?_⟩
  rw [Array.getElem?_setIfInBounds]
  by_cases e : t = u
  · subst e
    rw [if_pos rfl, if_pos (by omega), ht]
  · rw [if_neg e, hc u hu, hf u (fun h => e h.symm)]
theorem Ways.congr {w : World} {g n : Nat} {f f' : Nat → Int} (h : Ways w g n f) (hf : ∀ u, u < n → f' u = f u) : Ways w g n f' := by
  obtain ⟨cur, hb, hs, hc⟩ := h
  exact ⟨cur, hb, hs, fun u hu => by rw [hc u hu, hf u hu]⟩
theorem Ways.cell {w : World} {g n : Nat} {f : Nat → Int} (h : Ways w g n f) (t : Nat) (ht : t < n) : w.cell? ⟨g, t, none⟩ = some (.int .i64 (f t)) := by
  obtain ⟨cur, hb, hs, hc⟩ := h
  rw [hb.cell]; exact hc t ht
theorem Ways.free {w : World} {g n : Nat} {f : Nat → Int} (h : Ways w g n f) (t : Nat) : w.frozen? ⟨g, t, none⟩ = false := by
  obtain ⟨cur, hb, _⟩ := h
  exact hb.frozen t
theorem Ways.drewN {w : World} {g n : Nat} {f : Nat → Int} (h : Ways w g n f) (q : Nat) : Ways (w.drewN q) g n f := by
  obtain ⟨cur, hb, hs, hc⟩ := h
  exact ⟨cur, hb.below (below_drewN (Below.refl _ w) q) hb.lt, hs, hc⟩
theorem Ways.drew {w : World} {g n : Nat} {f : Nat → Int} (h : Ways w g n f) : Ways w.drew g n f := by
  obtain ⟨cur, hb, hs, hc⟩ := h
  exact ⟨cur, hb.below (Below.refl _ w).drew hb.lt, hs, hc⟩
theorem ways_made {w w1 : World} {n : Nat} (hown : w1.ownsRow w.heap.size 3 1 (.slice (some ⟨w.heap.size, 0, none⟩) n n) n (List.replicate n (Value.int .i64 0))) : Ways w1 w.heap.size n (fun _ => 0) := by
  rcases hown.2 with ⟨h, _⟩ | ⟨g, cap, cur, h, hg, hh, hnc, hcp, hcs, htake⟩
  · cases h
  · injection h with h1 h2 h3
    injection h1 with h1
    injection h1 with h1
    subst h1 h3
    refine ⟨cur, hh, by simpa using hcs, fun t ht => ?_⟩
    have h5 := congrArg (·[t]?) htake
    simp [ht] at h5
    simpa using h5
theorem Ways.below {w w' : World} {g n : Nat} {f : Nat → Int} (h : Ways w g n f) (h1 : Below w.heap.size w w') : Ways w' g n f := by
  obtain ⟨cur, hb, hs, hc⟩ := h
  exact ⟨cur, hb.below h1 hb.lt, hs, hc⟩
theorem Ways.reads {w : World} {g n : Nat} {f : Nat → Int} (h : Ways w g n f) : ReadsI w (some ⟨g, 0, none⟩) n ((List.range n).map f) := by
  refine ⟨by simp, fun k hk => ⟨_, rfl, ?_⟩⟩
  rw [Addr.add_lit, Nat.zero_add, h.cell k hk, List.getD_eq_getElem?_getD, List.getElem?_map, List.getElem?_range hk]
  rfl
end Go.Proofs.Ytmkfnhgaiheckaa
