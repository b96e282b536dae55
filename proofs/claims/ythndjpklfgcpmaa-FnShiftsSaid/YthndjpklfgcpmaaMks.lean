/- Rows of truths that a call makes. -/
import Derived.Test.YthndjpklfgcpmaaIntS
import Derived.Test.YthndjpklfgcpmaaOwnC
import Derived.Test.YthndjpklfgcpmaaAppS
import Derived.Test.YthndjpklfgcpmaaIn
import Derived.Test.YthndjpklfgcpmaaApp
namespace Go.Proofs.Ythndjpklfgcpmaa
open Go.ChangeShapes Go.WideShapes Go.ChangeAt Go.RowKit
set_option linter.unusedVariables false
set_option linter.unusedSimpArgs false
set_option maxHeartbeats 2000000

theorem infoBm : (Try.prog.info? 4).map (fun i => (i.zero, i.size, i.bytes)) = some (some (.bool false), 1, 1) := by kernel_rfl
/-- block g holds the truths f -/
def Marks (w : World) (g n : Nat) (f : Nat → Bool) : Prop := ∃ cur : Array Value, Blk w g 4 cur ∧ cur.size = n ∧ ∀ t : Nat, t < n → cur[t]? = some (.bool (f t))
theorem Marks.set_ {w : World} {g n : Nat} {f f' : Nat → Bool} (h : Marks w g n f) (t : Nat) (ht : ∀ u, u < n → f' u = (f u || (u == t))) : Marks (w.setCell ⟨g, t, none⟩ (.bool true)) g n f' := by
  obtain ⟨cur, hb, hs, hc⟩ := h
  refine ⟨_, hb.set_ t _, by simp; exact hs, fun u hu => ?_⟩
  rw [Array.getElem?_setIfInBounds, ht u hu]
  by_cases e : t = u
  · subst e
    rw [if_pos rfl, if_pos (by omega)]
    simp
  · rw [if_neg e, hc u hu]
    have : (u == t) = false := by simp; omega
    rw [this, Bool.or_false]
theorem Marks.cell {w : World} {g n : Nat} {f : Nat → Bool} (h : Marks w g n f) (t : Nat) (ht : t < n) : w.cell? ⟨g, t, none⟩ = some (.bool (f t)) := by
  obtain ⟨cur, hb, hs, hc⟩ := h
  rw [hb.cell]; exact hc t ht
theorem Marks.free {w : World} {g n : Nat} {f : Nat → Bool} (h : Marks w g n f) (t : Nat) : w.frozen? ⟨g, t, none⟩ = false := by
  obtain ⟨cur, hb, _⟩ := h
  exact hb.frozen t
theorem Marks.lt {w : World} {g n : Nat} {f : Nat → Bool} (h : Marks w g n f) : g < w.heap.size := by
  obtain ⟨cur, hb, _⟩ := h
  exact hb.lt
theorem Marks.grown {w w' : World} {g n : Nat} {f : Nat → Bool} {b : Option Nat} (h : Marks w g n f) (hb : w.grownBy w' b) (hne : some g ≠ b) : Marks w' g n f := by
  have hl := h.lt
  obtain ⟨cur, hk, r⟩ := h
  exact ⟨cur, (hb.block g hl hne).trans hk, r⟩
theorem Marks.alloc {w : World} {g n : Nat} {f : Nat → Bool} (h : Marks w g n f) (o : Obj) : Marks (w.alloc o) g n f := by
  obtain ⟨cur, hk, r⟩ := h
  exact ⟨cur, hk.alloc o, r⟩
theorem marks_made {w w1 : World} {n : Nat} (hown : w1.ownsRow w.heap.size 4 1 (.slice (some ⟨w.heap.size, 0, none⟩) n n) n (List.replicate n (Value.bool false))) : Marks w1 w.heap.size n (fun _ => false) := by
  rcases hown.2 with ⟨h, _⟩ | ⟨g, cap, cur, h, hg, hh, hnc, hcp, hcs, htake⟩
  · cases h
  · injection h with h1 h2 h3
    injection h1 with h1
    injection h1 with h1
    subst h1 h3
    refine ⟨cur, hh, by simpa using hcs, fun t ht => ?_⟩
    have h5 := congrArg (·[t]?) htake
    simp [ht] at h5
    simpa using h5
theorem Marks.ne {w : World} {g n m B : Nat} {f : Nat → Bool} {v : Value} {xs : List Value} (h : Marks w g n f) (ho : w.ownsRow B 3 1 v m xs) : some g ≠ v.ownBlock := by
  obtain ⟨cur, hk, _⟩ := h
  rcases ho.2 with ⟨rfl, _⟩ | ⟨g2, cap, cur2, rfl, hg, hh, _⟩
  · simp [Value.ownBlock]
  · intro e
    simp [Value.ownBlock] at e
    subst e
    have := hk.symm.trans hh
    injection this with this
    injection this with _ h2 _
    exact absurd h2 (by decide)
theorem own_far {w : World} {g n m B t : Nat} {f : Nat → Bool} {v u : Value} {xs : List Value} (h : Marks w g n f) (ho : w.ownsRow B 3 1 v m xs) : (w.setCell ⟨g, t, none⟩ u).ownsRow B 3 1 v m xs := by
  have hne := h.ne ho
  refine ⟨ho.1, ?_⟩
  rcases ho.2 with ⟨rfl, h0⟩ | ⟨g2, cap, cur2, rfl, hg, hh, r⟩
  · exact .inl ⟨rfl, h0⟩
  · refine .inr ⟨g2, cap, cur2, rfl, hg, ?_, r⟩
    have hne2 : g2 ≠ g := fun e => hne (by simp [Value.ownBlock, e])
    have hlt : g2 < w.heap.size := by
      rcases Nat.lt_or_ge g2 w.heap.size with h1 | h1
      · exact h1
      · simp [Array.getElem?_eq_none h1] at hh
    exact ((only_set ⟨g, t, none⟩ u).block g2 hlt (fun e => by injection e with e; exact hne2 e)).trans hh
theorem own_ge {w : World} {B m : Nat} {v : Value} {xs : List Value} (ho : w.ownsRow B 3 1 v m xs) : ∀ j, v.ownBlock = some j → B ≤ j := by
  intro j hj
  rcases ho.2 with ⟨rfl, _⟩ | ⟨g2, cap, cur2, rfl, hg, hh, _⟩
  · simp [Value.ownBlock] at hj
  · simp [Value.ownBlock] at hj
    omega
theorem In.grownOwn {B : Nat} {a w w' : World} {b : Option Nat} (hi : In B a w) (hg : w.grownBy w' b) (hb : ∀ j, b = some j → B ≤ j) : In B a w' := ⟨hi.below.grown hg hi.size hb, Nat.le_trans hi.size hg.size⟩
def sliceLen : Value → Nat
  | .slice _ m _ => m
  | _ => 0
theorem infoIm : (Try.prog.info? 3).map (fun i => (i.zero, i.size, i.bytes)) = some (some (.int .i64 0), 1, 8) := by kernel_rfl
theorem In.out {B b0 : Nat} {a w0 w : World} (h0 : In B a w0) (h : Below w0.heap.size w0 w) : In B a w := h0.step h
end Go.Proofs.Ythndjpklfgcpmaa
