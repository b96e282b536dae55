/- Chapter 36: MustBuy, values. -/
import Derived.Test.YtmkfnhgaiheckaaMbD
import Derived.Test.YtmkfnhgaiheckaaWays
import Derived.Test.YtmkfnhgaiheckaaMDough
import Derived.Test.YtmkfnhgaiheckaaAppS
namespace Go.Proofs.Ytmkfnhgaiheckaa
open Go.ChangeShapes Go.WideShapes Go.ChangeAt Go.RowKit
set_option linter.unusedVariables false
set_option linter.unusedSimpArgs false
set_option maxHeartbeats 2000000

def z36 : DoughR := ⟨0, 0, 0⟩
def mbAm (ds : List DoughR) (fs : List Int) (j : Nat) : List Int := amV (ds.getD j z36).f0 (ds.getD j z36).f1 (ds.getD j z36).f2 (fs.getD j 0)
def mbOk (ds : List DoughR) (fs : List Int) (j : Nat) : Bool := decide (dOk (ds.getD j z36).f0 (ds.getD j z36).f1 (ds.getD j z36).f2 = true ∧ 0 ≤ fs.getD j 0 ∧ fs.getD j 0 ≤ 1000000)
def mbSum (ds : List DoughR) (fs : List Int) (i : Nat) : Nat → Int
  | 0 => 0
  | k + 1 => mbSum ds fs i k + (mbAm ds fs k).getD i 0
theorem mbAm_in {ds : List DoughR} {fs : List Int} {j : Nat} (h : mbOk ds fs j = true) (i : Nat) : 0 ≤ (mbAm ds fs j).getD i 0 ∧ (mbAm ds fs j).getD i 0 ≤ 10000000 := by
  have h := of_decide_eq_true h
  exact amV_in h.1 h.2.1 h.2.2 i
theorem mbSum_in {ds : List DoughR} {fs : List Int} (i : Nat) : ∀ k, k ≤ 10 → (∀ j, j < k → mbOk ds fs j = true) → 0 ≤ mbSum ds fs i k ∧ mbSum ds fs i k ≤ 10000000 * k := by
  intro k
  induction k with
  | zero => intro _ _; exact ⟨Int.le_refl _, by show (0 : Int) ≤ _; omega⟩
  | succ k ih =>
    intro hk h
    have h1 := ih (by omega) fun j hj => h j (by omega)
    have h2 := mbAm_in (h k (by omega)) i
    show 0 ≤ mbSum ds fs i k + _ ∧ mbSum ds fs i k + _ ≤ _
    omega
def allL (f : Nat → Int) : List Int := [f 0, f 1, f 2, f 3]
theorem allL_len (f : Nat → Int) : (allL f).length = 4 := rfl
theorem allL_at (f : Nat → Int) (i : Nat) (h : i < 4) : (allL f).getD i 0 = f i := by
  match i, h with
  | 0, _ => rfl
  | 1, _ => rfl
  | 2, _ => rfl
  | 3, _ => rfl
theorem allL_of {xs : List Int} (h : xs.length = 4) : allL (fun i => xs.getD i 0) = xs := by
  match xs, h with
  | [a, b, c, d], _ => rfl
theorem subTo_allL (f : Nat → Int) (am : List Int) : subTo 4 (allL f) am 4 = allL (fun i => f i - am.getD i 0) := rfl
def leftF (xs : List Int) (ds : List DoughR) (fs : List Int) (k i : Nat) : Int := xs.getD i 0 - mbSum ds fs i k
theorem left_0 {xs : List Int} (ds : List DoughR) (fs : List Int) (h : xs.length = 4) : allL (leftF xs ds fs 0) = xs := by
  have e : leftF xs ds fs 0 = fun i => xs.getD i 0 := by funext i; show _ - 0 = _; omega
  rw [e, allL_of h]
theorem left_step (xs : List Int) (ds : List DoughR) (fs : List Int) (k : Nat) : subTo 4 (allL (leftF xs ds fs k)) (mbAm ds fs k) 4 = allL (leftF xs ds fs (k + 1)) := by
  rw [subTo_allL]
  congr 1
  funext i
  show xs.getD i 0 - mbSum ds fs i k - _ = xs.getD i 0 - (mbSum ds fs i k + _)
  omega
def mbB (n : Nat) (xs : List Int) (m : Nat) (ds : List DoughR) (l : Nat) (fs : List Int) : Bool := stB n xs && decide (m ≤ 10) && decide (l = m) && allOk (mbOk ds fs) m
def missF (xs : List Int) (ds : List DoughR) (fs : List Int) (m i : Nat) : Int := max 0 (mbSum ds fs i m - xs.getD i 0)
def MustL (n : Nat) (xs : List Int) (m : Nat) (ds : List DoughR) (l : Nat) (fs : List Int) : List Int := if mbB n xs m ds l fs then allL (missF xs ds fs m) else []
theorem MustL_len (n : Nat) (xs : List Int) (m : Nat) (ds : List DoughR) (l : Nat) (fs : List Int) : (MustL n xs m ds l fs).length ≤ 100000 := by unfold MustL; split <;> simp [allL]
theorem MustL_f {n : Nat} {xs : List Int} {m : Nat} {ds : List DoughR} {l : Nat} {fs : List Int} (h : mbB n xs m ds l fs = false) : MustL n xs m ds l fs = [] := by unfold MustL; rw [h]; rfl
theorem MustL_t {n : Nat} {xs : List Int} {m : Nat} {ds : List DoughR} {l : Nat} {fs : List Int} (h : mbB n xs m ds l fs = true) : MustL n xs m ds l fs = allL (missF xs ds fs m) := by unfold MustL; rw [if_pos h]
theorem ways_own {w : World} {B g n : Nat} {f : Nat → Int} (h : Ways w g n f) (hB : B ≤ g) (hn : n ≤ maxLen) : w.ownsRow B 3 1 (.slice (some ⟨g, 0, none⟩) n n) n (iv ((List.range n).map f)) := by
  obtain ⟨cur, hk, hs, hc⟩ := h
  have e : cur.toList = iv ((List.range n).map f) := by
    apply List.ext_getElem?
    intro i
    by_cases hi : i < n
    · have h1 := hc i hi
      simp [iv, hi, h1]
    · rw [List.getElem?_eq_none (by simp; omega), List.getElem?_eq_none (by simp [iv]; omega)]
  refine ⟨by simp [iv], .inr ⟨g, n, cur, rfl, hB, hk, Nat.le_refl _, hn, by omega, ?_⟩⟩
  rw [← e]
  exact List.take_of_length_le (by simp; omega)
theorem allL_range (f : Nat → Int) : (List.range 4).map f = allL f := rfl
theorem mustRow {w w' : World} {g : Nat} {f : Nat → Int} (h : Ways w' g 4 f) (hg : w.heap.size ≤ g) (hb : Below w.heap.size w w') : RowB (allL f) w (.returned (.slice (some ⟨g, 0, none⟩) 4 4)) w' :=
  ⟨_, 4, rfl, (ways_own (n := 4) h hg (by unfold maxLen; omega) : _), hb⟩
theorem emptyRow (w : World) {w' : World} (hb : Below w.heap.size w w') : RowB [] w (.returned (.slice none 0 0)) w' := ⟨none, 0, rfl, ⟨rfl, .inl ⟨rfl, rfl⟩⟩, hb⟩
theorem freshRow (w : World) {w' : World} (i : In w.heap.size w w') : RowB [] w (.returned (.slice (some ⟨w'.heap.size, 0, none⟩) 0 0)) (w'.alloc (.cells #[] 3)) :=
  ⟨_, 0, rfl, ⟨rfl, .inr ⟨w'.heap.size, 0, _, rfl, i.size, heap_alloc_new w' _, Nat.le_refl _, Nat.zero_le _, by simp, by simp [iv]⟩⟩, (i.alloc _).below⟩
end Go.Proofs.Ytmkfnhgaiheckaa
