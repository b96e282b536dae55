/- Chapter 27: CheapestTwo: what both search (no dump beyond the chapter's). -/
import Derived.Test.YtmkfnhgaiheckaaC27
namespace Go.Proofs.Ytmkfnhgaiheckaa
open Go.ChangeShapes Go.WideShapes Go.ChangeAt Go.RowKit
set_option linter.unusedVariables false
set_option linter.unusedSimpArgs false
set_option maxHeartbeats 2000000

/-- the least kilos of one flour with which two are cheapest, and their cost -/
abbrev OneT := Option (Int × Int)
def oUp (o : OneT) (n c : Int) : OneT := match o with
  | none => some (n, c)
  | some (m, d) => if c < d then some (n, c) else some (m, d)
def okN (a b : FlourR) (T L n : Int) : Bool := decide (0 ≤ n ∧ n ≤ a.f2 ∧ 0 ≤ T - n ∧ T - n ≤ b.f2 ∧ L * T ≤ a.f0 * n + b.f0 * (T - n))
def costN (a b : FlourR) (T n : Int) : Int := a.f1 * n + b.f1 * (T - n)
def pairO (a b : FlourR) (T L : Int) : Nat → OneT
  | 0 => none
  | n + 1 => if okN a b T L n then oUp (pairO a b T L n) n (costN a b T n) else pairO a b T L n
theorem pairO_t {a b : FlourR} {T L : Int} {n : Nat} (h : okN a b T L n = true) : pairO a b T L (n + 1) = oUp (pairO a b T L n) n (costN a b T n) := by
  show (if okN a b T L n then _ else _) = _
  rw [if_pos h]
theorem pairO_f {a b : FlourR} {T L : Int} {n : Nat} (h : okN a b T L n = false) : pairO a b T L (n + 1) = pairO a b T L n := by
  show (if okN a b T L n then _ else _) = _
  rw [if_neg (by simp [h])]
theorem pairO_low {a b : FlourR} {T L : Int} (m : Nat) (h : ∀ n : Nat, n < m → okN a b T L n = false) : pairO a b T L m = none := by
  induction m with
  | zero => rfl
  | succ m ih => rw [pairO_f (h m (by omega))]; exact ih fun n hn => h n (by omega)
theorem pairO_high {a b : FlourR} {T L : Int} (m d : Nat) (h : ∀ n : Nat, m ≤ n → okN a b T L n = false) : pairO a b T L (m + d) = pairO a b T L m := by
  induction d with
  | zero => rfl
  | succ d ih => rw [← Nat.add_assoc, pairO_f (h _ (by omega)), ih]
/-- two flours, the kilos of the first, the cost -/
abbrev TwoT := Option (Int × Int × Int × Int)
def tUp (s : TwoT) (i k n c : Int) : TwoT := match s with
  | none => some (i, k, n, c)
  | some (i', k', m, d) => if c < d then some (i, k, n, c) else some (i', k', m, d)
def tMrg (s : TwoT) (i k : Int) (o : OneT) : TwoT := match o with
  | none => s
  | some (n, c) => tUp s i k n c
theorem tMrg_up (s : TwoT) (i k n c : Int) (o : OneT) : tMrg s i k (oUp o n c) = tUp (tMrg s i k o) i k n c := by
  rcases o with _ | ⟨m, d⟩
  · rfl
  · rcases s with _ | ⟨i', k', m', d'⟩
    · simp only [oUp, tMrg, tUp]
      by_cases h1 : c < d <;> simp [h1]
    · simp only [oUp, tMrg, tUp]
      by_cases h1 : c < d <;> by_cases h2 : d < d' <;> by_cases h3 : c < d' <;> simp [h1, h2, h3] <;> omega
def rowT (xs : List FlourR) (T L : Int) (i : Nat) (s : TwoT) : Nat → TwoT
  | 0 => s
  | j + 1 => tMrg (rowT xs T L i s j) i ((i + 1 + j : Nat) : Int) (pairO (xs.getD i z27) (xs.getD (i + 1 + j) z27) T L (T.toNat + 1))
def allT (xs : List FlourR) (T L : Int) (n : Nat) : Nat → TwoT
  | 0 => none
  | i + 1 => rowT xs T L i (allT xs T L n i) (n - (i + 1))
def twoB (n : Nat) (xs : List FlourR) (T L : Int) : Bool := floursB n xs && inB T 1 100 && inB L 50 500
def twoV (n : Nat) (xs : List FlourR) (T L : Int) : TwoT := if twoB n xs T L then allT xs T L n n else none
theorem twoV_f {n : Nat} {xs : List FlourR} {T L : Int} (h : twoB n xs T L = false) : twoV n xs T L = none := by unfold twoV; rw [h]; rfl
theorem twoV_t {n : Nat} {xs : List FlourR} {T L : Int} (h : twoB n xs T L = true) : twoV n xs T L = allT xs T L n n := by unfold twoV; rw [if_pos h]
def tI (s : TwoT) : Int := match s with | none => 0 | some (i, _, _, _) => i
def tK (s : TwoT) : Int := match s with | none => 0 | some (_, k, _, _) => k
def tN (s : TwoT) : Int := match s with | none => 0 | some (_, _, n, _) => n
def tC (z : Int) (s : TwoT) : Int := match s with | none => z | some (_, _, _, c) => c
def tB (s : TwoT) : Bool := match s with | none => false | some _ => true
def oN (s : OneT) : Int := match s with | none => 0 | some (n, _) => n
def oC (s : OneT) : Int := match s with | none => 0 | some (_, c) => c
def oB (s : OneT) : Bool := match s with | none => false | some _ => true
/-- every cost that is kept is one of a blend -/
def OneIn (o : OneT) : Prop := ∀ n c, o = some (n, c) → 0 ≤ n ∧ n ≤ 100 ∧ 0 ≤ c ∧ c ≤ 20000
def TwoIn (s : TwoT) : Prop := ∀ i k n c, s = some (i, k, n, c) → 0 ≤ c ∧ c ≤ 20000
theorem OneIn.none : OneIn none := fun _ _ h => by cases h
theorem TwoIn.none : TwoIn none := fun _ _ _ _ h => by cases h
theorem OneIn.up {o : OneT} (h : OneIn o) {n c : Int} (h1 : 0 ≤ n ∧ n ≤ 100) (h2 : 0 ≤ c ∧ c ≤ 20000) : OneIn (oUp o n c) := by
  intro m d e
  rcases o with _ | ⟨m', d'⟩
  · simp only [oUp, Option.some.injEq, Prod.mk.injEq] at e; omega
  · have := h m' d' rfl
    simp only [oUp] at e
    split at e <;> (simp only [Option.some.injEq, Prod.mk.injEq] at e; omega)
theorem TwoIn.up {s : TwoT} (h : TwoIn s) {i k n c : Int} (h2 : 0 ≤ c ∧ c ≤ 20000) : TwoIn (tUp s i k n c) := by
  intro i2 k2 m d e
  rcases s with _ | ⟨i', k', m', d'⟩
  · simp only [tUp, Option.some.injEq, Prod.mk.injEq] at e; omega
  · have := h i' k' m' d' rfl
    simp only [tUp] at e
    split at e <;> (simp only [Option.some.injEq, Prod.mk.injEq] at e; omega)
theorem TwoIn.mrg {s : TwoT} (h : TwoIn s) {i k : Int} {o : OneT} (ho : OneIn o) : TwoIn (tMrg s i k o) := by
  rcases o with _ | ⟨n, c⟩
  · exact h
  · exact h.up (ho n c rfl).2.2
theorem okN_in {a b : FlourR} {T L : Int} {n : Int} (h : okN a b T L n = true) : 0 ≤ n ∧ n ≤ a.f2 ∧ 0 ≤ T - n ∧ T - n ≤ b.f2 ∧ L * T ≤ a.f0 * n + b.f0 * (T - n) := of_decide_eq_true h
theorem costN_in {a b : FlourR} {T n : Int} (ha : flB a.f0 a.f1 a.f2 = true) (hb : flB b.f0 b.f1 b.f2 = true) (h1 : 0 ≤ n) (h2 : 0 ≤ T - n) (h3 : T ≤ 100) : 0 ≤ costN a b T n ∧ costN a b T n ≤ 20000 := by
  obtain ⟨a1, a2, a3, a4, a5, a6⟩ := fl_in ha
  obtain ⟨b1, b2, b3, b4, b5, b6⟩ := fl_in hb
  have p1 := mul_in (a := a.f1) (b := n) (A := 100) (B := 100) (by omega) (by omega) h1 (by omega)
  have p2 := mul_in (a := b.f1) (b := T - n) (A := 100) (B := 100) (by omega) (by omega) h2 (by omega)
  unfold costN
  omega
theorem pairO_in {a b : FlourR} {T L : Int} (ha : flB a.f0 a.f1 a.f2 = true) (hb : flB b.f0 b.f1 b.f2 = true) (hT : T ≤ 100) (m : Nat) : OneIn (pairO a b T L m) := by
  induction m with
  | zero => exact OneIn.none
  | succ m ih =>
    cases h : okN a b T L m
    · rw [pairO_f h]; exact ih
    · rw [pairO_t h]
      obtain ⟨k1, k2, k3, k4, _⟩ := okN_in h
      obtain ⟨a1, a2, a3, a4, a5, a6⟩ := fl_in ha
      exact ih.up ⟨by omega, by omega⟩ (costN_in ha hb k1 k3 hT)
theorem rowT_in {xs : List FlourR} {n : Nat} {T L : Int} (hs : ∀ i, i < n → flB (xs.getD i z27).f0 (xs.getD i z27).f1 (xs.getD i z27).f2 = true) (hT : T ≤ 100) {i : Nat} {s : TwoT} (h : TwoIn s) : ∀ j, i + 1 + j ≤ n → TwoIn (rowT xs T L i s j)
  | 0, _ => h
  | j + 1, hj => (rowT_in hs hT h j (by omega)).mrg (pairO_in (hs i (by omega)) (hs _ (by omega)) hT _)
theorem allT_in {xs : List FlourR} {n : Nat} {T L : Int} (hs : ∀ i, i < n → flB (xs.getD i z27).f0 (xs.getD i z27).f1 (xs.getD i z27).f2 = true) (hT : T ≤ 100) : ∀ i, i ≤ n → TwoIn (allT xs T L n i)
  | 0, _ => TwoIn.none
  | i + 1, hi => rowT_in hs hT (allT_in hs hT i (by omega)) _ (by omega)
end Go.Proofs.Ytmkfnhgaiheckaa
