/- Cutting slices: what the operation yields. -/
import Derived.Test.YthndjpklfgcpmaaIntR
import Derived.Test.YthndjpklfgcpmaaChecked
import Derived.Deep.Fields
namespace Go.Proofs.Ythndjpklfgcpmaa
open Go.ChangeShapes Go.WideShapes Go.ChangeAt Go.RowKit
set_option linter.unusedVariables false
set_option linter.unusedSimpArgs false
set_option maxHeartbeats 2000000

def loA (a : Option Addr) (cap k : Nat) : Option Addr := if cap = k then a else a.map (·.add k)
theorem reads_lo {w : World} {a : Option Addr} {n c : Nat} {xs : List Int} (h : ReadsI w a n xs) (k : Nat) (hk : k ≤ n) (hc : n ≤ c) : ReadsI w (loA a c k) (n - k) (xs.drop k) := by
  refine ⟨by rw [List.length_drop, h.1], fun i hi => ?_⟩
  obtain ⟨ad, ha, hcell⟩ := h.2 (k + i) (by omega)
  subst ha
  refine ⟨ad.add k, by rw [loA, if_neg (by omega)]; rfl, ?_⟩
  rw [Deep.add_add, hcell]
  simp [List.getD_eq_getElem?_getD]
theorem reads_hi {w : World} {a : Option Addr} {n : Nat} {xs : List Int} (h : ReadsI w a n xs) (k : Nat) (hk : k ≤ n) : ReadsI w a k (xs.take k) := by
  refine ⟨by rw [List.length_take, h.1]; omega, fun i hi => ?_⟩
  obtain ⟨ad, ha, hcell⟩ := h.2 i (by omega)
  refine ⟨ad, ha, ?_⟩
  rw [hcell]
  simp [List.getD_eq_getElem?_getD, hi]
theorem slHi (a : Option Addr) (n c k : Nat) (hk : k ≤ c) (w : World) : (Instr.slice 22 (.slice a n c) none (some (.int .i64 (k : Int))) none).run Try.prog w = .ok (.slice a k c) w := by
  have h1 : (k : Int) ≤ (c : Int) := by omega
  simp [Instr.slice, Instr.sliceBounds, Instr.sliceBound, go_sem, Try.underlying22, h1]
  intro h; omega
theorem slLo (a : Option Addr) (n c k : Nat) (hk : k ≤ n) (w : World) : (Instr.slice 22 (.slice a n c) (some (.int .i64 (k : Int))) none none).run Try.prog w = .ok (.slice (loA a c k) (n - k) (c - k)) w := by
  have h1 : (k : Int) ≤ (n : Int) := by omega
  simp [Instr.slice, Instr.sliceBounds, Instr.sliceBound, go_sem, Try.underlying22, h1, loA]
  intro h; omega
theorem sl3a (a : Option Addr) (n c k : Nat) (hk : k ≤ c) (w : World) : (Instr.slice 22 (.slice a n c) none (some (.int .i64 (k : Int))) (some (.int .i64 (k : Int)))).run Try.prog w = .ok (.slice a k k) w := by
  have h1 : (k : Int) ≤ (c : Int) := by omega
  simp [Instr.slice, Instr.sliceBounds, Instr.sliceBound, go_sem, Try.underlying22, h1]
  intro h; omega
theorem sl3b (a : Option Addr) (n c k : Nat) (hk : k ≤ n) (hn : n ≤ c) (w : World) : (Instr.slice 22 (.slice a n c) (some (.int .i64 (k : Int))) (some (.int .i64 (n : Int))) (some (.int .i64 (n : Int)))).run Try.prog w = .ok (.slice (loA a n k) (n - k) (n - k)) w := by
  have h1 : (k : Int) ≤ (n : Int) := by omega
  have h2 : (n : Int) ≤ (c : Int) := by omega
  have h3 : ¬ n < k := by omega
  have h4 : ¬ c < n := by omega
  simp [Instr.slice, Instr.sliceBounds, Instr.sliceBound, go_sem, Try.underlying22, hk, hn, loA]
end Go.Proofs.Ythndjpklfgcpmaa
