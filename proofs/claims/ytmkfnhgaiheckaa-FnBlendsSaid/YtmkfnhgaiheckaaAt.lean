/- What the drawn laws begin with, where they read the bytes by 'at'. -/
import Derived.Test.YtmkfnhgaiheckaaVal
import Derived.Test.YtmkfnhgaiheckaaRows
namespace Go.Proofs.Ytmkfnhgaiheckaa
open Go.ChangeShapes Go.WideShapes Go.ChangeAt Go.RowKit
set_option linter.unusedVariables false
set_option linter.unusedSimpArgs false

/-- bytes that can be read -/
def ReadsU (w : World) (a : Option Addr) (len : Nat) : Prop :=
  len ≤ maxLen ∧ ∀ k, k < len → ∃ ad x, a = some ad ∧ w.cell? (ad.add k) = some (.int .u8 x) ∧ 0 ≤ x ∧ x ≤ 255
theorem ReadsU.of_row {w : World} {a : Option Addr} {len cap : Nat} {zs : List Int} (h : IsRow .u8 w a len cap zs) : ReadsU w a len := by
  rcases h with ⟨rfl, rfl, _, _⟩ | ⟨x, rfl, hl, hm, hz, hc, hw⟩
  · exact ⟨Nat.zero_le _, fun k hk => absurd hk (Nat.not_lt_zero _)⟩
  · refine ⟨by omega, fun k hk => ⟨x, zs.getD k 0, rfl, hc k (by omega), ?_⟩⟩
    have hmem : zs.getD k 0 ∈ zs := by rw [List.getD_eq_getElem?_getD, List.getElem?_eq_getElem (by omega)]; exact List.getElem_mem _
    have := bounds_u8 (hw _ hmem)
    omega
theorem ReadsU.in_ {w w' : World} {a : Option Addr} {len : Nat} (h : ReadsU w a len) (hi : In w.heap.size w w') : ReadsU w' a len :=
  ⟨h.1, fun k hk => by
    obtain ⟨ad, x, e, hc, h0⟩ := h.2 k hk
    exact ⟨ad, x, e, cell_in hc hi, h0⟩⟩
theorem bigU (a : Option Addr) (len cap : Nat) (w : World) (hl : len ≤ maxLen) (b : Bool) (hb : decide ((1048576 : Int) < (len : Int)) = b) :
    Calls Try.prog 29 #[.slice a len cap] w (Same (.bool b) w) := by
  subst hb
  unfold maxLen at hl
  go_enter Try.func29, Try.ntmps29
  go_wp2
  go_ret
  exact ⟨rfl, rfl⟩
def AtB (w : World) (e : Ending) (w' : World) : Prop := ∃ x : Int, (0 ≤ x ∧ x ≤ 255) ∧ e = .returned (.int .i64 x) ∧ w = w'
theorem at_c (a : Option Addr) (len cap : Nat) (i : Int) (w : World) (h0 : 0 ≤ i) (h1 : i ≤ 1000) (h : ReadsU w a len) :
    Calls Try.prog 33 #[.slice a len cap, .int .i64 i] w (AtB w) := by
  have hl := h.1
  unfold maxLen at hl
  by_cases e : len = 0
  · subst e
    go_enter Try.func33, Try.ntmps33
    go_wp2
    go_ret
    exact ⟨0, ⟨by omega, by omega⟩, rfl, rfl⟩
  · have hz : ((len : Int) == 0) = false := by simp; omega
    have hne : ¬ ((len : Int) = 0) := by omega
    have k0 : 0 ≤ (i * 5 + 1) % (len : Int) := Int.emod_nonneg _ (by omega)
    have k1 : (i * 5 + 1) % (len : Int) < len := Int.emod_lt_of_pos _ (by omega)
    obtain ⟨ad, x, rfl, hc, x0, x1⟩ := h.2 ((i * 5 + 1) % (len : Int)).toNat (by omega)
    go_enter Try.func33, Try.ntmps33
    go_wp2
    go_ret
    exact ⟨x, ⟨x0, x1⟩, rfl, rfl⟩
end Go.Proofs.Ytmkfnhgaiheckaa
