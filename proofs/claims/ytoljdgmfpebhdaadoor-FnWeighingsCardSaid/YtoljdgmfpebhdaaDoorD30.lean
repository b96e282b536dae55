/- Chapter 30: CanTell, FlourOf. -/
import Derived.Test.YtoljdgmfpebhdaaDoorC30
import Derived.Test.YtoljdgmfpebhdaaDoorIx
import Derived.Test.YtoljdgmfpebhdaaDoorW02
import Derived.Deep.QuietTactic
import Derived.BigQuiet
import Derived.IntWalk
namespace Go.Proofs.YtoljdgmfpebhdaaDoor
open Go.ChangeShapes Go.WideShapes Go.ChangeAt Go.RowKit
set_option linter.unusedVariables false
set_option linter.unusedSimpArgs false
set_option maxHeartbeats 2000000

def tellB (a b c f : Int) : Bool := decide (dOk a b c = true ∧ 0 ≤ f ∧ f ≤ 1000000) && (partV f a != 0) && (partV f b != 0) && (partV f c != 0) && (partV f a != partV f b) && (partV f a != partV f c) && (partV f b != partV f c)
theorem part_nn {f p : Int} (hf : 0 ≤ f ∧ f ≤ 1000000) (hp : 0 ≤ p ∧ p ≤ 2000) : partV f p = (f * p + 500) / 1000 := by
  unfold partV
  rw [if_pos ⟨hf.1, hf.2, hp.1, hp.2⟩, Int.tdiv_eq_ediv_of_nonneg (by have := Int.mul_nonneg hf.1 hp.1; omega)]
theorem part_mono {f g p : Int} (hf : 0 ≤ f) (hfg : f ≤ g) (hg : g ≤ 1000000) (hp : 0 ≤ p ∧ p ≤ 2000) : partV f p ≤ partV g p := by
  rw [part_nn ⟨hf, by omega⟩ hp, part_nn ⟨by omega, hg⟩ hp]
  have := Int.mul_le_mul_of_nonneg_right hfg hp.1
  omega
theorem weight_is {a b c f : Int} (hd : dOk a b c = true) (hf : 0 ≤ f) (hf' : f ≤ 1000000) : weightV a b c f = f + partV f a + partV f b + partV f c := by
  rw [weight_yes hd hf hf']
  simp [sumTo, amtV]
theorem d_in {a b c : Int} (h : dOk a b c = true) : 300 ≤ a ∧ a ≤ 1200 ∧ 0 ≤ b ∧ b ≤ 50 ∧ 0 ≤ c ∧ c ≤ 500 := by simpa [dOk] using h
theorem weight_mono {a b c f g : Int} (hd : dOk a b c = true) (hf : 0 ≤ f) (hfg : f ≤ g) (hg : g ≤ 1000000) : weightV a b c f ≤ weightV a b c g := by
  have h := d_in hd
  rw [weight_is hd hf (by omega), weight_is hd (by omega) hg]
  have h1 := part_mono (p := a) hf hfg hg (by omega)
  have h2 := part_mono (p := b) hf hfg hg (by omega)
  have h3 := part_mono (p := c) hf hfg hg (by omega)
  omega
theorem weight_ge {a b c f : Int} (hd : dOk a b c = true) (hf : 0 ≤ f) (hf' : f ≤ 1000000) : f ≤ weightV a b c f := by
  have h := d_in hd
  rw [weight_is hd hf hf']
  have h1 := partV_in (f := f) (p := a) ⟨hf, hf'⟩ (by omega)
  have h2 := partV_in (f := f) (p := b) ⟨hf, hf'⟩ (by omega)
  have h3 := partV_in (f := f) (p := c) ⟨hf, hf'⟩ (by omega)
  omega
/-- the least flour whose dough weighs at least g -/
def wP (a b c g : Int) (f : Int) : Bool := decide (g ≤ weightV a b c f)
end Go.Proofs.YtoljdgmfpebhdaaDoor
