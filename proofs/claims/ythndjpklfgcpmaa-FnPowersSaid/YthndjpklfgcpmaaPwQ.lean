/- The law FnPowers: the pure facts, together. -/
import Derived.Test.YthndjpklfgcpmaaPwP
import Derived.Test.YthndjpklfgcpmaaG26
namespace Go.Proofs.Ythndjpklfgcpmaa
open Go.ChangeShapes Go.WideShapes Go.ChangeAt Go.RowKit
set_option linter.unusedVariables false
set_option linter.unusedSimpArgs false
set_option maxHeartbeats 2000000

def DrM (v : MachineR) : Prop := (0 ≤ v.f0 ∧ v.f0 ≤ 996) ∧ (v.f0 + 1 ≤ v.f1 ∧ v.f1 ≤ v.f0 + 200) ∧ 100 ≤ v.f2 ∧ v.f2 ≤ 3000
theorem inB_mk {n a b : Int} (h1 : a ≤ n) (h2 : n ≤ b) : inB n a b = true := by
  unfold inB; simp; omega
theorem maB_mk {a b c : Int} (h1 : 0 ≤ a) (h2 : a + 1 ≤ b) (h3 : b ≤ 1440) (h4 : 1 ≤ c) (h5 : c ≤ 10000) : maB a b c = true := by
  unfold maB
  rw [inB_mk h1 (by omega), inB_mk h2 h3, inB_mk h4 h5]; rfl
theorem drm_mach {n : Nat} {xs : List MachineR} (hn : n ≤ 5) (h : ∀ i, i < n → DrM (xs.getD i z26)) : machB n xs = true := by
  simp only [machB, Bool.and_eq_true, decide_eq_true_eq]
  refine ⟨allOk_t _ _ fun i hi => ?_, by omega⟩
  obtain ⟨h1, h2, h3, h4⟩ := h i hi
  exact maB_mk (by omega) (by omega) (by omega) (by omega) (by omega)
theorem en_app (xs : List MachineR) (z : MachineR) : sumTo (enG (xs ++ [z])) (xs.length + 1) = sumTo (enG xs) xs.length + z.f2 * (z.f1 - z.f0) := by
  rw [sumTo_succ, sumTo_congr (enG (xs ++ [z])) (enG xs) _ fun i hi => by unfold enG; rw [getD_appM _ _ _ hi]]
  congr 1
  unfold enG
  rw [getD_last]
theorem pow_law {n : Nat} {xs : List MachineR} (hl : xs.length = n) (hn : n ≤ 5) (hx : ∀ i, i < n → DrM (xs.getD i z26)) {N : Nat} {W : Int} (hN : 1 ≤ N ∧ N ≤ 256) (hW : 100 ≤ W ∧ W ≤ 2000) {s : Nat} (hs : s ≤ 1020) :
    ∃ (m p x y mx my : Int) (b : Nat), machB n xs = true ∧ peakM n xs = m ∧ peakW n xs = p ∧ (0 ≤ m ∧ m ≤ 1439) ∧ (0 ≤ p ∧ p ≤ 120000) ∧ startV n xs N W = b ∧ ((b : Int) + N ≤ 1440) ∧ powerV n xs m = p ∧
      peakW (n + 1) (xs ++ [⟨(b : Int), (b : Int) + N, W⟩]) = x ∧ peakM (n + 1) (xs ++ [⟨(b : Int), (b : Int) + N, W⟩]) = mx ∧ peakW (n + 1) (xs ++ [⟨(s : Int), (s : Int) + N, W⟩]) = y ∧ peakM (n + 1) (xs ++ [⟨(s : Int), (s : Int) + N, W⟩]) = my ∧
      x ≤ y ∧ p ≤ x ∧ W ≤ x ∧ energyV n xs = sumTo (enG xs) n ∧ energyV (n + 1) (xs ++ [⟨(b : Int), (b : Int) + N, W⟩]) = sumTo (enG xs) n + N * W ∧
      (∀ k, k ≤ n → 0 ≤ sumTo (enG xs) k ∧ sumTo (enG xs) k ≤ 3000000) ∧ (∀ t : Int, 0 ≤ t → t ≤ 1439 → ∃ q, powerV n xs t = q ∧ q ≤ p) ∧ overV n xs p = 0 ∧ (0 < p → ∃ o, overV n xs (p - 1) = o ∧ 0 < o) := by
  subst hl
  have hB := drm_mach hn hx
  have h0 := pw_all hB
  have hal := amax_lt (pwF xs xs.length) 1440 (by omega)
  have hmx := amax_max (pwF xs xs.length) 1440
  have ePM : peakM xs.length xs = (amax (pwF xs xs.length) 1440 : Nat) := by simp [peakM, hB]
  have ePW : peakW xs.length xs = pwF xs xs.length (amax (pwF xs xs.length) 1440) := by simp [peakW, hB]
  have hsB : startB xs.length xs N W = true := by
    unfold startB
    rw [hB, inB_mk (by omega) (by omega), inB_mk (by omega) (by omega)]
    simp; omega
  have eSV : startV xs.length xs N W = (amin (stF xs xs.length N W) (1440 - N + 1) : Nat) := by
    unfold startV; rw [if_pos hsB, Int.toNat_natCast]
  have hbl := amin_lt (stF xs xs.length N W) (1440 - N + 1) (by omega)
  have hle := start_le (xs := xs) (n := xs.length) N W s (by omega) (by omega)
  obtain ⟨b, hb⟩ : ∃ b, amin (stF xs xs.length N W) (1440 - N + 1) = b := ⟨_, rfl⟩
  rw [hb] at eSV hbl hle
  have one : ∀ a : Nat, a + N ≤ 1440 → machB (xs.length + 1) (xs ++ [⟨(a : Int), (a : Int) + N, W⟩]) = true ∧ peakW (xs.length + 1) (xs ++ [⟨(a : Int), (a : Int) + N, W⟩]) = stF xs xs.length N W a := by
    intro a ha
    have hk : machB (xs.length + 1) (xs ++ [⟨(a : Int), ((a + N : Nat) : Int), W⟩]) = true := mach_app hB (maB_mk (by show (0 : Int) ≤ (a : Int); omega) (by show (a : Int) + 1 ≤ ((a + N : Nat) : Int); omega) (by show ((a + N : Nat) : Int) ≤ 1440; omega) (by show 1 ≤ W; omega) (by show W ≤ 10000; omega)) (by omega)
    have hp := peak_app a N W hB (by omega) (by omega) ha (by omega) hk
    rw [show ((a + N : Nat) : Int) = (a : Int) + N by omega] at hk hp
    refine ⟨hk, ?_⟩
    unfold peakW
    rw [if_pos hk]
    exact hp
  obtain ⟨kb, pb⟩ := one b (by omega)
  obtain ⟨ks, ps⟩ := one s (by omega)
  have hst : stF xs xs.length N W b = max (pwF xs xs.length (amax (pwF xs xs.length) 1440)) (wmx (pwF xs xs.length) b N + W) := rfl
  have hwn := wmx_nn (pwF xs xs.length) b N
  refine ⟨_, _, _, _, _, _, b, hB, ePM, ePW, ⟨by omega, by omega⟩, h0 _, eSV, by omega, ?_, pb, rfl, ps, rfl, hle, by rw [hst]; omega, by rw [hst]; omega, by unfold energyV; rw [if_pos hB], ?_, ?_, ?_, ?_, ?_⟩
  · unfold powerV
    rw [hB, inB_mk (by omega) (by omega)]
    rfl
  · unfold energyV
    rw [if_pos kb, en_app]
    congr 1
    show W * ((b : Int) + N - b) = N * W
    rw [show (b : Int) + N - b = N by omega, Int.mul_comm]
  · intro k hk
    have := sumTo_bd (enG xs) 600000 k fun i hi => by
      obtain ⟨h1, h2, h3, h4⟩ := hx i (by omega)
      have := mul_in (a := (xs.getD i z26).f2) (b := (xs.getD i z26).f1 - (xs.getD i z26).f0) (A := 3000) (B := 200) (by omega) (by omega) (by omega) (by omega)
      unfold enG
      omega
    omega
  · intro t ht0 ht1
    obtain ⟨u, rfl⟩ : ∃ u : Nat, t = (u : Int) := ⟨t.toNat, by omega⟩
    refine ⟨pwF xs xs.length u, ?_, hmx u (by omega)⟩
    unfold powerV
    rw [hB, inB_mk (by omega) (by omega)]
    rfl
  · unfold overV
    have := h0 (amax (pwF xs xs.length) 1440)
    rw [hB, inB_mk (by omega) (by omega)]
    exact ovr_none _ _ _ hmx
  · intro hp
    have := h0 (amax (pwF xs xs.length) 1440)
    refine ⟨_, ?_, ovr_some (pwF xs xs.length) (pwF xs xs.length (amax (pwF xs xs.length) 1440) - 1) 1440 _ hal (by omega)⟩
    unfold overV
    rw [hB, inB_mk (by omega) (by omega)]
    rfl
end Go.Proofs.Ythndjpklfgcpmaa
