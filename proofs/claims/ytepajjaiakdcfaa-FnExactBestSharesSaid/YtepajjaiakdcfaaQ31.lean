/- Chapter 31: BestShares: the specification. -/
import Derived.Test.YtepajjaiakdcfaaP31
namespace Go.Proofs.Ytepajjaiakdcfaa
open Go.ChangeShapes Go.WideShapes Go.ChangeAt Go.RowKit
set_option linter.unusedVariables false
set_option linter.unusedSimpArgs false
set_option maxHeartbeats 2000000

theorem noP_of {n : Nat} {xs : List Int} {N v : Int} {m : Nat} (h : (cutL n xs v).length = m) : noP n xs N v = !decide (N ≤ (m : Int)) := by rw [← h]; rfl
set_option maxRecDepth 20000 in
set_option maxHeartbeats 8000000 in
theorem sBestShares (A : Option Addr) (n c : Nat) (xs : List Int) (N : Int) (w : World) (hn : n ≤ maxLen) (hx : ReadsI w A n xs) : Calls Try.prog 34 #[.slice A n c, .int .i64 N] w (Val (i64 (bestV n xs N)) w) := by
  have hn' := hn
  unfold maxLen at hn
  have i0 := In.refl w
  cases h1 : cakeB n xs
  · have HB : Hid (bestV n xs N = -1) := Lib.hid (by simp [bestV, h1])
    go_enter Try.func34, Try.ntmps34
    go_wp2_with fail
    refine (sCakeOk A n c xs _ hn' hx).mono ?_
    rintro _ _ ⟨rfl, rfl⟩
    rw [h1]
    go_wp2
    go_ret
    exact Val.mk' (v_int HB.out.symm) i0
  cases h2 : inB N 1 10
  · have HB : Hid (bestV n xs N = -1) := Lib.hid (by simp [bestV, h2])
    go_enter Try.func34, Try.ntmps34
    go_wp2_with fail
    refine (sCakeOk A n c xs _ hn' hx).mono ?_
    rintro _ _ ⟨rfl, rfl⟩
    rw [h1]
    go_wp2_with (first | (go_at_call 79; refine (sIn _ _ _ _).mono ?_; rintro e w' ⟨rfl, rfl⟩) | (go_at_call 84; refine (iIn _ _ _ _).mono ?_; rintro e w' ⟨rfl, rfl⟩))
    go_ret
    exact Val.mk' (v_int HB.out.symm) i0
  by_cases h3 : (n : Int) < N
  · have HB := Lib.hid (best_few (xs := xs) h3)
    have HCK := Lib.hid (sCakeOk A n c xs w hn' hx)
    rw [h1] at HCK
    clear h1 hx
    go_enter Try.func34, Try.ntmps34
    go_wp2_with fail
    refine HCK.out.mono ?_
    rintro _ _ ⟨rfl, rfl⟩
    go_wp2_with fail
    refine (sIn _ _ _ _).mono ?_
    rintro _ _ ⟨rfl, rfl⟩
    rw [h2]
    clear h2
    go_wp2
    go_ret
    exact Val.mk' (v_int HB.out.symm) i0
  obtain ⟨n1, n40, hs⟩ := cake_at h1
  obtain ⟨N1, N10⟩ := inB_tt h2
  have hW := lsum_in 1000 hs
  have HBV := Lib.hid (fun r hr => best_of (n := n) (xs := xs) (N := N) (r := r) (by rw [h1, h2]; rfl) hr)
  have HSU := Lib.hid (fun W (h : ReadsI W A n xs) => sl02Sum A n c xs W (by omega) (wide9 hs) h)
  have HSC := Lib.hid (fun v W (h : ReadsI W A n xs) => sCuts A n c xs v W n40 hs h)
  have HMO := Lib.hid (fun a b (hab : a ≤ b) ha => noP_mono (N := N) hs hab ha)
  have HZ : Hid (noP n xs N 0 = false) := Lib.hid (by
    have := (ct_zero hs n (Nat.le_refl _)).2
    simp only [noP, Bool.not_eq_false', decide_eq_true_eq]; omega)
  have HCK := Lib.hid (sCakeOk A n c xs w hn' hx)
  rw [h1] at HCK
  obtain ⟨W, hWW⟩ : ∃ W, lsum xs n = W := ⟨_, rfl⟩
  rw [hWW] at hW HBV HSU
  have hW2 : 0 ≤ W ∧ W ≤ 40000 := by omega
  have HR := Lib.hid hx
  clear hW hWW hs h1 hx
  go_enter Try.func34, Try.ntmps34
  go_wp2_with fail
  refine HCK.out.mono ?_
  rintro _ _ ⟨rfl, rfl⟩
  go_wp2_with fail
  refine (sIn _ _ _ _).mono ?_
  rintro _ _ ⟨rfl, rfl⟩
  rw [h2]
  clear h2
  go_wp2_with fail
  refine (HSU.out _ HR.out).mono ?_
  rintro _ _ ⟨rfl, rfl⟩
  go_wp2
  go_loopw [5, 6] (fun s t wr => ∃ (a b : Int), 0 ≤ a ∧ a ≤ b ∧ b ≤ W ∧ s = .int .i64 a ∧ t = .int .i64 b ∧ In w.heap.size w wr ∧ noP n xs N a = false ∧ (b < W → noP n xs N (b + 1) = true)) (fun s t _ => (intOf t - intOf s).toNat)
  case atStart => exact ⟨0, W, by omega, by omega, by omega, rfl, rfl, i0, HZ.out, fun h => by omega⟩
  case round =>
    obtain ⟨a, b, a0, ab, bW, rfl, rfl, hi, ha, hb⟩ := hrel
    have HA := Lib.hid ha
    have HBB := Lib.hid hb
    clear ha hb
    by_cases hlt : a < b
    · obtain ⟨m, hm⟩ : ∃ m, (a + b + 1) / 2 = m := ⟨_, rfl⟩
      have m1 : a < m := by omega
      have m2 : m ≤ b := by omega
      have Q1 : (a + b + 1).tdiv 2 = m := by rw [Int.tdiv_eq_ediv_of_nonneg (by omega), hm]
      have HC := Lib.hid (HSC.out m wr (reads_in HR.out hi))
      clear hm
      go_wp2_with fail
      refine HC.out.mono ?_
      rintro _ w1 ⟨B, d, rfl, hown, hb1⟩
      have HI := Lib.hid (hi.step hb1)
      obtain ⟨L, hL⟩ : ∃ L, (cutL n xs m).length = L := ⟨_, rfl⟩
      have HNP := Lib.hid (noP_of (N := N) hL)
      rw [hL]
      clear hown hb1 hL Q1 HC
      by_cases hge : N ≤ (L : Int)
      · go_wp2
        go_roundw
        case rel => exact ⟨m, b, by omega, by omega, by omega, rfl, rfl, HI.out, by rw [HNP.out, decide_eq_true (by omega)]; rfl, HBB.out⟩
        case measure => simp [intOf]; omega
      · go_wp2
        go_roundw
        case rel => exact ⟨a, m - 1, by omega, by omega, by omega, rfl, rfl, HI.out, HA.out, fun _ => by rw [show m - 1 + 1 = m by omega, HNP.out, decide_eq_false (by omega)]; rfl⟩
        case measure => simp [intOf]; omega
    · have hab : a = b := by omega
      subst hab
      have HV := Lib.hid (HBV.out (a + 1) ⟨by omega, by omega, fun x x0 x1 => (by
        cases hx : noP n xs N x
        · rfl
        · have h9 := HMO.out x a (by omega) hx
          rw [HA.out] at h9; exact absurd h9 (by simp)), fun h => HBB.out (by omega)⟩)
      go_wp2
      go_ret
      exact Val.mk' (v_int (by rw [HV.out]; omega)) hi
end Go.Proofs.Ytepajjaiakdcfaa
