/- Chapter 31: Shares. -/
import Derived.Test.YtepajjaiakdcfaaK31
namespace Go.Proofs.Ytepajjaiakdcfaa
open Go.ChangeShapes Go.WideShapes Go.ChangeAt Go.RowKit
set_option linter.unusedVariables false
set_option linter.unusedSimpArgs false
set_option maxHeartbeats 2000000

theorem rowV_of9 {a w : World} {A : Option Addr} {n c : Nat} {zs : List Int} {v : Value} (hl : zs.length = n) (ho : w.ownsRow a.heap.size 3 1 (.slice A n c) n (iv zs)) (hb : Below a.heap.size a w) : RowV zs v a (.returned (.tuple #[.slice A n c, v])) w := by
  subst hl; exact ⟨_, _, rfl, ho, hb⟩
theorem wide9 {n : Nat} {xs : List Int} (hs : ∀ i, i < n → 0 ≤ xs.getD i 0 ∧ xs.getD i 0 ≤ 1000) : ∀ i, i < n → 0 ≤ xs.getD i 0 ∧ xs.getD i 0 ≤ 1000000000 := fun i hi => by have := hs i hi; omega
theorem vq_in {W N : Int} (hW : 0 ≤ W ∧ W ≤ 40000) (hN : 1 ≤ N ∧ N ≤ 10) : 0 ≤ (W + N - 1) / N ∧ (W + N - 1) / N ≤ 40020 := by
  refine ⟨Int.ediv_nonneg (by omega) (by omega), ?_⟩
  have h2 : (W + N - 1) / N ≤ W + N - 1 := Int.ediv_le_self N (by omega)
  omega
theorem own_cap_9 {w : World} {base n c : Nat} {e : TypeId} {A : Option Addr} {xs : List Value} (h : w.ownsRow base e 1 (.slice A n c) n xs) : n ≤ c := by
  rcases h.2 with ⟨h1, h2⟩ | ⟨g, cap, cur, hv, hg, hh, hnc, _⟩
  · omega
  · injection hv with _ _ h3; omega
set_option maxRecDepth 20000 in
set_option maxHeartbeats 8000000 in
theorem sShares (A : Option Addr) (n c : Nat) (xs : List Int) (N : Int) (w : World) (hn : n ≤ maxLen) (hx : ReadsI w A n xs) : Calls Try.prog 31 #[.slice A n c, .int .i64 N] w (RowV (SharesL n xs N) (.bool (SharesB n xs N)) w) := by
  have hn' := hn
  unfold maxLen at hn
  cases h1 : cakeB n xs
  · have HB : Hid (SharesB n xs N = false) := Lib.hid (by simp [SharesB, h1])
    have HL : Hid (SharesL n xs N = []) := Lib.hid (by simp [SharesL, HB.out])
    go_enter Try.func31, Try.ntmps31
    go_wp2_with fail
    refine (sCakeOk A n c xs _ hn' hx).mono ?_
    rintro _ _ ⟨rfl, rfl⟩
    rw [h1]
    go_wp2
    exact bodyPost_ret (v := .tuple #[.slice (some ⟨w.heap.size, 0, none⟩) 0 0, .bool false]) (by simp [results, Try.results31, go_sem]) rfl (by rw [HL.out, HB.out]; exact rowV_of9 rfl (own_new1 w 3 w.heap.size (Nat.le_refl _)) ((In.refl w).alloc _).below)
  cases h2 : inB N 1 10
  · have HB : Hid (SharesB n xs N = false) := Lib.hid (by simp [SharesB, h2])
    have HL : Hid (SharesL n xs N = []) := Lib.hid (by simp [SharesL, HB.out])
    go_enter Try.func31, Try.ntmps31
    go_wp2_with fail
    refine (sCakeOk A n c xs _ hn' hx).mono ?_
    rintro _ _ ⟨rfl, rfl⟩
    rw [h1]
    go_wp2_with (first | (go_at_call 79; refine (sIn _ _ _ _).mono ?_; rintro e w' ⟨rfl, rfl⟩) | (go_at_call 84; refine (iIn _ _ _ _).mono ?_; rintro e w' ⟨rfl, rfl⟩))
    exact bodyPost_ret (v := .tuple #[.slice (some ⟨w.heap.size, 0, none⟩) 0 0, .bool false]) (by simp [results, Try.results31, go_sem]) rfl (by rw [HL.out, HB.out]; exact rowV_of9 rfl (own_new1 w 3 w.heap.size (Nat.le_refl _)) ((In.refl w).alloc _).below)
  obtain ⟨n1, n40, hs⟩ := cake_at h1
  obtain ⟨N1, N10⟩ := inB_tt h2
  have hW := lsum_in 1000 hs
  have HV : Hid (SharesB n xs N = decide (N ≤ ((cutL n xs ((lsum xs n + N - 1) / N)).length : Int)) ∧ (SharesB n xs N = true → SharesL n xs N = (cutL n xs ((lsum xs n + N - 1) / N)).take (N.toNat - 1)) ∧ (SharesB n xs N = false → SharesL n xs N = [])) := Lib.hid ⟨by simp [SharesB, h1, h2], fun h => by simp [SharesL, h], fun h => by simp [SharesL, h]⟩
  have HSU := Lib.hid (fun W (h : ReadsI W A n xs) => sl02Sum A n c xs W (by omega) (wide9 hs) h)
  have HSC := Lib.hid (fun v W (h : ReadsI W A n xs) => sCuts A n c xs v W n40 hs h)
  have HCK := Lib.hid (sCakeOk A n c xs w hn' hx)
  rw [h1] at HCK
  obtain ⟨W, hWW⟩ : ∃ W, lsum xs n = W := ⟨_, rfl⟩
  rw [hWW] at hW HV HSU
  have hW2 : 0 ≤ W ∧ W ≤ 40000 := by omega
  obtain ⟨h3, h4⟩ := vq_in hW2 ⟨N1, N10⟩
  obtain ⟨v, hv⟩ : ∃ v, (W + N - 1) / N = v := ⟨_, rfl⟩
  rw [hv] at h3 h4 HV
  have Q1 : (W + N - 1).tdiv N = v := by rw [Int.tdiv_eq_ediv_of_nonneg (by omega), hv]
  have Q2 : (N == 0) = false := by simp; omega
  have Q3 : ¬ N = 0 := by omega
  obtain ⟨q, hq⟩ : ∃ q : Nat, (q : Int) = N - 1 := ⟨(N - 1).toNat, by omega⟩
  have HQ := Lib.hid hq
  have HR := Lib.hid hx
  have HIN := Lib.hid h2
  clear hW hWW hv hs h1 hx hq
  go_enter Try.func31, Try.ntmps31
  go_wp2_with fail
  refine HCK.out.mono ?_
  rintro _ _ ⟨rfl, rfl⟩
  go_wp2_with fail
  refine (sIn _ _ _ _).mono ?_
  rintro _ _ ⟨rfl, rfl⟩
  rw [h2]
  clear h2
  go_wp2_with fail
  refine (HSU.out _ HR.out).mono ?_
  rintro _ _ ⟨rfl, rfl⟩
  go_wp2_with fail
  refine (HSC.out v _ HR.out).mono ?_
  rintro _ w1 ⟨B, d, rfl, hown, hb1⟩
  have hcap := own_cap_9 hown
  obtain ⟨L, hL⟩ : ∃ L, cutL n xs v = L := ⟨_, rfl⟩
  rw [hL] at hown hcap HV ⊢
  obtain ⟨m, hm⟩ : ∃ m, L.length = m := ⟨_, rfl⟩
  rw [hm] at hown hcap HV ⊢
  have HM := Lib.hid hm
  clear hL hm Q1 Q2 h3 h4
  by_cases hge : N ≤ (m : Int)
  · have HB : Hid (SharesB n xs N = true) := Lib.hid (by rw [HV.out.1]; exact decide_eq_true hge)
    have HL := Lib.hid (HV.out.2.1 HB.out)
    have hqm : q ≤ m := by have := HQ.out; omega
    have hNq : N - 1 = (q : Int) := HQ.out.symm
    have hqd : (q : Int) ≤ d := by omega
    have ho2 := own_take hown hqm
    have HO2 := Lib.hid ho2
    have HTL : Hid ((L.take q).length = q) := Lib.hid (by rw [List.length_take]; have := HM.out; omega)
    have HQ2 : Hid (N.toNat - 1 = q) := Lib.hid (by omega)
    have hge2 : ¬ (m : Int) < N := by omega
    clear hown ho2
    go_wp2
    exact bodyPost_ret (v := .tuple #[.slice B q d, .bool true]) (by simp [results, Try.results31, go_sem]) rfl (by rw [HL.out, HB.out, HQ2.out]; exact rowV_of9 HTL.out HO2.out hb1)
  · have HB : Hid (SharesB n xs N = false) := Lib.hid (by rw [HV.out.1]; exact decide_eq_false hge)
    have HL := Lib.hid (HV.out.2.2 HB.out)
    have hge2 : (m : Int) < N := by omega
    clear hown
    go_wp2
    exact bodyPost_ret (v := .tuple #[.slice (some ⟨w1.heap.size, 0, none⟩) 0 0, .bool false]) (by simp [results, Try.results31, go_sem]) rfl (by rw [HL.out, HB.out]; exact rowV_of9 rfl (own_new1 w1 3 w.heap.size hb1.size) (hb1.trans ((Below.refl _ _).alloc hb1.size _)))
end Go.Proofs.Ytepajjaiakdcfaa
