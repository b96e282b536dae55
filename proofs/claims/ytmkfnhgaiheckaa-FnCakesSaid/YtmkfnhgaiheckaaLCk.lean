/- The law FnCakes. -/
import Derived.Test.YtmkfnhgaiheckaaCkP
import Derived.Test.YtmkfnhgaiheckaaDl31
import Derived.Test.YtmkfnhgaiheckaaQ31
import Derived.Test.YtmkfnhgaiheckaaAtAll
import Derived.Test.YtmkfnhgaiheckaaQuietL
import Derived.BigQuiet
import Derived.Deep.QuietTactic
namespace Go.Proofs.Ytmkfnhgaiheckaa
open Go.ChangeShapes Go.WideShapes Go.ChangeAt Go.RowKit
set_option linter.unusedVariables false
set_option linter.unusedSimpArgs false
set_option maxHeartbeats 2000000

set_option maxHeartbeats 40000000 in
set_option maxRecDepth 20000 in
theorem walk_FnCakes (a0 : Option Addr) (len0 cap0 : Nat) (z0 : List Int) (w : World) (w0 : IsRow .u8 w a0 len0 cap0 z0) :
    Calls Try.prog 5 #[.slice a0 len0 cap0] w fun e w' => e = .returned (.bool true) ∧ Below w.heap.size w w' := by
  have hb := ReadsU.of_row w0
  have hm := hb.1
  clear w0
  by_cases hbig : (1048576 : Int) < (len0 : Int)
  · go_enter Try.func5, Try.ntmps5
    go_wp2_with fail
    refine (bigU _ _ _ _ hm true (by simpa using hbig)).mono ?_
    rintro e w' ⟨rfl, rfl⟩
    go_wp2_with fail
    go_ret
    exact ⟨rfl, Below.refl _ _⟩
  have HB := Lib.hid hb
  obtain ⟨x0, h0, A0⟩ := at_all a0 len0 cap0 0 w (by omega) (by omega) hb
  have HA0 := Lib.hid A0
  clear A0
  go_enter Try.func5, Try.ntmps5
  go_wp2_with fail
  refine (bigU _ _ _ _ hm false (by simpa using hbig)).mono ?_
  rintro e w' ⟨rfl, rfl⟩
  clear hbig hm hb
  have f0_0 : In w.heap.size w w := In.refl w
  have hbu := HB.out
  go_wp2_with fail
  refine (DrawCakes_c _ _ _ _ (bytes_of hbu)).mono ?_
  rintro _ w1 ⟨A, cp, B, dp, n, xs, ys, rfl, ⟨hn1, hn⟩, hx, hy, hrx, hry, hnc, hcm, hnd, hdm, hb1⟩
  have f1_0 : In w.heap.size w w1 := f0_0.step hb1
  have f1_1 : ReadsI w1 A n xs := hrx
  have f1_2 : ReadsI w1 B n ys := hry
  clear f0_0
  clear hb1 hrx hry hbu
  obtain ⟨K, V, X, Y, eH, eC, hK, hV, hV2, hVX, hXM, hY2, hYY, hJ⟩ := cake_half hx hy hn1 hn
  have hnm : n ≤ maxLen := by unfold maxLen; omega
  have HHC := Lib.hid (fun W (h : ReadsI W A n xs) => iHalfCut A n cp xs W hnm hnc hcm h)
  rw [eH] at HHC
  have HCH := Lib.hid (fun W (h : ReadsI W A n xs) (k : ReadsI W B n ys) => iChooser A n cp xs B n dp ys W hnm hnc hcm h hnm hnd hdm k)
  rw [eC] at HCH
  have HSH := Lib.hid (fun (m : Int) W (h : ReadsI W A n xs) => iShares A n cp xs m W hnm hnc hcm h)
  have HBS := Lib.hid (fun (m : Int) W (h : ReadsI W A n xs) => iBestShares A n cp xs m W hnm hnc hcm h)
  have HBO := Lib.hid (fun W (h : ReadsI W A n xs) => iBestShares A n cp xs 1 W hnm hnc hcm h)
  rw [cake_1 hx hn1 hn] at HBO
  have HOK := Lib.hid (fun W (h : ReadsI W A n xs) => iCakeOk A n cp xs W hnm h)
  rw [pc_cake hx hn1 hn] at HOK
  have HX := Lib.hid hx
  have HY := Lib.hid hy
  have HSX := Lib.hid (fun k (hk : k ≤ n) => pc_in hx k hk)
  have HSY := Lib.hid (fun k (hk : k ≤ n) => pc_in hy k hk)
  have HJ := Lib.hid hJ
  have HLE := Lib.hid (fun a b (hab : a ≤ b) (hb : b ≤ n) => pc_le hx hab hb)
  have HM := Lib.hid (fun m (m1 : 1 ≤ m) (m4 : m ≤ 4) => cake_m hx hn1 hn m1 m4)
  have HV := Lib.hid hV
  clear hV
  clear hx hy eH eC hnm hJ hnc hcm hnd hdm
  go_wp2_with fail
  refine (HHC.out _ f1_1).mono ?_
  rintro _ w2 ⟨rfl, hb2⟩
  have f2_0 : In w.heap.size w w2 := f1_0.step hb2
  have f2_1 : ReadsI w2 A n xs := f1_1.step hb2
  have f2_2 : ReadsI w2 B n ys := f1_2.step hb2
  clear f1_0 f1_1 f1_2
  clear hb2
  clear HHC
  go_wp2_with fail
  refine (HCH.out _ f2_1 f2_2).mono ?_
  rintro _ w3 ⟨rfl, hb3⟩
  have f3_0 : In w.heap.size w w3 := f2_0.step hb3
  have f3_1 : ReadsI w3 A n xs := f2_1.step hb3
  have f3_2 : ReadsI w3 B n ys := f2_2.step hb3
  clear f2_0 f2_1 f2_2
  clear hb3
  clear HCH
  go_wp2
  go_loopw [10, 11, 12, 13] (fun a b c i wr => ∃ k : Nat, k ≤ n ∧ i = .int .i64 k ∧ a = .int .i64 (lsum xs k) ∧ b = .int .i64 (lsum ys k) ∧ c = .int .i64 (lsum xs (if k ≤ K then k else K)) ∧ (In w.heap.size w wr ∧ ReadsI wr A n xs ∧ ReadsI wr B n ys)) (fun _ _ _ i _ => n - (intOf i).toNat)
  case atStart => exact ⟨0, Nat.zero_le _, rfl, rfl, rfl, by simp; rfl, f3_0, f3_1, f3_2⟩
  case round =>
    obtain ⟨k, hk, rfl, rfl, rfl, rfl, f4_0, f4_1, f4_2⟩ := hrel
    clear f3_0 f3_1 f3_2
    by_cases hlt : k < n
    · skip
      obtain ⟨ad, rfl, hc0⟩ := f4_1.2 k hlt
      obtain ⟨ae, rfl, hc1⟩ := f4_2.2 k hlt
      have hxk := HX.out k hlt
      have hyk := HY.out k hlt
      have hsx := HSX.out k hk
      have hsy := HSY.out k hk
      have HS1 := Lib.hid (lsum_succ xs k)
      have HS2 := Lib.hid (lsum_succ ys k)
      have hcc : 0 ≤ lsum xs (if k ≤ K then k else K) ∧ lsum xs (if k ≤ K then k else K) ≤ 190 := by
        split
        · omega
        · have := HSX.out K hK; omega
      have HC1 : Hid (k < K → lsum xs (if k + 1 ≤ K then k + 1 else K) = lsum xs (if k ≤ K then k else K) + xs.getD k 0) := Lib.hid fun h => by rw [if_pos (by omega), if_pos (by omega)]; exact HS1.out
      have HC2 : Hid (¬ k < K → lsum xs (if k + 1 ≤ K then k + 1 else K) = lsum xs (if k ≤ K then k else K)) := Lib.hid fun h => by
        rw [if_neg (show ¬ k + 1 ≤ K by omega)]
        by_cases e : k ≤ K
        · rw [if_pos e, show K = k by omega]
        · rw [if_neg e]
      have hx9 : (k : Int) * 19 ≤ 190 := by omega
      generalize lsum xs (if k ≤ K then k else K) = C0 at *
      generalize lsum xs k = X0 at *
      generalize lsum ys k = Y0 at *
      generalize xs.getD k 0 = x at *
      generalize ys.getD k 0 = y at *
      by_cases hkK : k < K
      · skip
        have hkKi : (k : Int) < (K : Int) := by omega
        have HCE := Lib.hid (HC1.out hkK)
        clear HC1 HC2
        go_wp2
        go_roundw
        case rel => exact ⟨k + 1, by omega, by go_num, v_int HS1.out.symm, v_int HS2.out.symm, v_int HCE.out.symm, f4_0, f4_1, f4_2⟩
        case measure => simp [intOf]; omega
      · skip
        have hkKi : (K : Int) ≤ (k : Int) := by omega
        have HCE := Lib.hid (HC2.out hkK)
        clear HC1 HC2
        go_wp2
        go_roundw
        case rel => exact ⟨k + 1, by omega, by go_num, v_int HS1.out.symm, v_int HS2.out.symm, v_int HCE.out.symm, f4_0, f4_1, f4_2⟩
        case measure => simp [intOf]; omega
    · skip
      obtain rfl : n = k := by omega
      have hlf := HSX.out K hK
      have hm := HSX.out n (Nat.le_refl _)
      have hy9 := HSY.out n (Nat.le_refl _)
      have hlm := HLE.out K n hK (Nat.le_refl _)
      have hnK : (if n ≤ K then n else K) = K := by split <;> omega
      rw [hnK]
      clear hnK hlt hk
      obtain ⟨M, hMM⟩ : ∃ M, lsum xs n = M := ⟨_, rfl⟩
      obtain ⟨N2, hNN⟩ : ∃ M, lsum ys n = M := ⟨_, rfl⟩
      obtain ⟨lf, hLF⟩ : ∃ M, lsum xs K = M := ⟨_, rfl⟩
      rw [hMM] at HV hXM hm hlm HJ HBO
      rw [hNN] at hYY hy9
      rw [hLF] at HV hlf hlm
      rw [hMM, hNN, hLF]
      have hMv : 0 ≤ M ∧ M ≤ 190 := by omega
      have hNv : 0 ≤ N2 ∧ N2 ≤ 190 := by omega
      have hLv : 0 ≤ lf ∧ lf ≤ 190 := by omega
      have hXv : 0 ≤ X ∧ X ≤ 190 := by omega
      clear hm hy9 hlf HY HSY
      have HMM := Lib.hid hMM
      clear hMM hNN hLF
      have k1_ : (0 : Int) ≤ (K : Int) := by omega
      have k2_ : (K : Int) ≤ (n : Int) := by omega
      have d1 : decide ((K : Int) < 0) = false := decide_eq_false (by omega)
      have d2 : decide ((n : Int) < (K : Int)) = false := decide_eq_false (by omega)
      have d3 : decide (X < V) = false := decide_eq_false (by omega)
      have d4 : decide (2 * Y < N2) = false := decide_eq_false (by omega)
      have d5 : decide (M < X) = false := decide_eq_false (by omega)
      have V0 : wrap64 (2 * Y) = 2 * Y := w64 ⟨by omega, by omega⟩
      have V1 : IntKind.i64.wrap (2 * Y) = 2 * Y := by rw [IntWalk.i64_in _ (by omega)]
      have V2w : wrap64 (M - lf) = M - lf := w64 ⟨by omega, by omega⟩
      have V2 : IntKind.i64.wrap (M - lf) = M - lf := by rw [IntWalk.i64_in _ (by omega)]
      obtain ⟨wa, hq9⟩ : ∃ q, q = wr := ⟨_, rfl⟩
      subst hq9
      by_cases hml : lf ≤ M - lf
      · skip
        obtain rfl : V = lf := by rw [HV.out, if_neg (by omega)]
        clear HV
        go_wp2
        go_loopw [14, 15] (fun a i wr => ∃ k : Nat, k ≤ n ∧ i = .int .i64 k ∧ a = .int .i64 (lsum xs k) ∧ (In w.heap.size w wr ∧ ReadsI wr A n xs ∧ ReadsI wr B n ys)) (fun _ i _ => n - (intOf i).toNat)
        case atStart => exact ⟨0, Nat.zero_le _, rfl, rfl, f4_0, f4_1, f4_2⟩
        case round =>
          obtain ⟨k, hk, rfl, rfl, f5_0, f5_1, f5_2⟩ := hrel
          clear f4_0 f4_1 f4_2
          by_cases hlt : k < n
          · skip
            obtain ⟨ad, rfl, hc0⟩ := f5_1.2 k hlt
            have hxk := HX.out k hlt
            have hsx := HSX.out (k + 1) hlt
            have hsk := HSX.out k hk
            have hj := HJ.out (k + 1) hlt
            have HS1 := Lib.hid (lsum_succ xs k)
            have hs1 := lsum_succ xs k
            have hle := HLE.out (k + 1) n hlt (Nat.le_refl _)
            rw [HMM.out] at hle
            obtain ⟨X1, hE1⟩ : ∃ x, lsum xs (k + 1) = x := ⟨_, rfl⟩
            rw [hE1] at hsx hj HS1 hs1 hle
            have HXE := Lib.hid hE1
            clear hE1
            generalize lsum xs k = X0 at *
            generalize xs.getD k 0 = x at *
            have hX1 : 0 ≤ X1 ∧ X1 ≤ 190 := by omega
            have hX0 : 0 ≤ X0 ∧ X0 ≤ 190 := by omega
            have V3w : wrap64 (X0 + x) = X1 := by rw [w64 ⟨by omega, by omega⟩]; omega
            have V3 : IntKind.i64.wrap (X0 + x) = X1 := by rw [IntWalk.i64_in _ (by omega)]; omega
            have V4w : wrap64 (M - X1) = M - X1 := w64 ⟨by omega, by omega⟩
            have V4 : IntKind.i64.wrap (M - X1) = M - X1 := by rw [IntWalk.i64_in _ (by omega)]
            clear hsx hsk hs1 hxk
            by_cases hq : X1 ≤ M - X1
            · skip
              have g6 : X1 ≤ V := by omega
              clear hj
              go_wp2
              go_roundw
              case rel => exact ⟨k + 1, by omega, by go_num, v_int HXE.out.symm, f5_0, f5_1, f5_2⟩
              case measure => simp [intOf]; omega
            · skip
              have g6 : M - X1 ≤ V := by omega
              clear hj
              go_wp2
              go_roundw
              case rel => exact ⟨k + 1, by omega, by go_num, v_int HXE.out.symm, f5_0, f5_1, f5_2⟩
              case measure => simp [intOf]; omega
          · skip
            obtain rfl : n = k := by omega
            clear hlt hk d1 d2 d3 d4 d5 V0 V1 V2 V2w HJ
            obtain ⟨wb, hq9⟩ : ∃ q, q = wr := ⟨_, rfl⟩
            subst hq9
            go_wp2_with fail
            refine (HA0.out _ f5_0).mono ?_
            rintro e w' ⟨rfl, rfl⟩
            obtain ⟨m, hm⟩ : ∃ m : Nat, (m : Int) = 1 + x0 % 4 := ⟨(1 + x0 % 4).toNat, by omega⟩
            have m1 : 1 ≤ m := by omega
            have m4 : m ≤ 4 := by omega
            have HMX := Lib.hid hm
            clear hm
            obtain ⟨b, C, L, cm⟩ := HM.out m m1 m4
            obtain ⟨eb, eC, eL, hbr, hfew, hcan, hmost, hends⟩ := cm
            have HSM := Lib.hid (fun W (h : ReadsI W A n xs) => HSH.out (m : Int) W h)
            have HBM := Lib.hid (fun W (h : ReadsI W A n xs) => HBS.out (m : Int) W h)
            rw [eC, eL] at HSM
            rw [eb] at HBM
            clear HSH HBS eb eC eL HM
            rw [HMM.out] at hcan hmost hends
            have hbm : -10 ≤ b * (m : Int) ∧ b * (m : Int) ≤ 1000 := by rcases (show m = 1 ∨ m = 2 ∨ m = 3 ∨ m = 4 by omega) with rfl | rfl | rfl | rfl <;> omega
            generalize hBM : b * (m : Int) = bm at *
            have HEN := Lib.hid hends
            clear hends
            go_wp2_with fail
            (try simp only [Int.tmod_eq_emod_of_nonneg h0.1])
            (try rw [← HMX.out])
            obtain ⟨ln, hln⟩ : ∃ q, L.length = q := ⟨_, rfl⟩
            refine (HSM.out _ f5_1).mono ?_
            rintro _ w6 ⟨A2, c2, rfl, hr5, hb5⟩
            have hrl := reads_own_i hr5
            rw [hln] at hrl HEN
            (try rw [hln])
            have f6_0 : In w.heap.size w w6 := f5_0.step hb5
            have f6_1 : ReadsI w6 A n xs := f5_1.step hb5
            have f6_2 : ReadsI w6 B n ys := f5_2.step hb5
            have f6_3 : ReadsI w6 A2 ln L := hrl
            clear f5_0 f5_1 f5_2
            clear hb5 hr5 hrl HSM hln
            go_wp2_with fail
            refine (HBM.out _ f6_1).mono ?_
            rintro _ w7 ⟨rfl, hb7⟩
            have f7_0 : In w.heap.size w w7 := f6_0.step hb7
            have f7_1 : ReadsI w7 A n xs := f6_1.step hb7
            have f7_2 : ReadsI w7 B n ys := f6_2.step hb7
            have f7_3 : ReadsI w7 A2 ln L := f6_3.step hb7
            clear f6_0 f6_1 f6_2 f6_3
            clear hb7
            clear HBM
            have VB : IntKind.i64.wrap (b * (m : Int)) = bm := by rw [hBM, IntWalk.i64_in _ (by omega)]
            have VBw : wrap64 (b * (m : Int)) = bm := by rw [hBM, w64 ⟨by omega, by omega⟩]
            clear hBM
            have hcases : (C = true ∧ 0 ≤ b ∧ M ≤ bm ∧ m ≤ n) ∨ (C = false ∧ b = -1 ∧ n < m) ∨ (C = false ∧ 0 ≤ b ∧ bm < M ∧ m ≤ n) := by
              cases hC : C with
              | true => obtain ⟨a1, a2⟩ := hcan.1 hC; exact .inl ⟨rfl, a1, a2, by omega⟩
              | false =>
                by_cases hb1 : b = -1
                · exact .inr (.inl ⟨rfl, hb1, hfew.1 hb1⟩)
                · refine .inr (.inr ⟨rfl, by omega, ?_, by omega⟩)
                  by_cases hge : bm < M
                  · exact hge
                  · have := hcan.2 ⟨by omega, by omega⟩; rw [hC] at this; cases this
            clear hfew hcan
            rcases hcases with ⟨rfl, c1, c3, c4⟩ | ⟨rfl, rfl, c4⟩ | ⟨rfl, c1, c3, c4⟩
            · skip
              have c4i : (m : Int) ≤ (n : Int) := by omega
              have c5 : ¬ (b = -1) := by omega
              have q1 : (b == -1) = false := by simpa using c5
              have q2 : decide (n < m) = false := decide_eq_false (by omega)
              obtain ⟨hl1, E, E0, Em, hE1, hE2⟩ := HEN.out rfl
              have HE1 := Lib.hid hE1
              have HE2 := Lib.hid hE2
              have HEM := Lib.hid Em
              have HE0 := Lib.hid E0
              clear hE1 hE2 Em E0
              have HML := Lib.hid hl1
              have W1 : wrap64 ((m : Int) - 1) = (ln : Int) := by rw [w64 ⟨by omega, by omega⟩]; omega
              have W1v : IntKind.i64.wrap ((m : Int) - 1) = (ln : Int) := by rw [IntWalk.i64_in _ (by omega)]; omega
              clear hl1
              have HEB := Lib.hid (fun k (hk : k ≤ m) => show E k ≤ n by
                by_cases e : k = m
                · subst e; rw [HEM.out]; exact Nat.le_refl _
                · have := HE2.out k (by omega); omega)
              obtain ⟨wc, hq9⟩ : ∃ q, q = w7 := ⟨_, rfl⟩
              subst hq9
              go_wp2
              go_loopw [20, 21, 22, 23, 24] (fun a i a2 a3 a4 wr => ∃ k : Nat, k ≤ m ∧ i = .int .i64 k ∧ a = .int .i64 (E k : Nat) ∧ (In w.heap.size w wr ∧ ReadsI wr A n xs ∧ ReadsI wr B n ys ∧ ReadsI wr A2 ln L)) (fun _ i _ _ _ _ => m - (intOf i).toNat)
              case atStart => exact ⟨0, Nat.zero_le _, rfl, by rw [HE0.out]; rfl, f7_0, f7_1, f7_2, f7_3⟩
              case round =>
                obtain ⟨k, hk, rfl, rfl, f8_0, f8_1, f8_2, f8_3⟩ := hrel
                clear f7_0 f7_1 f7_2 f7_3
                by_cases hlt : k < m
                · skip
                  obtain ⟨g1, g2, g3⟩ := HE2.out k hlt
                  have hsx1 := HSX.out (E (k + 1)) g2
                  have hsx0 := HSX.out (E k) (by omega)
                  have hle := HLE.out (E k) (E (k + 1)) (by omega) g2
                  have hle2 := HLE.out (E (k + 1)) n g2 (Nat.le_refl _)
                  rw [HMM.out] at hle2
                  have HEK := Lib.hid (HE1.out k)
                  have HEN2 := HEM.out
                  have HEN3 : Hid (k + 1 = m → E (k + 1) = n) := Lib.hid fun h => by rw [h]; exact HEM.out
                  clear HEN2
                  obtain ⟨e1, he1⟩ : ∃ e, E (k + 1) = e := ⟨_, rfl⟩
                  rw [he1] at g1 g2 g3 hsx1 hle hle2 HEK HEN3
                  obtain ⟨e0, he0⟩ : ∃ e, E k = e := ⟨_, rfl⟩
                  rw [he0] at g1 g3 hsx0 hle ⊢
                  have HX1 := Lib.hid he1
                  clear he1 he0
                  obtain ⟨pm, hpm⟩ : ∃ q, (lsum xs e1 - lsum xs e0) * (m : Int) = q := ⟨_, rfl⟩
                  rw [hpm] at g3
                  have hpb : 0 ≤ pm ∧ pm ≤ 1000 := by
                    have h1 := Int.mul_le_mul (a := lsum xs e1 - lsum xs e0) (b := (m : Int)) (c := 190) (d := 4) (by omega) (by omega) (by omega) (by omega)
                    omega
                  have HPM := Lib.hid hpm
                  clear hpm
                  have HSE : Hid (∀ d, d ≤ e1 - e0 → lsum xs e0 ≤ lsum xs (e0 + d) ∧ lsum xs (e0 + d) ≤ 190) := Lib.hid fun d hd => by
                    have h1 := HLE.out e0 (e0 + d) (by omega) (by omega)
                    have h2 := HSX.out (e0 + d) (by omega)
                    omega
                  have hs0 : 0 ≤ lsum xs e0 := hsx0.1
                  clear hsx1 hsx0 hle hle2
                  have z0_ : (0 : Int) ≤ (e0 : Int) := by omega
                  by_cases hkl : k < ln
                  · skip
                    obtain ⟨ad2, rfl, hc2⟩ := f8_3.2 k hkl
                    have hck := HEK.out (by have := HML.out; omega)
                    rw [hck] at hc2
                    have kl_ : (k : Int) < (ln : Int) := by omega
                    clear hck
                    clear HEK HEN3
                    by_cases h0e : 0 < e0
                    · skip
                      go_wp2
                      go_loopw [23, 24] (fun p j wr => ∃ d : Nat, d ≤ e1 - e0 ∧ j = .int .i64 ((e0 + d : Nat) : Int) ∧ p = .int .i64 (lsum xs (e0 + d) - lsum xs e0) ∧ (In w.heap.size w wr ∧ ReadsI wr A n xs ∧ ReadsI wr B n ys ∧ ReadsI wr (some ad2) ln L)) (fun _ j _ => e1 - (intOf j).toNat)
                      case atStart => exact ⟨0, Nat.zero_le _, by simp, by simp, f8_0, f8_1, f8_2, f8_3⟩
                      case round =>
                        obtain ⟨d, hd, rfl, rfl, f9_0, f9_1, f9_2, f9_3⟩ := hrel
                        clear f8_0 f8_1 f8_2 f8_3
                        (try clear he00)
                        (try clear h0e)
                        by_cases hd2 : d < e1 - e0
                        · skip
                          obtain ⟨ad, rfl, hc0⟩ := f9_1.2 (e0 + d) (by omega)
                          have hxk := HX.out (e0 + d) (by omega)
                          (try simp only [] at hxk)
                          have hs1 := HSE.out d hd
                          have HS1 := Lib.hid (lsum_succ xs (e0 + d))
                          have j1_ : ((e0 + d : Nat) : Int) < (e1 : Int) := by omega
                          have j2_ : ((e0 + d : Nat) : Int) < (n : Int) := by omega
                          obtain ⟨p0, hp0⟩ : ∃ q, lsum xs (e0 + d) - lsum xs e0 = q := ⟨_, rfl⟩
                          have hpp : 0 ≤ p0 ∧ p0 ≤ 190 := by omega
                          have HP0 := Lib.hid hp0
                          rw [hp0]
                          clear hp0 hs1
                          generalize xs.getD (e0 + d) 0 = x at *
                          obtain ⟨jj, hjj⟩ : ∃ q : Nat, e0 + d = q := ⟨_, rfl⟩
                          rw [hjj] at hc0 j1_ j2_ HS1 HP0 ⊢
                          have HJJ := Lib.hid hjj
                          go_wp2
                          go_roundw
                          case rel => exact ⟨d + 1, by omega, by have := HJJ.out; go_num, v_int (by have h1 := HS1.out; have h2 := HP0.out; have h3 := HJJ.out; rw [show e0 + (d + 1) = jj + 1 by omega, h1]; omega), f9_0, f9_1, f9_2, f9_3⟩
                          case measure => simp [intOf]; omega
                        · skip
                          obtain rfl : d = e1 - e0 := by omega
                          have hee : e0 + (e1 - e0) = e1 := by omega
                          rw [hee]
                          have W2 : IntKind.i64.wrap ((lsum xs e1 - lsum xs e0) * (m : Int)) = pm := by rw [HPM.out, IntWalk.i64_in _ (by omega)]
                          have W2w : wrap64 ((lsum xs e1 - lsum xs e0) * (m : Int)) = pm := by rw [HPM.out, w64 ⟨by omega, by omega⟩]
                          have e1_ : (e0 : Int) < (e1 : Int) := by omega
                          clear hee HPM HSE
                          go_wp2
                          go_roundw
                          case rel => exact ⟨k + 1, by omega, by go_num, v_int (by rw [HX1.out]), f9_0, f9_1, f9_2, f9_3⟩
                          case measure => simp [intOf]; omega
                    · skip
                      have he00 : e0 = 0 := by omega
                      go_wp2
                      go_loopw [23, 24] (fun p j wr => ∃ d : Nat, d ≤ e1 - e0 ∧ j = .int .i64 ((e0 + d : Nat) : Int) ∧ p = .int .i64 (lsum xs (e0 + d) - lsum xs e0) ∧ (In w.heap.size w wr ∧ ReadsI wr A n xs ∧ ReadsI wr B n ys ∧ ReadsI wr (some ad2) ln L)) (fun _ j _ => e1 - (intOf j).toNat)
                      case atStart => exact ⟨0, Nat.zero_le _, by rw [he00]; rfl, by simp, f8_0, f8_1, f8_2, f8_3⟩
                      case round =>
                        obtain ⟨d, hd, rfl, rfl, f9_0, f9_1, f9_2, f9_3⟩ := hrel
                        clear f8_0 f8_1 f8_2 f8_3
                        (try clear he00)
                        (try clear h0e)
                        by_cases hd2 : d < e1 - e0
                        · skip
                          obtain ⟨ad, rfl, hc0⟩ := f9_1.2 (e0 + d) (by omega)
                          have hxk := HX.out (e0 + d) (by omega)
                          (try simp only [] at hxk)
                          have hs1 := HSE.out d hd
                          have HS1 := Lib.hid (lsum_succ xs (e0 + d))
                          have j1_ : ((e0 + d : Nat) : Int) < (e1 : Int) := by omega
                          have j2_ : ((e0 + d : Nat) : Int) < (n : Int) := by omega
                          obtain ⟨p0, hp0⟩ : ∃ q, lsum xs (e0 + d) - lsum xs e0 = q := ⟨_, rfl⟩
                          have hpp : 0 ≤ p0 ∧ p0 ≤ 190 := by omega
                          have HP0 := Lib.hid hp0
                          rw [hp0]
                          clear hp0 hs1
                          generalize xs.getD (e0 + d) 0 = x at *
                          obtain ⟨jj, hjj⟩ : ∃ q : Nat, e0 + d = q := ⟨_, rfl⟩
                          rw [hjj] at hc0 j1_ j2_ HS1 HP0 ⊢
                          have HJJ := Lib.hid hjj
                          go_wp2
                          go_roundw
                          case rel => exact ⟨d + 1, by omega, by have := HJJ.out; go_num, v_int (by have h1 := HS1.out; have h2 := HP0.out; have h3 := HJJ.out; rw [show e0 + (d + 1) = jj + 1 by omega, h1]; omega), f9_0, f9_1, f9_2, f9_3⟩
                          case measure => simp [intOf]; omega
                        · skip
                          obtain rfl : d = e1 - e0 := by omega
                          have hee : e0 + (e1 - e0) = e1 := by omega
                          rw [hee]
                          have W2 : IntKind.i64.wrap ((lsum xs e1 - lsum xs e0) * (m : Int)) = pm := by rw [HPM.out, IntWalk.i64_in _ (by omega)]
                          have W2w : wrap64 ((lsum xs e1 - lsum xs e0) * (m : Int)) = pm := by rw [HPM.out, w64 ⟨by omega, by omega⟩]
                          have e1_ : (e0 : Int) < (e1 : Int) := by omega
                          clear hee HPM HSE
                          go_wp2
                          go_roundw
                          case rel => exact ⟨k + 1, by omega, by go_num, v_int (by rw [HX1.out]), f9_0, f9_1, f9_2, f9_3⟩
                          case measure => simp [intOf]; omega
                  · skip
                    have kl_ : (ln : Int) ≤ (k : Int) := by omega
                    have hen := (HEN3.out (by have := HML.out; omega)).symm
                    clear HEK HEN3
                    subst hen
                    by_cases h0e : 0 < e0
                    · skip
                      go_wp2
                      go_loopw [23, 24] (fun p j wr => ∃ d : Nat, d ≤ n - e0 ∧ j = .int .i64 ((e0 + d : Nat) : Int) ∧ p = .int .i64 (lsum xs (e0 + d) - lsum xs e0) ∧ (In w.heap.size w wr ∧ ReadsI wr A n xs ∧ ReadsI wr B n ys ∧ ReadsI wr A2 ln L)) (fun _ j _ => n - (intOf j).toNat)
                      case atStart => exact ⟨0, Nat.zero_le _, by simp, by simp, f8_0, f8_1, f8_2, f8_3⟩
                      case round =>
                        obtain ⟨d, hd, rfl, rfl, f9_0, f9_1, f9_2, f9_3⟩ := hrel
                        clear f8_0 f8_1 f8_2 f8_3
                        (try clear he00)
                        (try clear h0e)
                        by_cases hd2 : d < n - e0
                        · skip
                          obtain ⟨ad, rfl, hc0⟩ := f9_1.2 (e0 + d) (by omega)
                          have hxk := HX.out (e0 + d) (by omega)
                          (try simp only [] at hxk)
                          have hs1 := HSE.out d hd
                          have HS1 := Lib.hid (lsum_succ xs (e0 + d))
                          have j1_ : ((e0 + d : Nat) : Int) < (n : Int) := by omega
                          have j2_ : ((e0 + d : Nat) : Int) < (n : Int) := by omega
                          obtain ⟨p0, hp0⟩ : ∃ q, lsum xs (e0 + d) - lsum xs e0 = q := ⟨_, rfl⟩
                          have hpp : 0 ≤ p0 ∧ p0 ≤ 190 := by omega
                          have HP0 := Lib.hid hp0
                          rw [hp0]
                          clear hp0 hs1
                          generalize xs.getD (e0 + d) 0 = x at *
                          obtain ⟨jj, hjj⟩ : ∃ q : Nat, e0 + d = q := ⟨_, rfl⟩
                          rw [hjj] at hc0 j1_ j2_ HS1 HP0 ⊢
                          have HJJ := Lib.hid hjj
                          go_wp2
                          go_roundw
                          case rel => exact ⟨d + 1, by omega, by have := HJJ.out; go_num, v_int (by have h1 := HS1.out; have h2 := HP0.out; have h3 := HJJ.out; rw [show e0 + (d + 1) = jj + 1 by omega, h1]; omega), f9_0, f9_1, f9_2, f9_3⟩
                          case measure => simp [intOf]; omega
                        · skip
                          obtain rfl : d = n - e0 := by omega
                          have hee : e0 + (n - e0) = n := by omega
                          rw [hee]
                          have W2 : IntKind.i64.wrap ((lsum xs n - lsum xs e0) * (m : Int)) = pm := by rw [HPM.out, IntWalk.i64_in _ (by omega)]
                          have W2w : wrap64 ((lsum xs n - lsum xs e0) * (m : Int)) = pm := by rw [HPM.out, w64 ⟨by omega, by omega⟩]
                          have e1_ : (e0 : Int) < (n : Int) := by omega
                          clear hee HPM HSE
                          go_wp2
                          go_roundw
                          case rel => exact ⟨k + 1, by omega, by go_num, v_int (by rw [HX1.out]), f9_0, f9_1, f9_2, f9_3⟩
                          case measure => simp [intOf]; omega
                    · skip
                      have he00 : e0 = 0 := by omega
                      go_wp2
                      go_loopw [23, 24] (fun p j wr => ∃ d : Nat, d ≤ n - e0 ∧ j = .int .i64 ((e0 + d : Nat) : Int) ∧ p = .int .i64 (lsum xs (e0 + d) - lsum xs e0) ∧ (In w.heap.size w wr ∧ ReadsI wr A n xs ∧ ReadsI wr B n ys ∧ ReadsI wr A2 ln L)) (fun _ j _ => n - (intOf j).toNat)
                      case atStart => exact ⟨0, Nat.zero_le _, by rw [he00]; rfl, by simp, f8_0, f8_1, f8_2, f8_3⟩
                      case round =>
                        obtain ⟨d, hd, rfl, rfl, f9_0, f9_1, f9_2, f9_3⟩ := hrel
                        clear f8_0 f8_1 f8_2 f8_3
                        (try clear he00)
                        (try clear h0e)
                        by_cases hd2 : d < n - e0
                        · skip
                          obtain ⟨ad, rfl, hc0⟩ := f9_1.2 (e0 + d) (by omega)
                          have hxk := HX.out (e0 + d) (by omega)
                          (try simp only [] at hxk)
                          have hs1 := HSE.out d hd
                          have HS1 := Lib.hid (lsum_succ xs (e0 + d))
                          have j1_ : ((e0 + d : Nat) : Int) < (n : Int) := by omega
                          have j2_ : ((e0 + d : Nat) : Int) < (n : Int) := by omega
                          obtain ⟨p0, hp0⟩ : ∃ q, lsum xs (e0 + d) - lsum xs e0 = q := ⟨_, rfl⟩
                          have hpp : 0 ≤ p0 ∧ p0 ≤ 190 := by omega
                          have HP0 := Lib.hid hp0
                          rw [hp0]
                          clear hp0 hs1
                          generalize xs.getD (e0 + d) 0 = x at *
                          obtain ⟨jj, hjj⟩ : ∃ q : Nat, e0 + d = q := ⟨_, rfl⟩
                          rw [hjj] at hc0 j1_ j2_ HS1 HP0 ⊢
                          have HJJ := Lib.hid hjj
                          go_wp2
                          go_roundw
                          case rel => exact ⟨d + 1, by omega, by have := HJJ.out; go_num, v_int (by have h1 := HS1.out; have h2 := HP0.out; have h3 := HJJ.out; rw [show e0 + (d + 1) = jj + 1 by omega, h1]; omega), f9_0, f9_1, f9_2, f9_3⟩
                          case measure => simp [intOf]; omega
                        · skip
                          obtain rfl : d = n - e0 := by omega
                          have hee : e0 + (n - e0) = n := by omega
                          rw [hee]
                          have W2 : IntKind.i64.wrap ((lsum xs n - lsum xs e0) * (m : Int)) = pm := by rw [HPM.out, IntWalk.i64_in _ (by omega)]
                          have W2w : wrap64 ((lsum xs n - lsum xs e0) * (m : Int)) = pm := by rw [HPM.out, w64 ⟨by omega, by omega⟩]
                          have e1_ : (e0 : Int) < (n : Int) := by omega
                          clear hee HPM HSE
                          go_wp2
                          go_roundw
                          case rel => exact ⟨k + 1, by omega, by go_num, v_int (by rw [HX1.out]), f9_0, f9_1, f9_2, f9_3⟩
                          case measure => simp [intOf]; omega
                · skip
                  obtain rfl : k = m := by omega
                  clear HEN HE1 HE2 HEB HEM HE0
                  obtain ⟨we, hq9⟩ : ∃ q, q = wr := ⟨_, rfl⟩
                  subst hq9
                  go_wp2_with fail
                  refine (HOK.out _ f8_1).mono ?_
                  rintro e w' ⟨rfl, rfl⟩
                  go_wp2_with fail
                  refine (HBO.out _ f8_1).mono ?_
                  rintro _ w9 ⟨rfl, hb9⟩
                  have f9_0 : In w.heap.size w w9 := f8_0.step hb9
                  have f9_1 : ReadsI w9 A n xs := f8_1.step hb9
                  have f9_2 : ReadsI w9 B n ys := f8_2.step hb9
                  have f9_3 : ReadsI w9 A2 ln L := f8_3.step hb9
                  clear f8_0 f8_1 f8_2 f8_3
                  clear hb9
                  go_wp2
                  go_ret
                  exact ⟨ret_bool (by first | rfl | exact decide_eq_true (by omega)), f9_0.below⟩
            · skip
              have c4i : (n : Int) < (m : Int) := by omega
              clear HEN
              obtain ⟨wc, hq9⟩ : ∃ q, q = w7 := ⟨_, rfl⟩
              subst hq9
              go_wp2_with fail
              refine (HOK.out _ f7_1).mono ?_
              rintro e w' ⟨rfl, rfl⟩
              go_wp2_with fail
              refine (HBO.out _ f7_1).mono ?_
              rintro _ w8 ⟨rfl, hb8⟩
              have f8_0 : In w.heap.size w w8 := f7_0.step hb8
              have f8_1 : ReadsI w8 A n xs := f7_1.step hb8
              have f8_2 : ReadsI w8 B n ys := f7_2.step hb8
              have f8_3 : ReadsI w8 A2 ln L := f7_3.step hb8
              clear f7_0 f7_1 f7_2 f7_3
              clear hb8
              go_wp2
              go_ret
              exact ⟨ret_bool (by first | rfl | exact decide_eq_true (by omega)), f8_0.below⟩
            · skip
              have c4i : (m : Int) ≤ (n : Int) := by omega
              have c5 : ¬ (b = -1) := by omega
              have q1 : (b == -1) = false := by simpa using c5
              have q2 : decide (n < m) = false := decide_eq_false (by omega)
              clear HEN
              obtain ⟨wc, hq9⟩ : ∃ q, q = w7 := ⟨_, rfl⟩
              subst hq9
              go_wp2_with fail
              refine (HOK.out _ f7_1).mono ?_
              rintro e w' ⟨rfl, rfl⟩
              go_wp2_with fail
              refine (HBO.out _ f7_1).mono ?_
              rintro _ w8 ⟨rfl, hb8⟩
              have f8_0 : In w.heap.size w w8 := f7_0.step hb8
              have f8_1 : ReadsI w8 A n xs := f7_1.step hb8
              have f8_2 : ReadsI w8 B n ys := f7_2.step hb8
              have f8_3 : ReadsI w8 A2 ln L := f7_3.step hb8
              clear f7_0 f7_1 f7_2 f7_3
              clear hb8
              go_wp2
              go_ret
              exact ⟨ret_bool (by first | rfl | exact decide_eq_true (by omega)), f8_0.below⟩
      · skip
        obtain rfl : V = M - lf := by rw [HV.out, if_pos (by omega)]
        clear HV
        go_wp2
        go_loopw [14, 15] (fun a i wr => ∃ k : Nat, k ≤ n ∧ i = .int .i64 k ∧ a = .int .i64 (lsum xs k) ∧ (In w.heap.size w wr ∧ ReadsI wr A n xs ∧ ReadsI wr B n ys)) (fun _ i _ => n - (intOf i).toNat)
        case atStart => exact ⟨0, Nat.zero_le _, rfl, rfl, f4_0, f4_1, f4_2⟩
        case round =>
          obtain ⟨k, hk, rfl, rfl, f5_0, f5_1, f5_2⟩ := hrel
          clear f4_0 f4_1 f4_2
          by_cases hlt : k < n
          · skip
            obtain ⟨ad, rfl, hc0⟩ := f5_1.2 k hlt
            have hxk := HX.out k hlt
            have hsx := HSX.out (k + 1) hlt
            have hsk := HSX.out k hk
            have hj := HJ.out (k + 1) hlt
            have HS1 := Lib.hid (lsum_succ xs k)
            have hs1 := lsum_succ xs k
            have hle := HLE.out (k + 1) n hlt (Nat.le_refl _)
            rw [HMM.out] at hle
            obtain ⟨X1, hE1⟩ : ∃ x, lsum xs (k + 1) = x := ⟨_, rfl⟩
            rw [hE1] at hsx hj HS1 hs1 hle
            have HXE := Lib.hid hE1
            clear hE1
            generalize lsum xs k = X0 at *
            generalize xs.getD k 0 = x at *
            have hX1 : 0 ≤ X1 ∧ X1 ≤ 190 := by omega
            have hX0 : 0 ≤ X0 ∧ X0 ≤ 190 := by omega
            have V3w : wrap64 (X0 + x) = X1 := by rw [w64 ⟨by omega, by omega⟩]; omega
            have V3 : IntKind.i64.wrap (X0 + x) = X1 := by rw [IntWalk.i64_in _ (by omega)]; omega
            have V4w : wrap64 (M - X1) = M - X1 := w64 ⟨by omega, by omega⟩
            have V4 : IntKind.i64.wrap (M - X1) = M - X1 := by rw [IntWalk.i64_in _ (by omega)]
            clear hsx hsk hs1 hxk
            by_cases hq : X1 ≤ M - X1
            · skip
              have g6 : X1 ≤ (M - lf) := by omega
              clear hj
              go_wp2
              go_roundw
              case rel => exact ⟨k + 1, by omega, by go_num, v_int HXE.out.symm, f5_0, f5_1, f5_2⟩
              case measure => simp [intOf]; omega
            · skip
              have g6 : M - X1 ≤ (M - lf) := by omega
              clear hj
              go_wp2
              go_roundw
              case rel => exact ⟨k + 1, by omega, by go_num, v_int HXE.out.symm, f5_0, f5_1, f5_2⟩
              case measure => simp [intOf]; omega
          · skip
            obtain rfl : n = k := by omega
            clear hlt hk d1 d2 d3 d4 d5 V0 V1 V2 V2w HJ
            obtain ⟨wb, hq9⟩ : ∃ q, q = wr := ⟨_, rfl⟩
            subst hq9
            go_wp2_with fail
            refine (HA0.out _ f5_0).mono ?_
            rintro e w' ⟨rfl, rfl⟩
            obtain ⟨m, hm⟩ : ∃ m : Nat, (m : Int) = 1 + x0 % 4 := ⟨(1 + x0 % 4).toNat, by omega⟩
            have m1 : 1 ≤ m := by omega
            have m4 : m ≤ 4 := by omega
            have HMX := Lib.hid hm
            clear hm
            obtain ⟨b, C, L, cm⟩ := HM.out m m1 m4
            obtain ⟨eb, eC, eL, hbr, hfew, hcan, hmost, hends⟩ := cm
            have HSM := Lib.hid (fun W (h : ReadsI W A n xs) => HSH.out (m : Int) W h)
            have HBM := Lib.hid (fun W (h : ReadsI W A n xs) => HBS.out (m : Int) W h)
            rw [eC, eL] at HSM
            rw [eb] at HBM
            clear HSH HBS eb eC eL HM
            rw [HMM.out] at hcan hmost hends
            have hbm : -10 ≤ b * (m : Int) ∧ b * (m : Int) ≤ 1000 := by rcases (show m = 1 ∨ m = 2 ∨ m = 3 ∨ m = 4 by omega) with rfl | rfl | rfl | rfl <;> omega
            generalize hBM : b * (m : Int) = bm at *
            have HEN := Lib.hid hends
            clear hends
            go_wp2_with fail
            (try simp only [Int.tmod_eq_emod_of_nonneg h0.1])
            (try rw [← HMX.out])
            obtain ⟨ln, hln⟩ : ∃ q, L.length = q := ⟨_, rfl⟩
            refine (HSM.out _ f5_1).mono ?_
            rintro _ w6 ⟨A2, c2, rfl, hr5, hb5⟩
            have hrl := reads_own_i hr5
            rw [hln] at hrl HEN
            (try rw [hln])
            have f6_0 : In w.heap.size w w6 := f5_0.step hb5
            have f6_1 : ReadsI w6 A n xs := f5_1.step hb5
            have f6_2 : ReadsI w6 B n ys := f5_2.step hb5
            have f6_3 : ReadsI w6 A2 ln L := hrl
            clear f5_0 f5_1 f5_2
            clear hb5 hr5 hrl HSM hln
            go_wp2_with fail
            refine (HBM.out _ f6_1).mono ?_
            rintro _ w7 ⟨rfl, hb7⟩
            have f7_0 : In w.heap.size w w7 := f6_0.step hb7
            have f7_1 : ReadsI w7 A n xs := f6_1.step hb7
            have f7_2 : ReadsI w7 B n ys := f6_2.step hb7
            have f7_3 : ReadsI w7 A2 ln L := f6_3.step hb7
            clear f6_0 f6_1 f6_2 f6_3
            clear hb7
            clear HBM
            have VB : IntKind.i64.wrap (b * (m : Int)) = bm := by rw [hBM, IntWalk.i64_in _ (by omega)]
            have VBw : wrap64 (b * (m : Int)) = bm := by rw [hBM, w64 ⟨by omega, by omega⟩]
            clear hBM
            have hcases : (C = true ∧ 0 ≤ b ∧ M ≤ bm ∧ m ≤ n) ∨ (C = false ∧ b = -1 ∧ n < m) ∨ (C = false ∧ 0 ≤ b ∧ bm < M ∧ m ≤ n) := by
              cases hC : C with
              | true => obtain ⟨a1, a2⟩ := hcan.1 hC; exact .inl ⟨rfl, a1, a2, by omega⟩
              | false =>
                by_cases hb1 : b = -1
                · exact .inr (.inl ⟨rfl, hb1, hfew.1 hb1⟩)
                · refine .inr (.inr ⟨rfl, by omega, ?_, by omega⟩)
                  by_cases hge : bm < M
                  · exact hge
                  · have := hcan.2 ⟨by omega, by omega⟩; rw [hC] at this; cases this
            clear hfew hcan
            rcases hcases with ⟨rfl, c1, c3, c4⟩ | ⟨rfl, rfl, c4⟩ | ⟨rfl, c1, c3, c4⟩
            · skip
              have c4i : (m : Int) ≤ (n : Int) := by omega
              have c5 : ¬ (b = -1) := by omega
              have q1 : (b == -1) = false := by simpa using c5
              have q2 : decide (n < m) = false := decide_eq_false (by omega)
              obtain ⟨hl1, E, E0, Em, hE1, hE2⟩ := HEN.out rfl
              have HE1 := Lib.hid hE1
              have HE2 := Lib.hid hE2
              have HEM := Lib.hid Em
              have HE0 := Lib.hid E0
              clear hE1 hE2 Em E0
              have HML := Lib.hid hl1
              have W1 : wrap64 ((m : Int) - 1) = (ln : Int) := by rw [w64 ⟨by omega, by omega⟩]; omega
              have W1v : IntKind.i64.wrap ((m : Int) - 1) = (ln : Int) := by rw [IntWalk.i64_in _ (by omega)]; omega
              clear hl1
              have HEB := Lib.hid (fun k (hk : k ≤ m) => show E k ≤ n by
                by_cases e : k = m
                · subst e; rw [HEM.out]; exact Nat.le_refl _
                · have := HE2.out k (by omega); omega)
              obtain ⟨wc, hq9⟩ : ∃ q, q = w7 := ⟨_, rfl⟩
              subst hq9
              go_wp2
              go_loopw [20, 21, 22, 23, 24] (fun a i a2 a3 a4 wr => ∃ k : Nat, k ≤ m ∧ i = .int .i64 k ∧ a = .int .i64 (E k : Nat) ∧ (In w.heap.size w wr ∧ ReadsI wr A n xs ∧ ReadsI wr B n ys ∧ ReadsI wr A2 ln L)) (fun _ i _ _ _ _ => m - (intOf i).toNat)
              case atStart => exact ⟨0, Nat.zero_le _, rfl, by rw [HE0.out]; rfl, f7_0, f7_1, f7_2, f7_3⟩
              case round =>
                obtain ⟨k, hk, rfl, rfl, f8_0, f8_1, f8_2, f8_3⟩ := hrel
                clear f7_0 f7_1 f7_2 f7_3
                by_cases hlt : k < m
                · skip
                  obtain ⟨g1, g2, g3⟩ := HE2.out k hlt
                  have hsx1 := HSX.out (E (k + 1)) g2
                  have hsx0 := HSX.out (E k) (by omega)
                  have hle := HLE.out (E k) (E (k + 1)) (by omega) g2
                  have hle2 := HLE.out (E (k + 1)) n g2 (Nat.le_refl _)
                  rw [HMM.out] at hle2
                  have HEK := Lib.hid (HE1.out k)
                  have HEN2 := HEM.out
                  have HEN3 : Hid (k + 1 = m → E (k + 1) = n) := Lib.hid fun h => by rw [h]; exact HEM.out
                  clear HEN2
                  obtain ⟨e1, he1⟩ : ∃ e, E (k + 1) = e := ⟨_, rfl⟩
                  rw [he1] at g1 g2 g3 hsx1 hle hle2 HEK HEN3
                  obtain ⟨e0, he0⟩ : ∃ e, E k = e := ⟨_, rfl⟩
                  rw [he0] at g1 g3 hsx0 hle ⊢
                  have HX1 := Lib.hid he1
                  clear he1 he0
                  obtain ⟨pm, hpm⟩ : ∃ q, (lsum xs e1 - lsum xs e0) * (m : Int) = q := ⟨_, rfl⟩
                  rw [hpm] at g3
                  have hpb : 0 ≤ pm ∧ pm ≤ 1000 := by
                    have h1 := Int.mul_le_mul (a := lsum xs e1 - lsum xs e0) (b := (m : Int)) (c := 190) (d := 4) (by omega) (by omega) (by omega) (by omega)
                    omega
                  have HPM := Lib.hid hpm
                  clear hpm
                  have HSE : Hid (∀ d, d ≤ e1 - e0 → lsum xs e0 ≤ lsum xs (e0 + d) ∧ lsum xs (e0 + d) ≤ 190) := Lib.hid fun d hd => by
                    have h1 := HLE.out e0 (e0 + d) (by omega) (by omega)
                    have h2 := HSX.out (e0 + d) (by omega)
                    omega
                  have hs0 : 0 ≤ lsum xs e0 := hsx0.1
                  clear hsx1 hsx0 hle hle2
                  have z0_ : (0 : Int) ≤ (e0 : Int) := by omega
                  by_cases hkl : k < ln
                  · skip
                    obtain ⟨ad2, rfl, hc2⟩ := f8_3.2 k hkl
                    have hck := HEK.out (by have := HML.out; omega)
                    rw [hck] at hc2
                    have kl_ : (k : Int) < (ln : Int) := by omega
                    clear hck
                    clear HEK HEN3
                    by_cases h0e : 0 < e0
                    · skip
                      go_wp2
                      go_loopw [23, 24] (fun p j wr => ∃ d : Nat, d ≤ e1 - e0 ∧ j = .int .i64 ((e0 + d : Nat) : Int) ∧ p = .int .i64 (lsum xs (e0 + d) - lsum xs e0) ∧ (In w.heap.size w wr ∧ ReadsI wr A n xs ∧ ReadsI wr B n ys ∧ ReadsI wr (some ad2) ln L)) (fun _ j _ => e1 - (intOf j).toNat)
                      case atStart => exact ⟨0, Nat.zero_le _, by simp, by simp, f8_0, f8_1, f8_2, f8_3⟩
                      case round =>
                        obtain ⟨d, hd, rfl, rfl, f9_0, f9_1, f9_2, f9_3⟩ := hrel
                        clear f8_0 f8_1 f8_2 f8_3
                        (try clear he00)
                        (try clear h0e)
                        by_cases hd2 : d < e1 - e0
                        · skip
                          obtain ⟨ad, rfl, hc0⟩ := f9_1.2 (e0 + d) (by omega)
                          have hxk := HX.out (e0 + d) (by omega)
                          (try simp only [] at hxk)
                          have hs1 := HSE.out d hd
                          have HS1 := Lib.hid (lsum_succ xs (e0 + d))
                          have j1_ : ((e0 + d : Nat) : Int) < (e1 : Int) := by omega
                          have j2_ : ((e0 + d : Nat) : Int) < (n : Int) := by omega
                          obtain ⟨p0, hp0⟩ : ∃ q, lsum xs (e0 + d) - lsum xs e0 = q := ⟨_, rfl⟩
                          have hpp : 0 ≤ p0 ∧ p0 ≤ 190 := by omega
                          have HP0 := Lib.hid hp0
                          rw [hp0]
                          clear hp0 hs1
                          generalize xs.getD (e0 + d) 0 = x at *
                          obtain ⟨jj, hjj⟩ : ∃ q : Nat, e0 + d = q := ⟨_, rfl⟩
                          rw [hjj] at hc0 j1_ j2_ HS1 HP0 ⊢
                          have HJJ := Lib.hid hjj
                          go_wp2
                          go_roundw
                          case rel => exact ⟨d + 1, by omega, by have := HJJ.out; go_num, v_int (by have h1 := HS1.out; have h2 := HP0.out; have h3 := HJJ.out; rw [show e0 + (d + 1) = jj + 1 by omega, h1]; omega), f9_0, f9_1, f9_2, f9_3⟩
                          case measure => simp [intOf]; omega
                        · skip
                          obtain rfl : d = e1 - e0 := by omega
                          have hee : e0 + (e1 - e0) = e1 := by omega
                          rw [hee]
                          have W2 : IntKind.i64.wrap ((lsum xs e1 - lsum xs e0) * (m : Int)) = pm := by rw [HPM.out, IntWalk.i64_in _ (by omega)]
                          have W2w : wrap64 ((lsum xs e1 - lsum xs e0) * (m : Int)) = pm := by rw [HPM.out, w64 ⟨by omega, by omega⟩]
                          have e1_ : (e0 : Int) < (e1 : Int) := by omega
                          clear hee HPM HSE
                          go_wp2
                          go_roundw
                          case rel => exact ⟨k + 1, by omega, by go_num, v_int (by rw [HX1.out]), f9_0, f9_1, f9_2, f9_3⟩
                          case measure => simp [intOf]; omega
                    · skip
                      have he00 : e0 = 0 := by omega
                      go_wp2
                      go_loopw [23, 24] (fun p j wr => ∃ d : Nat, d ≤ e1 - e0 ∧ j = .int .i64 ((e0 + d : Nat) : Int) ∧ p = .int .i64 (lsum xs (e0 + d) - lsum xs e0) ∧ (In w.heap.size w wr ∧ ReadsI wr A n xs ∧ ReadsI wr B n ys ∧ ReadsI wr (some ad2) ln L)) (fun _ j _ => e1 - (intOf j).toNat)
                      case atStart => exact ⟨0, Nat.zero_le _, by rw [he00]; rfl, by simp, f8_0, f8_1, f8_2, f8_3⟩
                      case round =>
                        obtain ⟨d, hd, rfl, rfl, f9_0, f9_1, f9_2, f9_3⟩ := hrel
                        clear f8_0 f8_1 f8_2 f8_3
                        (try clear he00)
                        (try clear h0e)
                        by_cases hd2 : d < e1 - e0
                        · skip
                          obtain ⟨ad, rfl, hc0⟩ := f9_1.2 (e0 + d) (by omega)
                          have hxk := HX.out (e0 + d) (by omega)
                          (try simp only [] at hxk)
                          have hs1 := HSE.out d hd
                          have HS1 := Lib.hid (lsum_succ xs (e0 + d))
                          have j1_ : ((e0 + d : Nat) : Int) < (e1 : Int) := by omega
                          have j2_ : ((e0 + d : Nat) : Int) < (n : Int) := by omega
                          obtain ⟨p0, hp0⟩ : ∃ q, lsum xs (e0 + d) - lsum xs e0 = q := ⟨_, rfl⟩
                          have hpp : 0 ≤ p0 ∧ p0 ≤ 190 := by omega
                          have HP0 := Lib.hid hp0
                          rw [hp0]
                          clear hp0 hs1
                          generalize xs.getD (e0 + d) 0 = x at *
                          obtain ⟨jj, hjj⟩ : ∃ q : Nat, e0 + d = q := ⟨_, rfl⟩
                          rw [hjj] at hc0 j1_ j2_ HS1 HP0 ⊢
                          have HJJ := Lib.hid hjj
                          go_wp2
                          go_roundw
                          case rel => exact ⟨d + 1, by omega, by have := HJJ.out; go_num, v_int (by have h1 := HS1.out; have h2 := HP0.out; have h3 := HJJ.out; rw [show e0 + (d + 1) = jj + 1 by omega, h1]; omega), f9_0, f9_1, f9_2, f9_3⟩
                          case measure => simp [intOf]; omega
                        · skip
                          obtain rfl : d = e1 - e0 := by omega
                          have hee : e0 + (e1 - e0) = e1 := by omega
                          rw [hee]
                          have W2 : IntKind.i64.wrap ((lsum xs e1 - lsum xs e0) * (m : Int)) = pm := by rw [HPM.out, IntWalk.i64_in _ (by omega)]
                          have W2w : wrap64 ((lsum xs e1 - lsum xs e0) * (m : Int)) = pm := by rw [HPM.out, w64 ⟨by omega, by omega⟩]
                          have e1_ : (e0 : Int) < (e1 : Int) := by omega
                          clear hee HPM HSE
                          go_wp2
                          go_roundw
                          case rel => exact ⟨k + 1, by omega, by go_num, v_int (by rw [HX1.out]), f9_0, f9_1, f9_2, f9_3⟩
                          case measure => simp [intOf]; omega
                  · skip
                    have kl_ : (ln : Int) ≤ (k : Int) := by omega
                    have hen := (HEN3.out (by have := HML.out; omega)).symm
                    clear HEK HEN3
                    subst hen
                    by_cases h0e : 0 < e0
                    · skip
                      go_wp2
                      go_loopw [23, 24] (fun p j wr => ∃ d : Nat, d ≤ n - e0 ∧ j = .int .i64 ((e0 + d : Nat) : Int) ∧ p = .int .i64 (lsum xs (e0 + d) - lsum xs e0) ∧ (In w.heap.size w wr ∧ ReadsI wr A n xs ∧ ReadsI wr B n ys ∧ ReadsI wr A2 ln L)) (fun _ j _ => n - (intOf j).toNat)
                      case atStart => exact ⟨0, Nat.zero_le _, by simp, by simp, f8_0, f8_1, f8_2, f8_3⟩
                      case round =>
                        obtain ⟨d, hd, rfl, rfl, f9_0, f9_1, f9_2, f9_3⟩ := hrel
                        clear f8_0 f8_1 f8_2 f8_3
                        (try clear he00)
                        (try clear h0e)
                        by_cases hd2 : d < n - e0
                        · skip
                          obtain ⟨ad, rfl, hc0⟩ := f9_1.2 (e0 + d) (by omega)
                          have hxk := HX.out (e0 + d) (by omega)
                          (try simp only [] at hxk)
                          have hs1 := HSE.out d hd
                          have HS1 := Lib.hid (lsum_succ xs (e0 + d))
                          have j1_ : ((e0 + d : Nat) : Int) < (n : Int) := by omega
                          have j2_ : ((e0 + d : Nat) : Int) < (n : Int) := by omega
                          obtain ⟨p0, hp0⟩ : ∃ q, lsum xs (e0 + d) - lsum xs e0 = q := ⟨_, rfl⟩
                          have hpp : 0 ≤ p0 ∧ p0 ≤ 190 := by omega
                          have HP0 := Lib.hid hp0
                          rw [hp0]
                          clear hp0 hs1
                          generalize xs.getD (e0 + d) 0 = x at *
                          obtain ⟨jj, hjj⟩ : ∃ q : Nat, e0 + d = q := ⟨_, rfl⟩
                          rw [hjj] at hc0 j1_ j2_ HS1 HP0 ⊢
                          have HJJ := Lib.hid hjj
                          go_wp2
                          go_roundw
                          case rel => exact ⟨d + 1, by omega, by have := HJJ.out; go_num, v_int (by have h1 := HS1.out; have h2 := HP0.out; have h3 := HJJ.out; rw [show e0 + (d + 1) = jj + 1 by omega, h1]; omega), f9_0, f9_1, f9_2, f9_3⟩
                          case measure => simp [intOf]; omega
                        · skip
                          obtain rfl : d = n - e0 := by omega
                          have hee : e0 + (n - e0) = n := by omega
                          rw [hee]
                          have W2 : IntKind.i64.wrap ((lsum xs n - lsum xs e0) * (m : Int)) = pm := by rw [HPM.out, IntWalk.i64_in _ (by omega)]
                          have W2w : wrap64 ((lsum xs n - lsum xs e0) * (m : Int)) = pm := by rw [HPM.out, w64 ⟨by omega, by omega⟩]
                          have e1_ : (e0 : Int) < (n : Int) := by omega
                          clear hee HPM HSE
                          go_wp2
                          go_roundw
                          case rel => exact ⟨k + 1, by omega, by go_num, v_int (by rw [HX1.out]), f9_0, f9_1, f9_2, f9_3⟩
                          case measure => simp [intOf]; omega
                    · skip
                      have he00 : e0 = 0 := by omega
                      go_wp2
                      go_loopw [23, 24] (fun p j wr => ∃ d : Nat, d ≤ n - e0 ∧ j = .int .i64 ((e0 + d : Nat) : Int) ∧ p = .int .i64 (lsum xs (e0 + d) - lsum xs e0) ∧ (In w.heap.size w wr ∧ ReadsI wr A n xs ∧ ReadsI wr B n ys ∧ ReadsI wr A2 ln L)) (fun _ j _ => n - (intOf j).toNat)
                      case atStart => exact ⟨0, Nat.zero_le _, by rw [he00]; rfl, by simp, f8_0, f8_1, f8_2, f8_3⟩
                      case round =>
                        obtain ⟨d, hd, rfl, rfl, f9_0, f9_1, f9_2, f9_3⟩ := hrel
                        clear f8_0 f8_1 f8_2 f8_3
                        (try clear he00)
                        (try clear h0e)
                        by_cases hd2 : d < n - e0
                        · skip
                          obtain ⟨ad, rfl, hc0⟩ := f9_1.2 (e0 + d) (by omega)
                          have hxk := HX.out (e0 + d) (by omega)
                          (try simp only [] at hxk)
                          have hs1 := HSE.out d hd
                          have HS1 := Lib.hid (lsum_succ xs (e0 + d))
                          have j1_ : ((e0 + d : Nat) : Int) < (n : Int) := by omega
                          have j2_ : ((e0 + d : Nat) : Int) < (n : Int) := by omega
                          obtain ⟨p0, hp0⟩ : ∃ q, lsum xs (e0 + d) - lsum xs e0 = q := ⟨_, rfl⟩
                          have hpp : 0 ≤ p0 ∧ p0 ≤ 190 := by omega
                          have HP0 := Lib.hid hp0
                          rw [hp0]
                          clear hp0 hs1
                          generalize xs.getD (e0 + d) 0 = x at *
                          obtain ⟨jj, hjj⟩ : ∃ q : Nat, e0 + d = q := ⟨_, rfl⟩
                          rw [hjj] at hc0 j1_ j2_ HS1 HP0 ⊢
                          have HJJ := Lib.hid hjj
                          go_wp2
                          go_roundw
                          case rel => exact ⟨d + 1, by omega, by have := HJJ.out; go_num, v_int (by have h1 := HS1.out; have h2 := HP0.out; have h3 := HJJ.out; rw [show e0 + (d + 1) = jj + 1 by omega, h1]; omega), f9_0, f9_1, f9_2, f9_3⟩
                          case measure => simp [intOf]; omega
                        · skip
                          obtain rfl : d = n - e0 := by omega
                          have hee : e0 + (n - e0) = n := by omega
                          rw [hee]
                          have W2 : IntKind.i64.wrap ((lsum xs n - lsum xs e0) * (m : Int)) = pm := by rw [HPM.out, IntWalk.i64_in _ (by omega)]
                          have W2w : wrap64 ((lsum xs n - lsum xs e0) * (m : Int)) = pm := by rw [HPM.out, w64 ⟨by omega, by omega⟩]
                          have e1_ : (e0 : Int) < (n : Int) := by omega
                          clear hee HPM HSE
                          go_wp2
                          go_roundw
                          case rel => exact ⟨k + 1, by omega, by go_num, v_int (by rw [HX1.out]), f9_0, f9_1, f9_2, f9_3⟩
                          case measure => simp [intOf]; omega
                · skip
                  obtain rfl : k = m := by omega
                  clear HEN HE1 HE2 HEB HEM HE0
                  obtain ⟨we, hq9⟩ : ∃ q, q = wr := ⟨_, rfl⟩
                  subst hq9
                  go_wp2_with fail
                  refine (HOK.out _ f8_1).mono ?_
                  rintro e w' ⟨rfl, rfl⟩
                  go_wp2_with fail
                  refine (HBO.out _ f8_1).mono ?_
                  rintro _ w9 ⟨rfl, hb9⟩
                  have f9_0 : In w.heap.size w w9 := f8_0.step hb9
                  have f9_1 : ReadsI w9 A n xs := f8_1.step hb9
                  have f9_2 : ReadsI w9 B n ys := f8_2.step hb9
                  have f9_3 : ReadsI w9 A2 ln L := f8_3.step hb9
                  clear f8_0 f8_1 f8_2 f8_3
                  clear hb9
                  go_wp2
                  go_ret
                  exact ⟨ret_bool (by first | rfl | exact decide_eq_true (by omega)), f9_0.below⟩
            · skip
              have c4i : (n : Int) < (m : Int) := by omega
              clear HEN
              obtain ⟨wc, hq9⟩ : ∃ q, q = w7 := ⟨_, rfl⟩
              subst hq9
              go_wp2_with fail
              refine (HOK.out _ f7_1).mono ?_
              rintro e w' ⟨rfl, rfl⟩
              go_wp2_with fail
              refine (HBO.out _ f7_1).mono ?_
              rintro _ w8 ⟨rfl, hb8⟩
              have f8_0 : In w.heap.size w w8 := f7_0.step hb8
              have f8_1 : ReadsI w8 A n xs := f7_1.step hb8
              have f8_2 : ReadsI w8 B n ys := f7_2.step hb8
              have f8_3 : ReadsI w8 A2 ln L := f7_3.step hb8
              clear f7_0 f7_1 f7_2 f7_3
              clear hb8
              go_wp2
              go_ret
              exact ⟨ret_bool (by first | rfl | exact decide_eq_true (by omega)), f8_0.below⟩
            · skip
              have c4i : (m : Int) ≤ (n : Int) := by omega
              have c5 : ¬ (b = -1) := by omega
              have q1 : (b == -1) = false := by simpa using c5
              have q2 : decide (n < m) = false := decide_eq_false (by omega)
              clear HEN
              obtain ⟨wc, hq9⟩ : ∃ q, q = w7 := ⟨_, rfl⟩
              subst hq9
              go_wp2_with fail
              refine (HOK.out _ f7_1).mono ?_
              rintro e w' ⟨rfl, rfl⟩
              go_wp2_with fail
              refine (HBO.out _ f7_1).mono ?_
              rintro _ w8 ⟨rfl, hb8⟩
              have f8_0 : In w.heap.size w w8 := f7_0.step hb8
              have f8_1 : ReadsI w8 A n xs := f7_1.step hb8
              have f8_2 : ReadsI w8 B n ys := f7_2.step hb8
              have f8_3 : ReadsI w8 A2 ln L := f7_3.step hb8
              clear f7_0 f7_1 f7_2 f7_3
              clear hb8
              go_wp2
              go_ret
              exact ⟨ret_bool (by first | rfl | exact decide_eq_true (by omega)), f8_0.below⟩
end Go.Proofs.Ytmkfnhgaiheckaa
