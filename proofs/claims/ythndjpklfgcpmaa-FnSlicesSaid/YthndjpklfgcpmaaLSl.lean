/- The law FnSlices. -/
import Derived.Test.YthndjpklfgcpmaaSlP
import Derived.Test.YthndjpklfgcpmaaDl19
import Derived.Test.YthndjpklfgcpmaaAtAll
import Derived.Test.YthndjpklfgcpmaaQuietL
import Derived.BigQuiet
import Derived.Deep.QuietTactic
namespace Go.Proofs.Ythndjpklfgcpmaa
open Go.ChangeShapes Go.WideShapes Go.ChangeAt Go.RowKit
set_option linter.unusedVariables false
set_option linter.unusedSimpArgs false
set_option maxHeartbeats 2000000

/-- a row that a call hands back, to be read -/
def RowG (zs : List Int) (m : Nat) (w : World) (e : Ending) (w' : World) : Prop :=
  ∃ A c, e = .returned (.slice A m c) ∧ ReadsI w' A m zs ∧ Below w.heap.size w w'
theorem rowG {zs zs' : List Int} {m : Nat} {w : World} {e : Ending} {w' : World} (e1 : zs = zs') (hm : zs'.length = m) (h : RowB zs w e w') : RowG zs' m w e w' := by
  subst e1 hm
  obtain ⟨A, c, rfl, hown, hb⟩ := h
  exact ⟨A, c, rfl, reads_own_i hown, hb⟩
theorem crust1 : crustV 3 4 5 = 54 := by decide
theorem crust2 : crustV 1 1 9 = 9 := by decide
set_option maxHeartbeats 8000000 in
set_option maxRecDepth 20000 in
theorem walk_FnSlices (a0 : Option Addr) (len0 cap0 : Nat) (z0 : List Int) (w : World) (w0 : IsRow .u8 w a0 len0 cap0 z0) :
    Calls Try.prog 5 #[.slice a0 len0 cap0] w fun e w' => e = .returned (.bool true) ∧ Below w.heap.size w w' := by
  have hb := ReadsU.of_row w0
  have hm := hb.1
  clear w0
  by_cases hbig : (1048576 : Int) < (len0 : Int)
  · go_enter Try.func5, Try.ntmps5
    go_wp2_with fail
    refine (bigU _ _ _ _ hm true (by simpa using hbig)).mono ?_
    rintro e w' ⟨rfl, rfl⟩
    go_wp2_with fail
    go_ret
    exact ⟨rfl, Below.refl _ _⟩
  have HB := Lib.hid hb
  obtain ⟨x0, h0, A0⟩ := at_all a0 len0 cap0 0 w (by omega) (by omega) hb
  have HA0 := Lib.hid A0
  clear A0
  obtain ⟨x1, h1, A1⟩ := at_all a0 len0 cap0 1 w (by omega) (by omega) hb
  have HA1 := Lib.hid A1
  clear A1
  obtain ⟨x2, h2, A2⟩ := at_all a0 len0 cap0 2 w (by omega) (by omega) hb
  have HA2 := Lib.hid A2
  clear A2
  go_enter Try.func5, Try.ntmps5
  go_wp2_with fail
  refine (bigU _ _ _ _ hm false (by simpa using hbig)).mono ?_
  rintro e w' ⟨rfl, rfl⟩
  clear hbig hm hb
  have f0_0 : In w.heap.size w w := In.refl w
  obtain ⟨l, hl9⟩ : ∃ l, 1 + x0 * 3 = l := ⟨_, rfl⟩
  have hl : 1 ≤ l ∧ l ≤ 766 := by omega
  obtain ⟨t, ht9⟩ : ∃ t, 1 + x1 % 40 = t := ⟨_, rfl⟩
  have ht : 1 ≤ t ∧ t ≤ 40 := by omega
  have hx2l : 0 ≤ x2 % l ∧ x2 % l < l := ⟨Int.emod_nonneg _ (by omega), Int.emod_lt_of_pos _ (by omega)⟩
  obtain ⟨nn, hn9⟩ : ∃ n, 1 + x2 % l = n := ⟨_, rfl⟩
  have hn : 1 ≤ nn ∧ nn ≤ l := by omega
  obtain ⟨M, hM⟩ : ∃ M : Nat, (M : Int) = nn - 1 := ⟨(nn - 1).toNat, by omega⟩
  obtain ⟨N, hN⟩ : ∃ N : Nat, (N : Int) = nn := ⟨nn.toNat, by omega⟩
  have A1 : wrap64 (x0 * 3) = x0 * 3 := by rw [w64 ⟨by omega, by omega⟩]
  have A1v : IntKind.i64.wrap (x0 * 3) = x0 * 3 := by rw [IntWalk.i64_in _ (by omega)]
  have A2 : wrap64 (1 + x0 * 3) = l := by rw [w64 ⟨by omega, by omega⟩]; try omega
  have A2v : IntKind.i64.wrap (1 + x0 * 3) = l := by rw [IntWalk.i64_in _ (by omega)]; try omega
  have A3 : x1.tmod 40 = x1 % 40 := Int.tmod_eq_emod_of_nonneg h1.1
  have A5 : x2.tmod l = x2 % l := Int.tmod_eq_emod_of_nonneg h2.1
  have A6 : ¬ (l = 0) := by omega
  have A7 : (l == 0) = false := by simpa using A6
  have A4 : wrap64 (1 + x1 % 40) = t := by rw [w64 ⟨by omega, by omega⟩]; try omega
  have A4v : IntKind.i64.wrap (1 + x1 % 40) = t := by rw [IntWalk.i64_in _ (by omega)]; try omega
  have A8 : wrap64 (1 + x2 % l) = nn := by rw [w64 ⟨by omega, by omega⟩]; try omega
  have A8v : IntKind.i64.wrap (1 + x2 % l) = nn := by rw [IntWalk.i64_in _ (by omega)]; try omega
  have A9 : wrap64 (x1 % 40) = x1 % 40 := by rw [w64 ⟨by omega, by omega⟩]
  have A9v : IntKind.i64.wrap (x1 % 40) = x1 % 40 := by rw [IntWalk.i64_in _ (by omega)]
  have A10 : wrap64 (x2 % l) = x2 % l := by rw [w64 ⟨by omega, by omega⟩]
  have A10v : IntKind.i64.wrap (x2 % l) = x2 % l := by rw [IntWalk.i64_in _ (by omega)]
  obtain ⟨q, r, p, hs1, hs2, hp9, q0, q1, p0, p1, hpr, r0, r1⟩ := whole_all (l := l) (t := t) ⟨hl.1, by omega⟩ ⟨ht.1, by omega⟩
  have HS := Lib.hid (fun W => iSlicesOf l t W)
  rw [hs1] at HS
  have HL := Lib.hid (fun W => iLastSlice l t W)
  rw [hs2] at HL
  have HEV : Hid (∀ W, Calls Try.prog 12 #[.int .i64 l, .int .i64 nn] W (RowG (evL l nn M) M W)) := Lib.hid fun W => (iEvenSlices l nn W).mono fun _ _ k => rowG (by rw [even_all (l := l) (n := nn) ⟨hl.1, by omega⟩ hn]; congr 1; omega) (evL_len _ _ _) k
  obtain ⟨d, hd9, d1, d2, d3, d4⟩ := thick_all (l := l) (n := nn) ⟨hl.1, by omega⟩ hn
  have HTH := Lib.hid (fun W => iThickestFor l nn W)
  rw [hd9] at HTH
  have HG := Lib.hid (fun (k : Nat) (hk : k < M) => even_get (l := l) (n := nn) M k hk)
  have HST := Lib.hid (fun (k : Nat) => cutAt_step (l := l) (n := nn) k hl.1 hn.1)
  have HIN := Lib.hid (fun (k : Nat) (hk : (k : Int) ≤ nn) => cutAt_in (l := l) (n := nn) k hl.1 hn.1 hk)
  have HLAST := Lib.hid (fun (k : Nat) (hk : (k : Int) = nn) => cutAt_n (l := l) (n := nn) k hn.1 hk)
  have H0 := Lib.hid (cutAt_0 l nn)
  have HT := Lib.hid ht
  have HD := Lib.hid (And.intro d3 d4)
  clear d3 d4 hd9 hs1 hs2
  have B1 : wrap64 (q * t) = p := by rw [w64 ⟨by omega, by omega⟩]; try omega
  have B1v : IntKind.i64.wrap (q * t) = p := by rw [IntWalk.i64_in _ (by omega)]; try omega
  have B2 : wrap64 (p + r) = l := by rw [w64 ⟨by omega, by omega⟩]; try omega
  have B2v : IntKind.i64.wrap (p + r) = l := by rw [IntWalk.i64_in _ (by omega)]; try omega
  have B3 : wrap64 (nn - 1) = (M : Int) := by rw [w64 ⟨by omega, by omega⟩]; try omega
  have B3v : IntKind.i64.wrap (nn - 1) = (M : Int) := by rw [IntWalk.i64_in _ (by omega)]; try omega
  have B4 : decide (r < 0) = false := decide_eq_false (by omega)
  have B5 : decide (t ≤ r) = false := decide_eq_false (by omega)
  have HMN := Lib.hid hM
  have HNN := Lib.hid hN
  have HL9 := Lib.hid (And.intro hl hn)
  clear hM hN hl9 ht9 hn9 hp9 hpr hx2l
  go_wp2_with fail
  refine (HA0.out _ f0_0).mono ?_
  rintro e w' ⟨rfl, rfl⟩
  go_wp2_with fail
  refine (HA1.out _ f0_0).mono ?_
  rintro e w' ⟨rfl, rfl⟩
  go_wp2_with fail
  refine (HS.out _).mono ?_
  rintro e w' ⟨rfl, rfl⟩
  go_wp2_with fail
  refine (HL.out _).mono ?_
  rintro e w' ⟨rfl, rfl⟩
  go_wp2_with fail
  refine (HA2.out _ f0_0).mono ?_
  rintro e w' ⟨rfl, rfl⟩
  clear A1 A1v A2 A2v
  go_wp2_with fail
  refine (HEV.out _).mono ?_
  rintro _ w1 ⟨A, cp, rfl, hr1, hb1⟩
  have f1_0 : In w.heap.size w w1 := f0_0.step hb1
  have f1_1 : ReadsI w1 A M (evL l nn M) := hr1
  clear f0_0
  clear hb1 hr1 HEV HS HL A3 A4 A4v A5 A8 A8v A9 A9v A10 A10v
  go_wp2
  clear B1 B1v B2 B2v B4 B5
  have HST2 : Hid (∀ k : Nat, l / nn ≤ cutAt l nn (k + 1) - cutAt l nn k ∧ cutAt l nn (k + 1) - cutAt l nn k ≤ (l + nn - 1) / nn) := Lib.hid fun k => HST.out k
  clear HST
  have HQ := Lib.hid (show (0 ≤ l / nn ∧ l / nn ≤ 766) ∧ 0 ≤ (l + nn - 1) / nn ∧ (l + nn - 1) / nn ≤ 2000 from ⟨⟨Int.ediv_nonneg (by omega) (by omega), by have := Int.ediv_le_self nn (a := l) (by omega); omega⟩, Int.ediv_nonneg (by omega) (by omega), by have := Int.ediv_le_self nn (a := l + nn - 1) (by omega); omega⟩)
  clear B3v
  have HA6 := Lib.hid A6
  have HA7 := Lib.hid A7
  have HB3 := Lib.hid B3
  clear A6 A7 B3
  have HDD := Lib.hid (And.intro d1 d2)
  clear d1 d2 ht h0 h1 h2 q0 q1 p0 p1 r0 r1 HA0 HA1 HA2
  go_loopw [9, 10] (fun a i wr => ∃ (k : Nat) (f0 : Int), (k : Int) ≤ nn ∧ i = .int .i64 k ∧ a = .int .i64 f0 ∧ f0 = cutAt l nn k ∧ (In w.heap.size w wr ∧ ReadsI wr A M (evL l nn M))) (fun _ i _ => N - (intOf i).toNat)
  case atStart => exact ⟨0, 0, by omega, rfl, rfl, H0.out.symm, f1_0, f1_1⟩
  case round =>
    obtain ⟨k, f0, hk, rfl, rfl, hf0, f2_0, f2_1⟩ := hrel
    clear f1_0 f1_1
    by_cases hlt : (k : Int) < nn
    · skip
      have hs := HST2.out k
      have hi0 : 0 ≤ f0 ∧ f0 ≤ 766 := by
        have h1 := HIN.out k hk
        rw [← hf0] at h1
        exact ⟨h1.1, Int.le_trans h1.2 hl.2⟩
      have hk1 : ((k + 1 : Nat) : Int) ≤ nn := by push_cast; exact hlt
      have hi1 : 0 ≤ cutAt l nn (k + 1) ∧ cutAt l nn (k + 1) ≤ 766 := by
        have h1 := HIN.out (k + 1) hk1
        exact ⟨h1.1, Int.le_trans h1.2 hl.2⟩
      rw [← hf0] at hs
      obtain ⟨f1, hf1⟩ : ∃ f, cutAt l nn (k + 1) = f := ⟨_, rfl⟩
      rw [hf1] at hs hi1
      have hk7 : (k : Int) ≤ 766 := by clear hs hi0 hi1; omega
      have HF1 := Lib.hid hf1
      have HNk := HNN.out
      clear hf0
      have hq := HQ.out
      by_cases hkm : k < M
      · skip
        obtain ⟨ad, rfl, hc0⟩ := f2_1.2 k hkm
        rw [HG.out k hkm, hf1] at hc0
        have k1_ : (k : Int) < (M : Int) := by omega
        clear hf1
        have hMn1 : (M : Int) ≤ nn - 1 := by have := HMN.out; omega
        have hMn2 : nn - 1 ≤ (M : Int) := by have := HMN.out; omega
        go_wp2
        go_roundw
        case rel => exact ⟨k + 1, _, by omega, by go_num, rfl, HF1.out.symm, f2_0, f2_1⟩
        case measure => have := HNN.out; simp [intOf]; omega
      · skip
        obtain rfl : l = f1 := by rw [← hf1]; exact (HLAST.out (k + 1) (by have := HMN.out; omega)).symm
        have k1_ : (M : Int) ≤ (k : Int) := by omega
        have hMn1 : (M : Int) ≤ nn - 1 := by have := HMN.out; omega
        have hMn2 : nn - 1 ≤ (M : Int) := by have := HMN.out; omega
        go_wp2
        go_roundw
        case rel => exact ⟨k + 1, _, by omega, by go_num, rfl, HF1.out.symm, f2_0, f2_1⟩
        case measure => have := HNN.out; simp [intOf]; omega
    · skip
      obtain ⟨wa, hq9⟩ : ∃ q, q = wr := ⟨_, rfl⟩
      subst hq9
      clear HST2 HIN HLAST HG H0 hf0 hk HQ
      go_wp2_with fail
      refine (HTH.out _).mono ?_
      rintro e w' ⟨rfl, rfl⟩
      have hbu : ReadsU wa a0 len0 := HB.out.in_ f2_0
      go_wp2_with fail
      refine (DrawLengths_c _ _ _ _ (bytes_of hbu)).mono ?_
      rintro _ w3 ⟨A3, c3, m, xs, rfl, hm, hx, hrx, hmc, hb3⟩
      have f3_0 : In w.heap.size w w3 := f2_0.step hb3
      have f3_1 : ReadsI w3 A3 m xs := hrx
      clear f2_0
      clear hb3 hrx hbu
      have ht := HT.out
      have HCU := Lib.hid (fun W (h : ReadsI W A3 m xs) => iCutsNeeded A3 m c3 xs t W (by unfold maxLen; omega) h)
      rw [cut_all hm ⟨ht.1, by omega⟩ hx] at HCU
      have HSU := Lib.hid (sums_in (xs := xs) (t := t) ht.1 m hx)
      have HON := Lib.hid (fun k (hk : k < m) => one_all (xs := xs) (t := t) k ⟨ht.1, by omega⟩ (hx k hk))
      have HSK := Lib.hid (fun k (hk : k ≤ m) => sums_in (xs := xs) (t := t) ht.1 k fun i hi => hx i (by omega))
      have HX := Lib.hid hx
      clear hx
      go_wp2_with fail
      refine (HCU.out _ f3_1).mono ?_
      rintro _ w4 ⟨rfl, hb4⟩
      have f4_0 : In w.heap.size w w4 := f3_0.step hb4
      have f4_1 : ReadsI w4 A3 m xs := f3_1.step hb4
      clear f3_0 f3_1
      clear hb4
      clear HCU
      go_wp2
      go_loopw [15, 16, 17] (fun a b i wr => ∃ (k : Nat) (S E : Int), k ≤ m ∧ i = .int .i64 k ∧ a = .int .i64 S ∧ b = .int .i64 E ∧ S = sumS xs t k ∧ E = exS xs t k ∧ (In w.heap.size w wr ∧ ReadsI wr A3 m xs)) (fun _ _ i _ => m - (intOf i).toNat)
      case atStart => exact ⟨0, 0, 0, Nat.zero_le _, rfl, rfl, rfl, rfl, rfl, f4_0, f4_1⟩
      case round =>
        obtain ⟨k, S, E, hk, rfl, rfl, rfl, hS, hE, f5_0, f5_1⟩ := hrel
        clear f4_0 f4_1
        by_cases hlt : k < m
        · skip
          obtain ⟨ad, rfl, hc0⟩ := f5_1.2 k hlt
          obtain ⟨q2, p2, e1, e2, g1, g2, g3, g4, e3, hcase⟩ := HON.out k hlt
          have hb9 := HSK.out k hk
          rw [← hS, ← hE] at hb9
          rw [← hS] at e3
          rw [← hE] at hcase
          obtain ⟨y, hy⟩ : ∃ y, xs.getD k 0 = y := ⟨_, rfl⟩
          rw [hy] at hc0 e1 hcase
          have HSL := Lib.hid (fun W => iSlicesOf y t W)
          rw [e1] at HSL
          have HSS := Lib.hid e3
          clear e1 e3 hy hS hE
          have k1_ : (k : Int) < (m : Int) := by omega
          have hmk : m ≤ 1000 := by omega
          have G1 : wrap64 (q2 * t) = p2 := by rw [w64 ⟨by omega, by omega⟩]; try omega
          rcases hcase with ⟨i1, i2, e4⟩ | ⟨i1, i2, e4⟩ | ⟨i1, e4⟩
          · skip
            have HEE := Lib.hid e4
            clear e4 e2
            have D1 : decide (0 < q2) = true := decide_eq_true i1
            have D2 : (p2 == y) = true := by simpa using i2
            have HBT := Lib.hid (fun W => lbtoi true W)
            subst i2
            go_wp2_with fail
            refine (HSL.out _).mono ?_
            rintro e w' ⟨rfl, rfl⟩
            go_wp2_with fail
            refine (HBT.out _).mono ?_
            rintro e w' ⟨rfl, rfl⟩
            go_wp2
            go_roundw
            case rel => exact ⟨k + 1, _, _, by omega, by go_num, rfl, rfl, by rw [HSS.out], by rw [HEE.out], f5_0, f5_1⟩
            case measure => simp [intOf]; omega
          · skip
            have HEE := Lib.hid e4
            clear e4 e2
            have D1 : decide (0 < q2) = true := decide_eq_true i1
            have D2 : (p2 == y) = false := by simpa using i2
            have HBT := Lib.hid (fun W => lbtoi false W)
            go_wp2_with fail
            refine (HSL.out _).mono ?_
            rintro e w' ⟨rfl, rfl⟩
            go_wp2_with fail
            refine (HBT.out _).mono ?_
            rintro e w' ⟨rfl, rfl⟩
            go_wp2
            go_roundw
            case rel => exact ⟨k + 1, _, _, by omega, by go_num, rfl, rfl, by rw [HSS.out], by rw [HEE.out], f5_0, f5_1⟩
            case measure => simp [intOf]; omega
          · skip
            have HEE := Lib.hid e4
            clear e4 e2
            have D1 : decide (0 < q2) = false := decide_eq_false (by omega)
            have HBT := Lib.hid (fun W => lbtoi false W)
            have H2 := Lib.hid i1
            clear i1
            go_wp2_with fail
            refine (HSL.out _).mono ?_
            rintro e w' ⟨rfl, rfl⟩
            go_wp2_with fail
            refine (HBT.out _).mono ?_
            rintro e w' ⟨rfl, rfl⟩
            go_wp2
            go_roundw
            case rel => exact ⟨k + 1, _, _, by omega, by go_num, rfl, rfl, by rw [HSS.out], by rw [HEE.out], f5_0, f5_1⟩
            case measure => simp [intOf]; omega
        · skip
          obtain ⟨wb, hq9⟩ : ∃ q, q = wr := ⟨_, rfl⟩
          subst hq9
          obtain rfl : m = k := by omega
          have hsu := HSU.out
          rw [← hS, ← hE] at hsu ⊢
          obtain ⟨d3, d4⟩ := HD.out
          obtain ⟨d1, d2⟩ := HDD.out
          obtain ⟨hl, hn⟩ := HL9.out
          have z1 : 0 ≤ l / d ∧ l / d ≤ 766 := ⟨Int.ediv_nonneg (by omega) (by omega), by have := Int.ediv_le_self d (a := l) (by omega); omega⟩
          have z2 : 0 ≤ l / (d + 1) ∧ l / (d + 1) ≤ 766 := ⟨Int.ediv_nonneg (by omega) (by omega), by have := Int.ediv_le_self (d + 1) (a := l) (by omega); omega⟩
          have hmk : m ≤ 1000 := by omega
          clear hS hE hlt hk
          have HC1 := Lib.hid (fun W => iCrustParts 3 4 5 W)
          rw [crust1] at HC1
          have HC2 := Lib.hid (fun W => iCrustParts 1 1 9 W)
          rw [crust2] at HC2
          by_cases hd100 : d = 100
          · skip
            subst hd100
            clear d4 z2
            go_wp2_with fail
            refine (HC1.out _).mono ?_
            rintro _ w6 ⟨rfl, hb6⟩
            have f6_0 : In w.heap.size w w6 := f5_0.step hb6
            have f6_1 : ReadsI w6 A3 m xs := f5_1.step hb6
            clear f5_0 f5_1
            clear hb6
            go_wp2_with fail
            refine (HC2.out _).mono ?_
            rintro _ w7 ⟨rfl, hb7⟩
            have f7_0 : In w.heap.size w w7 := f6_0.step hb7
            have f7_1 : ReadsI w7 A3 m xs := f6_1.step hb7
            clear f6_0 f6_1
            clear hb7
            go_wp2
            go_ret
            exact ⟨ret_bool (by first | rfl | exact decide_eq_true (by omega)), f7_0.below⟩
          · skip
            have y9 : (d == 100) = false := by simpa using hd100
            have hLE2 : l / (d + 1) < nn := d4.resolve_left hd100
            clear d4 hd100
            go_wp2_with fail
            refine (HC1.out _).mono ?_
            rintro _ w6 ⟨rfl, hb6⟩
            have f6_0 : In w.heap.size w w6 := f5_0.step hb6
            have f6_1 : ReadsI w6 A3 m xs := f5_1.step hb6
            clear f5_0 f5_1
            clear hb6
            go_wp2_with fail
            refine (HC2.out _).mono ?_
            rintro _ w7 ⟨rfl, hb7⟩
            have f7_0 : In w.heap.size w w7 := f6_0.step hb7
            have f7_1 : ReadsI w7 A3 m xs := f6_1.step hb7
            clear f6_0 f6_1
            clear hb7
            go_wp2
            go_ret
            exact ⟨ret_bool (by first | rfl | exact decide_eq_true (by omega)), f7_0.below⟩
end Go.Proofs.Ythndjpklfgcpmaa
