/- The law FnLots. -/
import Derived.Test.YtgjbbidcpmglbaaLotP
import Derived.Test.YtgjbbidcpmglbaaAtAll
namespace Go.Proofs.Ytgjbbidcpmglbaa
open Go.ChangeShapes Go.WideShapes Go.ChangeAt Go.RowKit
set_option linter.unusedVariables false
set_option linter.unusedSimpArgs false
set_option maxHeartbeats 2000000

/-- a row that a call hands back, to be read -/
def RowG (zs : List Int) (m : Nat) (w : World) (e : Ending) (w' : World) : Prop :=
  ∃ A c, e = .returned (.slice A m c) ∧ ReadsI w' A m zs ∧ (0 < m → ∃ g, A = some ⟨g, 0, none⟩) ∧ Below w.heap.size w w'
theorem rowG {zs zs' : List Int} {m : Nat} {w : World} {e : Ending} {w' : World} (e1 : zs = zs') (hm : zs'.length = m) (h : RowB zs w e w') : RowG zs' m w e w' := by
  subst e1 hm
  obtain ⟨A, c, rfl, hown, hb⟩ := h
  refine ⟨A, c, rfl, reads_own_i hown, fun hp => ?_, hb⟩
  obtain ⟨g, cap, hv, _, _⟩ := hown.form (by omega)
  injection hv with h1 _ _
  exact ⟨g, h1⟩
set_option maxHeartbeats 40000000 in
set_option maxRecDepth 20000 in
theorem walk_FnLots (a0 : Option Addr) (len0 cap0 : Nat) (z0 : List Int) (w : World) (w0 : IsRow .u8 w a0 len0 cap0 z0) :
    Calls Try.prog 7 #[.slice a0 len0 cap0] w fun e w' => e = .returned (.bool true) ∧ Below w.heap.size w w' := by
  have hb := ReadsU.of_row w0
  have hm := hb.1
  clear w0
  by_cases hbig : (1048576 : Int) < (len0 : Int)
  · go_enter Try.func7, Try.ntmps7
    go_wp2_with fail
    refine (bigU _ _ _ _ hm true (by simpa using hbig)).mono ?_
    rintro e w' ⟨rfl, rfl⟩
    go_wp2_with fail
    go_ret
    exact ⟨rfl, Below.refl _ _⟩
  have HB := Lib.hid hb
  obtain ⟨x0, h0, A0⟩ := at_all a0 len0 cap0 0 w (by omega) (by omega) hb
  have HA0 := Lib.hid A0
  clear A0
  obtain ⟨x1, h1, A1⟩ := at_all a0 len0 cap0 1 w (by omega) (by omega) hb
  have HA1 := Lib.hid A1
  clear A1
  go_enter Try.func7, Try.ntmps7
  go_wp2_with fail
  refine (bigU _ _ _ _ hm false (by simpa using hbig)).mono ?_
  rintro e w' ⟨rfl, rfl⟩
  clear hbig hm hb
  have f0_0 : In w.heap.size w w := In.refl w
  have hbu := HB.out
  go_wp2_with fail
  refine (DrawUses_c _ _ _ _ (bytes_of hbu)).mono ?_
  rintro _ w1 ⟨A, cp, n, xs, rfl, ⟨hn0, hn⟩, hx, hrd, hnc, hb1⟩
  have f1_0 : In w.heap.size w w1 := f0_0.step hb1
  have f1_1 : ReadsUse w1 A n xs := hrd
  clear f0_0
  clear hb1 hrd hbu hnc hn0
  go_wp2_with fail
  refine (HA0.out _ f1_0).mono ?_
  rintro e w' ⟨rfl, rfl⟩
  have hx1 : 1 ≤ 1 + x0 % 6 ∧ 1 + x0 % 6 ≤ 6 := by omega
  go_wp2_with fail
  generalize 1 + x0 % 6 = x at *
  refine (HA1.out _ f1_0).mono ?_
  rintro e w' ⟨rfl, rfl⟩
  have hb1 : 1 ≤ 1 + x1 % 7 ∧ 1 + x1 % 7 ≤ 7 := by omega
  go_wp2_with fail
  generalize 1 + x1 % 7 = b at *
  clear h0 h1 HA0 HA1 HB
  have hB := uses_pu hn hx
  obtain ⟨BR, LO, R, eBR, eLO, eR, lBR, lLO, lR, e1, e2, e3, e4, S, es1, es0, lS, e5, e6⟩ := lots_law hn hx hx1 hb1
  obtain ⟨m1, hm1⟩ : ∃ m, BR.length = m := ⟨_, rfl⟩
  obtain ⟨m2, hm2⟩ : ∃ m, LO.length = m := ⟨_, rfl⟩
  obtain ⟨m3, hm3⟩ : ∃ m, R.length = m := ⟨_, rfl⟩
  obtain ⟨m4, hm4⟩ : ∃ m, S.length = m := ⟨_, rfl⟩
  rw [hm1] at lBR e2 e4 es1 es0 e5
  rw [hm2] at lLO
  rw [hm3] at lR
  rw [hm4] at lS e6
  have hnm : n ≤ maxLen := by unfold maxLen; omega
  have HRE : Hid (∀ W, ReadsUse W A n xs → Calls Try.prog 40 #[.slice A n cp, .int .i64 x] W (RowG R m3 W)) := Lib.hid fun W h => (iReached A n cp xs x W hnm h (WalkArith.wf_i64 (by omega))).mono fun _ _ k => rowG eR hm3 k
  have HBR : Hid (∀ W, ReadsUse W A n xs → Calls Try.prog 41 #[.slice A n cp, .int .i64 x] W (RowG BR m1 W)) := Lib.hid fun W h => (iBreadsOf A n cp xs x W hnm h).mono fun _ _ k => rowG eBR hm1 k
  have HLO : Hid (∀ W, ReadsUse W A n xs → Calls Try.prog 42 #[.slice A n cp, .int .i64 b] W (RowG LO m2 W)) := Lib.hid fun W h => (iLotsOf A n cp xs b W hnm h).mono fun _ _ k => rowG eLO hm2 k
  have HE3 : Hid (∀ k : Int, 1 ≤ k → k ≤ 6 → ∃ Q m, m ≤ 51 ∧ decide (k ∈ R) = decide (x ∈ Q) ∧ Q.length = m ∧ ∀ W, ReadsUse W A n xs → Calls Try.prog 40 #[.slice A n cp, .int .i64 k] W (RowG Q m W)) := Lib.hid fun k h1 h2 => by
    obtain ⟨Q, q1, q2, q3⟩ := e3 k h1 h2
    exact ⟨Q, _, q2, q3, rfl, fun W h => (iReached A n cp xs k W hnm h (WalkArith.wf_i64 (by omega))).mono fun _ _ z => rowG q1 rfl z⟩
  have HE4 : Hid (∀ t, t < m1 → ∃ O m, m ≤ 51 ∧ O.length = m ∧ (∀ i, i < m → decide (O.getD i 0 ∈ R) = true) ∧ ∀ W, ReadsUse W A n xs → Calls Try.prog 42 #[.slice A n cp, .int .i64 (BR.getD t 0)] W (RowG O m W)) := Lib.hid fun t ht => by
    obtain ⟨O, q0, q1, q2, q3⟩ := e4 t ht
    exact ⟨O, _, q2, rfl, q3, fun W h => (iLotsOf A n cp xs _ W hnm h).mono fun _ _ z => rowG q1 rfl z⟩
  have HE6 : Hid (∀ t, t < m4 → ∀ W, ReadsUse W A n xs → Calls Try.prog 41 #[.slice A n cp, .int .i64 (S.getD t 0)] W (RowG BR m1 W)) := Lib.hid fun t ht W h => (iBreadsOf A n cp xs _ W hnm h).mono fun _ _ z => rowG (e6 t ht).2 hm1 z
  have HSU : Hid (∀ W D d, ReadsUse W A n xs → ReadsI W D m1 BR → (0 < m1 → ∃ g, D = some ⟨g, 0, none⟩) → Calls Try.prog 44 #[.slice A n cp, .slice D m1 d] W (RowG S m4 W)) := Lib.hid fun W D d h h2 h3 => by
    by_cases hp : 0 < m1
    · exact (iSuspects A n cp xs D m1 d BR W hnm h (by unfold maxLen; omega) h2 (h3 hp)).mono fun _ _ z => rowG (es1 hp) hm4 z
    · obtain rfl : m1 = 0 := by omega
      exact (iSuspects0 A n cp xs D d W hnm h hB).mono fun _ _ z => rowG (es0 rfl).symm hm4 z
  have HUO : Hid (∀ W, ReadsUse W A n xs → Calls Try.prog 46 #[.slice A n cp] W (Val (.bool true) W)) := Lib.hid fun W h => by
    have := iUsesOk A n cp xs W hnm h
    rwa [hB] at this
  have HUS : Hid (∀ (l : Int) W, ReadsUse W A n xs → Calls Try.prog 43 #[.slice A n cp, .int .i64 l] W (Val (i64 (sumTo (usG xs l) n)) W)) := Lib.hid fun l W h => by
    have := iUsedOf A n cp xs l W hnm h
    rwa [used_pu hB l] at this
  have HUB := Lib.hid (fun l => us_in (xs := xs) l n hx)
  have HSB := Lib.hid (fun j => six_in hx j)
  have HGB := Lib.hid (fun k (hk : k ≤ n) => gr_in (xs := xs) k fun i hi => hx i (by omega))
  have HX := Lib.hid hx
  have HALL := Lib.hid (six_all n hx)
  have H50 := Lib.hid (us_none (xs := xs) (l := 50) (by omega) n hx)
  obtain ⟨v1, hv1⟩ : ∃ v, decide (b ∈ BR) = v := ⟨_, rfl⟩
  obtain ⟨v2, hv2⟩ : ∃ v, decide (0 < m1) = v := ⟨_, rfl⟩
  have d2 : decide ((0 : Int) < (m1 : Int)) = v2 := by rw [← hv2]; exact decide_eq_decide.2 (by omega)
  have l1 : m1 ≤ 1000 := by omega
  have l2 : m2 ≤ 1000 := by omega
  have l3 : m3 ≤ 1000 := by omega
  have l4 : m4 ≤ 1000 := by omega
  have HH1 : Hid (∀ W D d, ReadsI W D m1 BR → Calls Try.prog 16 #[.slice D m1 d, .int .i64 b] W (Same (.bool v1) W)) := Lib.hid fun W D d h => by have := has_m D m1 d BR b W l1 h; rwa [hv1] at this
  have HH2 : Hid (∀ W D d, ReadsI W D m2 LO → Calls Try.prog 16 #[.slice D m2 d, .int .i64 x] W (Same (.bool v1) W)) := Lib.hid fun W D d h => by have := has_m D m2 d LO x W l2 h; rwa [← e1, hv1] at this
  have HH3 : Hid (∀ W D d, ReadsI W D m3 R → Calls Try.prog 16 #[.slice D m3 d, .int .i64 x] W (Same (.bool v2) W)) := Lib.hid fun W D d h => by have := has_m D m3 d R x W l3 h; rwa [e2, hv2] at this
  have HH4 : Hid (∀ W D d, ReadsI W D m4 S → Calls Try.prog 16 #[.slice D m4 d, .int .i64 x] W (Same (.bool v2) W)) := Lib.hid fun W D d h => by have := has_m D m4 d S x W l4 h; rwa [e5, hv2] at this
  have dv : decide (0 < m1) = v2 := hv2
  clear e1 e2 e3 e4 es1 es0 e5 e6 hv1 hv2 eBR eLO eR hB hx hnm hm2 hm3 lLO lR lS lBR
  refine (HRE.out _ f1_1).mono ?_
  rintro _ w2 ⟨Ar, cr, rfl, hr2, hg2, hb2⟩
  have f2_0 : In w.heap.size w w2 := f1_0.step hb2
  have f2_1 : ReadsUse w2 A n xs := f1_1.step hb2
  have f2_2 : ReadsI w2 Ar m3 R := hr2
  clear f1_0 f1_1
  clear hb2 hr2
  clear HRE hg2
  go_wp2_with fail
  refine (HBR.out _ f2_1).mono ?_
  rintro _ w3 ⟨Ab, cb, rfl, hr3, hg3, hb3⟩
  have f3_0 : In w.heap.size w w3 := f2_0.step hb3
  have f3_1 : ReadsUse w3 A n xs := f2_1.step hb3
  have f3_2 : ReadsI w3 Ar m3 R := f2_2.step hb3
  have f3_3 : ReadsI w3 Ab m1 BR := hr3
  clear f2_0 f2_1 f2_2
  clear hb3 hr3
  clear HBR
  have HBG := Lib.hid hg3
  clear hg3
  go_wp2_with fail
  refine (HH1.out _ _ cb f3_3).mono ?_
  rintro e w' ⟨rfl, rfl⟩
  clear HH1
  go_wp2_with fail
  refine (HLO.out _ f3_1).mono ?_
  rintro _ w4 ⟨Al, cl, rfl, hr4, hg4, hb4⟩
  have f4_0 : In w.heap.size w w4 := f3_0.step hb4
  have f4_1 : ReadsUse w4 A n xs := f3_1.step hb4
  have f4_2 : ReadsI w4 Ar m3 R := f3_2.step hb4
  have f4_3 : ReadsI w4 Ab m1 BR := f3_3.step hb4
  have f4_4 : ReadsI w4 Al m2 LO := hr4
  clear f3_0 f3_1 f3_2 f3_3
  clear hb4 hr4
  clear HLO hg4
  go_wp2_with fail
  refine (HH2.out _ _ cl f4_4).mono ?_
  rintro e w' ⟨rfl, rfl⟩
  clear HH2 f4_4
  go_wp2_with fail
  refine (HH3.out _ _ cr f4_2).mono ?_
  rintro e w' ⟨rfl, rfl⟩
  clear HH3
  go_wp2
  go_loopw [8, 10] (fun a i wr => ∃ j k : Nat, k = j + 1 ∧ j ≤ 6 ∧ i = .int .i64 k ∧ a = .int .i64 (sixU n xs j) ∧ (In w.heap.size w wr ∧ ReadsUse wr A n xs ∧ ReadsI wr Ar m3 R ∧ ReadsI wr Ab m1 BR)) (fun _ i _ => 7 - (intOf i).toNat)
  case atStart => exact ⟨0, 1, rfl, by omega, rfl, rfl, f4_0, f4_1, f4_2, f4_3⟩
  case round =>
    obtain ⟨j, k, hkj, hj, rfl, rfl, f5_0, f5_1, f5_2, f5_3⟩ := hrel
    clear f4_0 f4_1 f4_2 f4_3
    have HKJ := Lib.hid hkj
    have hk0 : 1 ≤ k := by omega
    have hk7 : k ≤ 7 := by omega
    by_cases hlt : k ≤ 6
    · skip
      have g1_ : (k : Int) ≤ 6 := by omega
      have g0_ : (1 : Int) ≤ (k : Int) := by omega
      obtain ⟨Q, mq, lq, eq, hq, hRQ⟩ := HE3.out (k : Int) g0_ g1_
      have HRQ := Lib.hid hRQ
      clear hRQ
      have lq2 : mq ≤ 1000 := by omega
      obtain ⟨v3, hv3⟩ : ∃ v, decide ((k : Int) ∈ R) = v := ⟨_, rfl⟩
      have HK1 : Hid (∀ W D d, ReadsI W D m3 R → Calls Try.prog 16 #[.slice D m3 d, .int .i64 (k : Int)] W (Same (.bool v3) W)) := Lib.hid fun W D d h => by have := has_m D m3 d R (k : Int) W l3 h; rwa [hv3] at this
      have HK2 : Hid (∀ W D d, ReadsI W D mq Q → Calls Try.prog 16 #[.slice D mq d, .int .i64 x] W (Same (.bool v3) W)) := Lib.hid fun W D d h => by have := has_m D mq d Q x W lq2 h; rwa [← eq, hv3] at this
      have hu := HUB.out (k : Int)
      have hs := HSB.out j
      have HS1 : Hid (sixU n xs (j + 1) = sixU n xs j + sumTo (usG xs (k : Int)) n) := Lib.hid (by have h9 := HKJ.out; subst h9; rfl)
      have HUk := Lib.hid (fun W (h : ReadsUse W A n xs) => HUS.out (k : Int) W h)
      generalize sumTo (usG xs (k : Int)) n = u at *
      have hs2 : 0 ≤ sixU n xs j ∧ sixU n xs j ≤ 30000 := by have hj6 : (j : Int) ≤ 6 := by omega
                                                             have hn11 : (n : Int) ≤ 11 := by omega
                                                             have := Int.mul_le_mul (a := 299 * (n : Int)) (b := (j : Int)) (c := 3289) (d := 6) (by omega) hj6 (by omega) (by omega)
                                                             omega
      clear hs
      generalize sixU n xs j = s at *
      have hu2 : 0 ≤ u ∧ u ≤ 4000 := by omega
      clear hu eq hv3 hq hkj
      go_wp2_with fail
      refine (HUk.out _ f5_1).mono ?_
      rintro _ w6 ⟨rfl, hb6⟩
      have f6_0 : In w.heap.size w w6 := f5_0.step hb6
      have f6_1 : ReadsUse w6 A n xs := f5_1.step hb6
      have f6_2 : ReadsI w6 Ar m3 R := f5_2.step hb6
      have f6_3 : ReadsI w6 Ab m1 BR := f5_3.step hb6
      clear f5_0 f5_1 f5_2 f5_3
      clear hb6
      clear HUk
      go_wp2_with fail
      refine (HK1.out _ _ cr f6_2).mono ?_
      rintro e w' ⟨rfl, rfl⟩
      clear HK1
      go_wp2_with fail
      refine (HRQ.out _ f6_1).mono ?_
      rintro _ w7 ⟨Aq, cq, rfl, hr7, hg7, hb7⟩
      have f7_0 : In w.heap.size w w7 := f6_0.step hb7
      have f7_1 : ReadsUse w7 A n xs := f6_1.step hb7
      have f7_2 : ReadsI w7 Ar m3 R := f6_2.step hb7
      have f7_3 : ReadsI w7 Ab m1 BR := f6_3.step hb7
      have f7_4 : ReadsI w7 Aq mq Q := hr7
      clear f6_0 f6_1 f6_2 f6_3
      clear hb7 hr7
      clear HRQ hg7
      go_wp2_with fail
      refine (HK2.out _ _ cq f7_4).mono ?_
      rintro e w' ⟨rfl, rfl⟩
      clear HK2 f7_4
      go_wp2
      go_roundw
      case rel => exact ⟨j + 1, k + 1, by have h9 := HKJ.out; omega, by have h9 := HKJ.out; omega, by go_num, v_int (by rw [HS1.out]), f7_0, f7_1, f7_2, f7_3⟩
      case measure => simp [intOf]; omega
    · skip
      obtain rfl : j = 6 := by have h9 := HKJ.out; omega
      have g7_ : (6 : Int) < (k : Int) := by omega
      clear HKJ hkj HE3 HSB hj hk0 hk7
      obtain ⟨wa, hq9⟩ : ∃ q, q = wr := ⟨_, rfl⟩
      subst hq9
      generalize hk8 : k = k8 at *
      clear hk8
      have HS6 := HALL.out
      have hg9 := HGB.out n (Nat.le_refl _)
      rw [HS6]
      clear HS6
      generalize hsa : sumTo (grG xs) n = sa
      have HSA := Lib.hid hsa
      clear hsa HALL
      go_wp2
      go_loopw [9, 11] (fun a i wr => ∃ k : Nat, k ≤ n ∧ i = .int .i64 k ∧ a = .int .i64 (sumTo (grG xs) k) ∧ (In w.heap.size w wr ∧ ReadsUse wr A n xs ∧ ReadsI wr Ar m3 R ∧ ReadsI wr Ab m1 BR)) (fun _ i _ => n - (intOf i).toNat)
      case atStart => exact ⟨0, Nat.zero_le _, rfl, rfl, f5_0, f5_1, f5_2, f5_3⟩
      case round =>
        obtain ⟨k, hk, rfl, rfl, f6_0, f6_1, f6_2, f6_3⟩ := hrel
        clear f5_0 f5_1 f5_2 f5_3
        by_cases hlt : k < n
        · skip
          obtain ⟨ad, rfl, hc0, hc1, hc2⟩ := f6_1.2 k hlt
          have hxk := HX.out k hlt
          (try simp only [] at hxk)
          have hg := HGB.out k hk
          have HS1 : Hid (sumTo (grG xs) (k + 1) = sumTo (grG xs) k + (xs.getD k ⟨0, 0, 0⟩).f2) := Lib.hid rfl
          generalize (xs.getD k ⟨0, 0, 0⟩).f2 = y at *
          generalize sumTo (grG xs) k = s at *
          have hs2 : 0 ≤ s ∧ s ≤ 30000 := by omega
          clear hg hc0 hc1
          go_wp2
          go_roundw
          case rel => exact ⟨k + 1, by omega, by go_num, v_int HS1.out.symm, f6_0, f6_1, f6_2, f6_3⟩
          case measure => simp [intOf]; omega
        · skip
          obtain rfl : n = k := by omega
          have hsk := HSA.out
          rw [hsk]
          clear hsk HSA HGB HX hlt hk
          obtain ⟨wb, hq9⟩ : ∃ q, q = wr := ⟨_, rfl⟩
          subst hq9
          go_wp2
          go_loopw [12, 13, 14] (fun i a2 a3 wr => ∃ t : Nat, t ≤ m1 ∧ i = .int .i64 t ∧ (In w.heap.size w wr ∧ ReadsUse wr A n xs ∧ ReadsI wr Ar m3 R ∧ ReadsI wr Ab m1 BR)) (fun i _ _ _ => m1 - (intOf i).toNat)
          case atStart => exact ⟨0, Nat.zero_le _, rfl, f6_0, f6_1, f6_2, f6_3⟩
          case round =>
            obtain ⟨t, ht, rfl, f7_0, f7_1, f7_2, f7_3⟩ := hrel
            clear f6_0 f6_1 f6_2 f6_3
            obtain ⟨wc, hq9⟩ : ∃ q, q = wr := ⟨_, rfl⟩
            subst hq9
            by_cases hlt : t < m1
            · skip
              obtain ⟨ad, rfl, hc⟩ := f7_3.2 t hlt
              obtain ⟨O, mo, lo, hO, hOR, hcO⟩ := HE4.out t hlt
              have HCO := Lib.hid hcO
              have HOR := Lib.hid hOR
              clear hcO hOR
              generalize BR.getD t 0 = y at *
              go_wp2_with fail
              refine (HCO.out _ f7_1).mono ?_
              rintro _ w8 ⟨Ao, co, rfl, hr8, hg8, hb8⟩
              have f8_0 : In w.heap.size w w8 := f7_0.step hb8
              have f8_1 : ReadsUse w8 A n xs := f7_1.step hb8
              have f8_2 : ReadsI w8 Ar m3 R := f7_2.step hb8
              have f8_3 : ReadsI w8 (some ad) m1 BR := f7_3.step hb8
              have f8_4 : ReadsI w8 Ao mo O := hr8
              clear f7_0 f7_1 f7_2 f7_3
              clear hb8 hr8
              clear HCO hg8 hc
              go_wp2
              go_loopw [14] (fun i wr => ∃ k : Nat, k ≤ mo ∧ i = .int .i64 k ∧ (In w.heap.size w wr ∧ ReadsUse wr A n xs ∧ ReadsI wr Ar m3 R ∧ ReadsI wr (some ad) m1 BR ∧ ReadsI wr Ao mo O)) (fun i _ => mo - (intOf i).toNat)
              case atStart => exact ⟨0, Nat.zero_le _, rfl, f8_0, f8_1, f8_2, f8_3, f8_4⟩
              case round =>
                obtain ⟨k, hk, rfl, f9_0, f9_1, f9_2, f9_3, f9_4⟩ := hrel
                clear f8_0 f8_1 f8_2 f8_3 f8_4
                by_cases hlt2 : k < mo
                · skip
                  obtain ⟨ad2, rfl, hc⟩ := f9_4.2 k hlt2
                  have hor := HOR.out k hlt2
                  generalize O.getD k 0 = y2 at *
                  have HK1 : Hid (∀ W D d, ReadsI W D m3 R → Calls Try.prog 16 #[.slice D m3 d, .int .i64 y2] W (Same (.bool true) W)) := Lib.hid fun W D d h => by have := has_m D m3 d R y2 W l3 h; rwa [hor] at this
                  clear hor
                  go_wp2_with fail
                  refine (HK1.out _ _ cr f9_2).mono ?_
                  rintro e w' ⟨rfl, rfl⟩
                  clear HK1
                  go_wp2
                  go_roundw
                  case rel => exact ⟨k + 1, by omega, by go_num, f9_0, f9_1, f9_2, f9_3, f9_4⟩
                  case measure => simp [intOf]; omega
                · skip
                  go_wp2
                  go_roundw
                  case rel => exact ⟨t + 1, by omega, by go_num, f9_0, f9_1, f9_2, f9_3⟩
                  case measure => simp [intOf]; omega
            · skip
              clear HE4
              go_wp2_with fail
              refine (HSU.out _ _ cb f7_1 f7_3 HBG.out).mono ?_
              rintro _ w8 ⟨As, cs, rfl, hr8, hg8, hb8⟩
              have f8_0 : In w.heap.size w w8 := f7_0.step hb8
              have f8_1 : ReadsUse w8 A n xs := f7_1.step hb8
              have f8_2 : ReadsI w8 Ar m3 R := f7_2.step hb8
              have f8_3 : ReadsI w8 Ab m1 BR := f7_3.step hb8
              have f8_4 : ReadsI w8 As m4 S := hr8
              clear f7_0 f7_1 f7_2 f7_3
              clear hb8 hr8
              clear HSU hg8 HBG
              go_wp2
              go_loopw [16] (fun i wr => ∃ t : Nat, t ≤ m4 ∧ i = .int .i64 t ∧ (In w.heap.size w wr ∧ ReadsUse wr A n xs ∧ ReadsI wr Ar m3 R ∧ ReadsI wr Ab m1 BR ∧ ReadsI wr As m4 S)) (fun i _ => m4 - (intOf i).toNat)
              case atStart => exact ⟨0, Nat.zero_le _, rfl, f8_0, f8_1, f8_2, f8_3, f8_4⟩
              case round =>
                obtain ⟨u, hu, rfl, f9_0, f9_1, f9_2, f9_3, f9_4⟩ := hrel
                clear f8_0 f8_1 f8_2 f8_3 f8_4
                obtain ⟨wd, hq9⟩ : ∃ q, q = wr := ⟨_, rfl⟩
                subst hq9
                by_cases hlt2 : u < m4
                · skip
                  obtain ⟨ad, rfl, hc⟩ := f9_4.2 u hlt2
                  have HCB := Lib.hid (fun W (h : ReadsUse W A n xs) => HE6.out u hlt2 W h)
                  generalize S.getD u 0 = y at *
                  go_wp2_with fail
                  refine (HCB.out _ f9_1).mono ?_
                  rintro _ w10 ⟨Ao, co, rfl, hr10, hg10, hb10⟩
                  have f10_0 : In w.heap.size w w10 := f9_0.step hb10
                  have f10_1 : ReadsUse w10 A n xs := f9_1.step hb10
                  have f10_2 : ReadsI w10 Ar m3 R := f9_2.step hb10
                  have f10_3 : ReadsI w10 Ab m1 BR := f9_3.step hb10
                  have f10_4 : ReadsI w10 (some ad) m4 S := f9_4.step hb10
                  have f10_5 : ReadsI w10 Ao m1 BR := hr10
                  clear f9_0 f9_1 f9_2 f9_3 f9_4
                  clear hb10 hr10
                  clear HCB hg10 hc
                  go_wp2_with fail
                  refine (same_c _ _ _ co cb _ _ (by unfold maxLen; omega) f10_5 f10_3).mono ?_
                  rintro _ w11 ⟨rfl, hb11⟩
                  have f11_0 : In w.heap.size w w11 := f10_0.step hb11
                  have f11_1 : ReadsUse w11 A n xs := f10_1.step hb11
                  have f11_2 : ReadsI w11 Ar m3 R := f10_2.step hb11
                  have f11_3 : ReadsI w11 Ab m1 BR := f10_3.step hb11
                  have f11_4 : ReadsI w11 (some ad) m4 S := f10_4.step hb11
                  have f11_5 : ReadsI w11 Ao m1 BR := f10_5.step hb11
                  clear f10_0 f10_1 f10_2 f10_3 f10_4 f10_5
                  clear hb11
                  go_wp2
                  go_roundw
                  case rel => exact ⟨u + 1, by omega, by go_num, f11_0, f11_1, f11_2, f11_3, f11_4⟩
                  case measure => simp [intOf]; omega
                · skip
                  clear HE6
                  have HU50 := Lib.hid (fun W (h : ReadsUse W A n xs) => HUS.out 50 W h)
                  rw [H50.out] at HU50
                  clear HUS H50
                  go_wp2_with fail
                  refine (HH4.out _ _ cs f9_4).mono ?_
                  rintro e w' ⟨rfl, rfl⟩
                  go_wp2_with fail
                  refine (HUO.out _ f9_1).mono ?_
                  rintro _ w10 ⟨rfl, hb10⟩
                  have f10_0 : In w.heap.size w w10 := f9_0.step hb10
                  have f10_1 : ReadsUse w10 A n xs := f9_1.step hb10
                  have f10_2 : ReadsI w10 Ar m3 R := f9_2.step hb10
                  have f10_3 : ReadsI w10 Ab m1 BR := f9_3.step hb10
                  have f10_4 : ReadsI w10 As m4 S := f9_4.step hb10
                  clear f9_0 f9_1 f9_2 f9_3 f9_4
                  clear hb10
                  go_wp2_with fail
                  refine (HU50.out _ f10_1).mono ?_
                  rintro _ w11 ⟨rfl, hb11⟩
                  have f11_0 : In w.heap.size w w11 := f10_0.step hb11
                  have f11_1 : ReadsUse w11 A n xs := f10_1.step hb11
                  have f11_2 : ReadsI w11 Ar m3 R := f10_2.step hb11
                  have f11_3 : ReadsI w11 Ab m1 BR := f10_3.step hb11
                  have f11_4 : ReadsI w11 As m4 S := f10_4.step hb11
                  clear f10_0 f10_1 f10_2 f10_3 f10_4
                  clear hb11
                  go_wp2
                  go_ret
                  exact ⟨ret_bool rfl, f11_0.below⟩
end Go.Proofs.Ytgjbbidcpmglbaa
