/- The walk of the law FnWarms. -/
import Derived.Test.YtfnkbbiphloaeaaWarmP
import Derived.Test.YtfnkbbiphloaeaaAt
import Derived.Test.YtfnkbbiphloaeaaQuiet
namespace Go.Proofs.Ytfnkbbiphloaeaa
open Go.ChangeShapes Go.WideShapes Go.ChangeAt Go.RowKit
set_option linter.unusedVariables false
set_option linter.unusedSimpArgs false

set_option maxHeartbeats 20000000 in
set_option maxRecDepth 20000 in
theorem walk_FnWarms (a0 : Option Addr) (len0 cap0 : Nat) (z0 : List Int) (w : World) (w0 : IsRow .u8 w a0 len0 cap0 z0) :
    Calls Try.prog 3 #[.slice a0 len0 cap0] w fun e w' => e = .returned (.bool true) ∧ Below w.heap.size w w' := by
  have hb := ReadsU.of_row w0
  have hm := hb.1
  clear w0
  by_cases hbig : (1048576 : Int) < (len0 : Int)
  · go_enter Try.func3, Try.ntmps3
    go_wp2_with fail
    refine (bigU _ _ _ _ hm true (by simpa using hbig)).mono ?_
    rintro e w' ⟨rfl, rfl⟩
    go_wp2_with fail
    go_ret
    exact ⟨rfl, Below.refl _ _⟩
  go_enter Try.func3, Try.ntmps3
  go_wp2_with fail
  refine (bigU _ _ _ _ hm false (by simpa using hbig)).mono ?_
  rintro e w' ⟨rfl, rfl⟩
  clear hbig hm
  go_wp2_with fail
  refine (at_c _ _ _ 0 _ (by omega) (by omega) hb).mono ?_
  rintro e w' ⟨x0, ⟨h00, h01⟩, rfl, rfl⟩
  go_wp2_with fail
  refine (at_c _ _ _ 1 _ (by omega) (by omega) hb).mono ?_
  rintro e w' ⟨x1, ⟨h10, h11⟩, rfl, rfl⟩
  go_wp2_with fail
  refine (at_c _ _ _ 2 _ (by omega) (by omega) hb).mono ?_
  rintro e w' ⟨x2, ⟨h20, h21⟩, rfl, rfl⟩
  go_wp2_with fail
  refine (at_c _ _ _ 3 _ (by omega) (by omega) hb).mono ?_
  rintro e w' ⟨x3, ⟨h30, h31⟩, rfl, rfl⟩
  go_wp2_with fail
  have hW : 15 ≤ 15 + x0 % 20 ∧ 15 + x0 % 20 ≤ 34 := by omega
  have hF : 0 ≤ x1 % 30 ∧ x1 % 30 ≤ 29 := by omega
  have hR : 0 ≤ x2 % 30 ∧ x2 % 30 ≤ 29 := by omega
  have hG : 0 ≤ x3 % 10 ∧ x3 % 10 ≤ 9 := by omega
  generalize 15 + x0 % 20 = W at hW ⊢
  generalize x1 % 30 = F at hF ⊢
  generalize x2 % 30 = R at hR ⊢
  generalize x3 % 10 = G at hG ⊢
  clear h00 h01 h10 h11 h20 h21 h30 h31
  refine (iWaterFor W F R G _).mono ?_
  rintro _ w1 ⟨rfl, hb1⟩
  have i1 : In w.heap.size w w1 := In.step (by (repeat (first | exact In.refl _ | assumption | apply In.alloc | apply In.drewN | apply In.drew | (refine In.step ?_ (by assumption))))) hb1
  clear hb1
  rw [warm_water hW hF hR hG]
  obtain ⟨X, hX⟩ : ∃ X : Int, X = 3 * W - F - R - G := ⟨_, rfl⟩
  have HX := Lib.hid hX
  have hXb : -22 ≤ X ∧ X ≤ 102 := by omega
  obtain ⟨X1, X2⟩ := hXb
  rw [← hX]
  clear hX
  go_wp2_with fail
  refine (iDoughHeat X F R G _).mono ?_
  rintro _ w2 ⟨rfl, hb2⟩
  have i2 : In w.heap.size w w2 := In.step (by (repeat (first | exact In.refl _ | assumption | apply In.alloc | apply In.drewN | apply In.drew | (refine In.step ?_ (by assumption))))) hb2
  clear hb2 i1
  rw [show doughHV X F R G = W by rw [HX.out]; exact warm_heat hW hF hR hG]
  go_wp2_with fail
  refine (iCanReach W F R G _).mono ?_
  rintro _ w3 ⟨rfl, hb3⟩
  have i3 : In w.heap.size w w3 := In.step (by (repeat (first | exact In.refl _ | assumption | apply In.alloc | apply In.drewN | apply In.drew | (refine In.step ?_ (by assumption))))) hb3
  clear hb3 i2
  have b3 : ReadsU w3 a0 len0 := hb.in_ i3
  clear hb
  obtain ⟨C, hC⟩ : ∃ C : Bool, C = reachB W F R G := ⟨_, rfl⟩
  have HC := Lib.hid (show C = decide (1 ≤ X ∧ X ≤ 60) by rw [hC, warm_reach hW (by omega) hR hG, ← HX.out])
  have HC1 := Lib.hid hC
  rw [← hC]
  clear hC
  go_wp2_with fail
  refine (at_c _ _ _ 4 _ (by omega) (by omega) b3).mono ?_
  rintro e w' ⟨x4, ⟨h40, h41⟩, rfl, rfl⟩
  go_wp2_with fail
  refine (at_c _ _ _ 5 _ (by omega) (by omega) b3).mono ?_
  rintro e w' ⟨x5, ⟨h50, h51⟩, rfl, rfl⟩
  clear b3
  go_wp2_with fail
  have hT : 0 ≤ x4 % 25 ∧ x4 % 25 ≤ 24 := by omega
  have hM : 0 ≤ x5 * 20 ∧ x5 * 20 ≤ 5100 := by omega
  generalize x4 % 25 = T at hT ⊢
  generalize x5 * 20 = M at hM ⊢
  clear h40 h41 h50 h51
  refine (iIceFor T M _).mono ?_
  rintro _ _ ⟨rfl, rfl⟩
  obtain ⟨I, hI⟩ : ∃ I : Int, I = iceV T M := ⟨_, rfl⟩
  obtain ⟨I1, I2, I3, I4⟩ := warm_ice hT hM hI
  rw [← hI]
  clear hI
  have HK := Lib.hid (fun k hk => warm_hot (k := k) hW hF hR hG hk)
  by_cases hT20 : 20 ≤ T
  · obtain rfl : I = 0 := I3 hT20
    clear I3 I4 I1
    have hn : ¬ T < 20 := by omega
    go_wp2_with fail
    refine (iHottestFlour W R G _).mono ?_
    rintro _ w4 ⟨rfl, hb4⟩
    have i4 : In w.heap.size w w4 := In.step (by (repeat (first | exact In.refl _ | assumption | apply In.alloc | apply In.drewN | apply In.drew | (refine In.step ?_ (by assumption))))) hb4
    clear hb4 i3
    obtain ⟨K, hK⟩ : ∃ K : Int, K = hotN W R G 81 := ⟨_, rfl⟩
    obtain ⟨K1, K2⟩ := HK.out K hK
    rw [← hK]
    clear hK HK
    have hX := HX.out
    have hC := HC.out
    have hc3 : (C = true ∧ 1 ≤ X ∧ X ≤ 60 ∧ F ≤ K) ∨ (C = false ∧ X < 1) ∨ (C = false ∧ 60 < X) := by
      rw [← HC1.out] at K1
      cases C
      · have := of_decide_eq_false hC.symm
        by_cases h1 : X < 1
        · exact .inr (.inl ⟨rfl, h1⟩)
        · exact .inr (.inr ⟨rfl, by omega⟩)
      · have := of_decide_eq_true hC.symm
        exact .inl ⟨rfl, this.1, this.2, K1 rfl⟩
    clear HX HC HC1 X1 X2 K1 hC
    subst hX
    have HD : Hid (∀ Y, Calls Try.prog 12 #[.int .i64 (-5), .int .i64 0, .int .i64 0, .int .i64 0] Y (Val (i64 (-2)) Y)) := Lib.hid (fun Y => by
      have := iDoughHeat (-5) 0 0 0 Y
      rwa [show doughHV (-5) 0 0 0 = -2 by decide] at this)
    rcases K2 with rfl | ⟨k1, k2, KR, K3⟩
    · rcases hc3 with ⟨_, _, _, h⟩ | ⟨rfl, h⟩ | ⟨rfl, h⟩
      · exfalso; omega
      all_goals
        go_wp2_with fail
        refine (HD.out _).mono ?_
        rintro _ w7 ⟨rfl, hb7⟩
        have i7 : In w.heap.size w w7 := In.step (by (repeat (first | exact In.refl _ | assumption | apply In.alloc | apply In.drewN | apply In.drew | (refine In.step ?_ (by assumption))))) hb7
        go_wp2_with fail
        go_ret
        exact ⟨ret_bool (by first | rfl | (simp; omega)), i7.below⟩
    · have HA : Hid (∀ Y, Calls Try.prog 13 #[.int .i64 W, .int .i64 K, .int .i64 R, .int .i64 G] Y (Val (.bool true) Y)) := Lib.hid (fun Y => by
        have := iCanReach W K R G Y
        rwa [KR] at this)
      have hk : ¬ K = -1000 := by omega
      clear KR
      by_cases h60 : K = 60
      · subst h60
        clear K3 hk k1 k2
        rcases hc3 with ⟨rfl, h1, h2, h3⟩ | ⟨rfl, h⟩ | ⟨rfl, h⟩
        all_goals
          go_wp2_with fail
          refine (HA.out _).mono ?_
          rintro _ w5 ⟨rfl, hb5⟩
          have i5 : In w.heap.size w w5 := In.step (by (repeat (first | exact In.refl _ | assumption | apply In.alloc | apply In.drewN | apply In.drew | (refine In.step ?_ (by assumption))))) hb5
          clear hb5 i4
          go_wp2_with fail
          refine (HD.out _).mono ?_
          rintro _ w7 ⟨rfl, hb7⟩
          have i7 : In w.heap.size w w7 := In.step (by (repeat (first | exact In.refl _ | assumption | apply In.alloc | apply In.drewN | apply In.drew | (refine In.step ?_ (by assumption))))) hb7
          go_wp2_with fail
          go_ret
          exact ⟨ret_bool (by first | rfl | (simp; omega)), i7.below⟩
      · have HB : Hid (∀ Y, Calls Try.prog 13 #[.int .i64 W, .int .i64 (K + 1), .int .i64 R, .int .i64 G] Y (Val (.bool false) Y)) := Lib.hid (fun Y => by
          have := iCanReach W (K + 1) R G Y
          rwa [K3.resolve_left h60] at this)
        clear K3
        rcases hc3 with ⟨rfl, h1, h2, h3⟩ | ⟨rfl, h⟩ | ⟨rfl, h⟩
        all_goals
          go_wp2_with fail
          refine (HA.out _).mono ?_
          rintro _ w5 ⟨rfl, hb5⟩
          have i5 : In w.heap.size w w5 := In.step (by (repeat (first | exact In.refl _ | assumption | apply In.alloc | apply In.drewN | apply In.drew | (refine In.step ?_ (by assumption))))) hb5
          clear hb5 i4
          go_wp2_with fail
          refine (HB.out _).mono ?_
          rintro _ w6 ⟨rfl, hb6⟩
          have i6 : In w.heap.size w w6 := In.step (by (repeat (first | exact In.refl _ | assumption | apply In.alloc | apply In.drewN | apply In.drew | (refine In.step ?_ (by assumption))))) hb6
          clear hb6 i5
          go_wp2_with fail
          refine (HD.out _).mono ?_
          rintro _ w7 ⟨rfl, hb7⟩
          have i7 : In w.heap.size w w7 := In.step (by (repeat (first | exact In.refl _ | assumption | apply In.alloc | apply In.drewN | apply In.drew | (refine In.step ?_ (by assumption))))) hb7
          go_wp2_with fail
          go_ret
          exact ⟨ret_bool (by first | rfl | (simp; omega)), i7.below⟩
  · have hT1 : T < 20 := by omega
    obtain ⟨J1, J2⟩ := I4 hT1
    clear I3 I4
    obtain ⟨P, hP⟩ : ∃ P : Int, P = (20 - T) * (M - I) := ⟨_, rfl⟩
    obtain ⟨P1, P2⟩ := mul_in (a := 20 - T) (b := M - I) (A := 20) (B := 5100) (by omega) (by omega) (by omega) (by omega)
    rw [← hP] at P1 P2 J1
    have hp : wrap64 ((20 - T) * (M - I)) = P := by rw [← hP]; exact w64 (by omega)
    clear hP
    by_cases hI0 : 0 < I
    · have J2 := J2 hI0
      obtain ⟨Q, hQ⟩ : ∃ Q : Int, Q = (20 - T) * (M - I + 1) := ⟨_, rfl⟩
      obtain ⟨Q1, Q2⟩ := mul_in (a := 20 - T) (b := M - I + 1) (A := 20) (B := 5101) (by omega) (by omega) (by omega) (by omega)
      rw [← hQ] at Q1 Q2 J2
      have hq : wrap64 ((20 - T) * (M - I + 1)) = Q := by rw [← hQ]; exact w64 (by omega)
      clear hQ
      go_wp2_with fail
      refine (iHottestFlour W R G _).mono ?_
      rintro _ w4 ⟨rfl, hb4⟩
      have i4 : In w.heap.size w w4 := In.step (by (repeat (first | exact In.refl _ | assumption | apply In.alloc | apply In.drewN | apply In.drew | (refine In.step ?_ (by assumption))))) hb4
      clear hb4 i3
      obtain ⟨K, hK⟩ : ∃ K : Int, K = hotN W R G 81 := ⟨_, rfl⟩
      obtain ⟨K1, K2⟩ := HK.out K hK
      rw [← hK]
      clear hK HK
      have hX := HX.out
      have hC := HC.out
      have hc3 : (C = true ∧ 1 ≤ X ∧ X ≤ 60 ∧ F ≤ K) ∨ (C = false ∧ X < 1) ∨ (C = false ∧ 60 < X) := by
        rw [← HC1.out] at K1
        cases C
        · have := of_decide_eq_false hC.symm
          by_cases h1 : X < 1
          · exact .inr (.inl ⟨rfl, h1⟩)
          · exact .inr (.inr ⟨rfl, by omega⟩)
        · have := of_decide_eq_true hC.symm
          exact .inl ⟨rfl, this.1, this.2, K1 rfl⟩
      clear HX HC HC1 X1 X2 K1 hC
      subst hX
      have HD : Hid (∀ Y, Calls Try.prog 12 #[.int .i64 (-5), .int .i64 0, .int .i64 0, .int .i64 0] Y (Val (i64 (-2)) Y)) := Lib.hid (fun Y => by
        have := iDoughHeat (-5) 0 0 0 Y
        rwa [show doughHV (-5) 0 0 0 = -2 by decide] at this)
      rcases K2 with rfl | ⟨k1, k2, KR, K3⟩
      · rcases hc3 with ⟨_, _, _, h⟩ | ⟨rfl, h⟩ | ⟨rfl, h⟩
        · exfalso; omega
        all_goals
          go_wp2_with fail
          refine (HD.out _).mono ?_
          rintro _ w7 ⟨rfl, hb7⟩
          have i7 : In w.heap.size w w7 := In.step (by (repeat (first | exact In.refl _ | assumption | apply In.alloc | apply In.drewN | apply In.drew | (refine In.step ?_ (by assumption))))) hb7
          go_wp2_with fail
          go_ret
          exact ⟨ret_bool (by first | rfl | (simp; omega)), i7.below⟩
      · have HA : Hid (∀ Y, Calls Try.prog 13 #[.int .i64 W, .int .i64 K, .int .i64 R, .int .i64 G] Y (Val (.bool true) Y)) := Lib.hid (fun Y => by
          have := iCanReach W K R G Y
          rwa [KR] at this)
        have hk : ¬ K = -1000 := by omega
        clear KR
        by_cases h60 : K = 60
        · subst h60
          clear K3 hk k1 k2
          rcases hc3 with ⟨rfl, h1, h2, h3⟩ | ⟨rfl, h⟩ | ⟨rfl, h⟩
          all_goals
            go_wp2_with fail
            refine (HA.out _).mono ?_
            rintro _ w5 ⟨rfl, hb5⟩
            have i5 : In w.heap.size w w5 := In.step (by (repeat (first | exact In.refl _ | assumption | apply In.alloc | apply In.drewN | apply In.drew | (refine In.step ?_ (by assumption))))) hb5
            clear hb5 i4
            go_wp2_with fail
            refine (HD.out _).mono ?_
            rintro _ w7 ⟨rfl, hb7⟩
            have i7 : In w.heap.size w w7 := In.step (by (repeat (first | exact In.refl _ | assumption | apply In.alloc | apply In.drewN | apply In.drew | (refine In.step ?_ (by assumption))))) hb7
            go_wp2_with fail
            go_ret
            exact ⟨ret_bool (by first | rfl | (simp; omega)), i7.below⟩
        · have HB : Hid (∀ Y, Calls Try.prog 13 #[.int .i64 W, .int .i64 (K + 1), .int .i64 R, .int .i64 G] Y (Val (.bool false) Y)) := Lib.hid (fun Y => by
            have := iCanReach W (K + 1) R G Y
            rwa [K3.resolve_left h60] at this)
          clear K3
          rcases hc3 with ⟨rfl, h1, h2, h3⟩ | ⟨rfl, h⟩ | ⟨rfl, h⟩
          all_goals
            go_wp2_with fail
            refine (HA.out _).mono ?_
            rintro _ w5 ⟨rfl, hb5⟩
            have i5 : In w.heap.size w w5 := In.step (by (repeat (first | exact In.refl _ | assumption | apply In.alloc | apply In.drewN | apply In.drew | (refine In.step ?_ (by assumption))))) hb5
            clear hb5 i4
            go_wp2_with fail
            refine (HB.out _).mono ?_
            rintro _ w6 ⟨rfl, hb6⟩
            have i6 : In w.heap.size w w6 := In.step (by (repeat (first | exact In.refl _ | assumption | apply In.alloc | apply In.drewN | apply In.drew | (refine In.step ?_ (by assumption))))) hb6
            clear hb6 i5
            go_wp2_with fail
            refine (HD.out _).mono ?_
            rintro _ w7 ⟨rfl, hb7⟩
            have i7 : In w.heap.size w w7 := In.step (by (repeat (first | exact In.refl _ | assumption | apply In.alloc | apply In.drewN | apply In.drew | (refine In.step ?_ (by assumption))))) hb7
            go_wp2_with fail
            go_ret
            exact ⟨ret_bool (by first | rfl | (simp; omega)), i7.below⟩
    · clear J2
      go_wp2_with fail
      refine (iHottestFlour W R G _).mono ?_
      rintro _ w4 ⟨rfl, hb4⟩
      have i4 : In w.heap.size w w4 := In.step (by (repeat (first | exact In.refl _ | assumption | apply In.alloc | apply In.drewN | apply In.drew | (refine In.step ?_ (by assumption))))) hb4
      clear hb4 i3
      obtain ⟨K, hK⟩ : ∃ K : Int, K = hotN W R G 81 := ⟨_, rfl⟩
      obtain ⟨K1, K2⟩ := HK.out K hK
      rw [← hK]
      clear hK HK
      have hX := HX.out
      have hC := HC.out
      have hc3 : (C = true ∧ 1 ≤ X ∧ X ≤ 60 ∧ F ≤ K) ∨ (C = false ∧ X < 1) ∨ (C = false ∧ 60 < X) := by
        rw [← HC1.out] at K1
        cases C
        · have := of_decide_eq_false hC.symm
          by_cases h1 : X < 1
          · exact .inr (.inl ⟨rfl, h1⟩)
          · exact .inr (.inr ⟨rfl, by omega⟩)
        · have := of_decide_eq_true hC.symm
          exact .inl ⟨rfl, this.1, this.2, K1 rfl⟩
      clear HX HC HC1 X1 X2 K1 hC
      subst hX
      have HD : Hid (∀ Y, Calls Try.prog 12 #[.int .i64 (-5), .int .i64 0, .int .i64 0, .int .i64 0] Y (Val (i64 (-2)) Y)) := Lib.hid (fun Y => by
        have := iDoughHeat (-5) 0 0 0 Y
        rwa [show doughHV (-5) 0 0 0 = -2 by decide] at this)
      rcases K2 with rfl | ⟨k1, k2, KR, K3⟩
      · rcases hc3 with ⟨_, _, _, h⟩ | ⟨rfl, h⟩ | ⟨rfl, h⟩
        · exfalso; omega
        all_goals
          go_wp2_with fail
          refine (HD.out _).mono ?_
          rintro _ w7 ⟨rfl, hb7⟩
          have i7 : In w.heap.size w w7 := In.step (by (repeat (first | exact In.refl _ | assumption | apply In.alloc | apply In.drewN | apply In.drew | (refine In.step ?_ (by assumption))))) hb7
          go_wp2_with fail
          go_ret
          exact ⟨ret_bool (by first | rfl | (simp; omega)), i7.below⟩
      · have HA : Hid (∀ Y, Calls Try.prog 13 #[.int .i64 W, .int .i64 K, .int .i64 R, .int .i64 G] Y (Val (.bool true) Y)) := Lib.hid (fun Y => by
          have := iCanReach W K R G Y
          rwa [KR] at this)
        have hk : ¬ K = -1000 := by omega
        clear KR
        by_cases h60 : K = 60
        · subst h60
          clear K3 hk k1 k2
          rcases hc3 with ⟨rfl, h1, h2, h3⟩ | ⟨rfl, h⟩ | ⟨rfl, h⟩
          all_goals
            go_wp2_with fail
            refine (HA.out _).mono ?_
            rintro _ w5 ⟨rfl, hb5⟩
            have i5 : In w.heap.size w w5 := In.step (by (repeat (first | exact In.refl _ | assumption | apply In.alloc | apply In.drewN | apply In.drew | (refine In.step ?_ (by assumption))))) hb5
            clear hb5 i4
            go_wp2_with fail
            refine (HD.out _).mono ?_
            rintro _ w7 ⟨rfl, hb7⟩
            have i7 : In w.heap.size w w7 := In.step (by (repeat (first | exact In.refl _ | assumption | apply In.alloc | apply In.drewN | apply In.drew | (refine In.step ?_ (by assumption))))) hb7
            go_wp2_with fail
            go_ret
            exact ⟨ret_bool (by first | rfl | (simp; omega)), i7.below⟩
        · have HB : Hid (∀ Y, Calls Try.prog 13 #[.int .i64 W, .int .i64 (K + 1), .int .i64 R, .int .i64 G] Y (Val (.bool false) Y)) := Lib.hid (fun Y => by
            have := iCanReach W (K + 1) R G Y
            rwa [K3.resolve_left h60] at this)
          clear K3
          rcases hc3 with ⟨rfl, h1, h2, h3⟩ | ⟨rfl, h⟩ | ⟨rfl, h⟩
          all_goals
            go_wp2_with fail
            refine (HA.out _).mono ?_
            rintro _ w5 ⟨rfl, hb5⟩
            have i5 : In w.heap.size w w5 := In.step (by (repeat (first | exact In.refl _ | assumption | apply In.alloc | apply In.drewN | apply In.drew | (refine In.step ?_ (by assumption))))) hb5
            clear hb5 i4
            go_wp2_with fail
            refine (HB.out _).mono ?_
            rintro _ w6 ⟨rfl, hb6⟩
            have i6 : In w.heap.size w w6 := In.step (by (repeat (first | exact In.refl _ | assumption | apply In.alloc | apply In.drewN | apply In.drew | (refine In.step ?_ (by assumption))))) hb6
            clear hb6 i5
            go_wp2_with fail
            refine (HD.out _).mono ?_
            rintro _ w7 ⟨rfl, hb7⟩
            have i7 : In w.heap.size w w7 := In.step (by (repeat (first | exact In.refl _ | assumption | apply In.alloc | apply In.drewN | apply In.drew | (refine In.step ?_ (by assumption))))) hb7
            go_wp2_with fail
            go_ret
            exact ⟨ret_bool (by first | rfl | (simp; omega)), i7.below⟩
end Go.Proofs.Ytfnkbbiphloaeaa
