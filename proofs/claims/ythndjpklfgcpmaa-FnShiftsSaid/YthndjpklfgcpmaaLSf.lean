/- The law FnShifts. -/
import Derived.Test.YthndjpklfgcpmaaShP
import Derived.Test.YthndjpklfgcpmaaAtAll
import Derived.Test.YthndjpklfgcpmaaQuietL
import Derived.BigQuiet
import Derived.Deep.QuietTactic
namespace Go.Proofs.Ythndjpklfgcpmaa
open Go.ChangeShapes Go.WideShapes Go.ChangeAt Go.RowKit
set_option linter.unusedVariables false
set_option linter.unusedSimpArgs false
set_option maxHeartbeats 2000000

/-- k and the shift q leave too little rest -/
def okf (xs : List ShiftR) (rest : Int) (k : Nat) (L : List Int) (j : Nat) : Bool := decide (rest ≤ (xs.getD k z22).f0 - (xs.getD (L.getD j 0).toNat z22).f1) || decide (rest ≤ (xs.getD (L.getD j 0).toNat z22).f0 - (xs.getD k z22).f1)
theorem reads_night (W : World) : ReadsShift (W.alloc (.cells #[.int .i64 20, .int .i64 30] 41)) (some ⟨W.heap.size, 0, none⟩) 1 [⟨20, 30⟩] := by
  have hk := Blk.new W 41 #[.int .i64 20, .int .i64 30]
  refine ⟨rfl, fun k hk1 => ?_⟩
  obtain rfl : k = 0 := by omega
  refine ⟨_, rfl, ?_, ?_⟩
  · rw [Addr.add_lit]; exact hk.cell 0
  · rw [Addr.add_lit]; exact hk.cell 1
set_option maxHeartbeats 40000000 in
set_option maxRecDepth 20000 in
theorem walk_FnShifts (a0 : Option Addr) (len0 cap0 : Nat) (z0 : List Int) (w : World) (w0 : IsRow .u8 w a0 len0 cap0 z0) :
    Calls Try.prog 6 #[.slice a0 len0 cap0] w fun e w' => e = .returned (.bool true) ∧ Below w.heap.size w w' := by
  have hb := ReadsU.of_row w0
  have hm := hb.1
  clear w0
  by_cases hbig : (1048576 : Int) < (len0 : Int)
  · go_enter Try.func6, Try.ntmps6
    go_wp2_with fail
    refine (bigU _ _ _ _ hm true (by simpa using hbig)).mono ?_
    rintro e w' ⟨rfl, rfl⟩
    go_wp2_with fail
    go_ret
    exact ⟨rfl, Below.refl _ _⟩
  have HB := Lib.hid hb
  obtain ⟨x0, h0, A0⟩ := at_all a0 len0 cap0 0 w (by omega) (by omega) hb
  have HA0 := Lib.hid A0
  clear A0
  go_enter Try.func6, Try.ntmps6
  go_wp2_with fail
  refine (bigU _ _ _ _ hm false (by simpa using hbig)).mono ?_
  rintro e w' ⟨rfl, rfl⟩
  clear hbig hm hb
  have f0_0 : In w.heap.size w w := In.refl w
  have hbu := HB.out
  obtain ⟨rest, hrest⟩ : ∃ r, x0 % 16 = r := ⟨_, rfl⟩
  have r0 : 0 ≤ rest := by omega
  have r15 : rest ≤ 15 := by omega
  have VR : x0.tmod 16 = rest := by rw [Int.tmod_eq_emod_of_nonneg h0.1, hrest]
  have VRw : IntKind.i64.wrap rest = rest := IntWalk.i64_in _ (by omega)
  clear hrest
  go_wp2_with fail
  refine (DrawShifts_c _ _ _ _ (bytes_of hbu)).mono ?_
  rintro _ w1 ⟨A, cp, n, xs, a9, rfl, hn, hps, hrx, hsp, hb1⟩
  have f1_0 : In w.heap.size w w1 := f0_0.step hb1
  have f1_1 : ReadsShift w1 A n xs := hrx
  clear f0_0
  clear hb1 hrx hbu
  obtain ⟨H, N, R, L, m, law⟩ := shifts_law hps hn r0 r15
  obtain ⟨eH, eS, eN, eR, eL, lm, bH, bN, bR, bm, pos, gap, al, al1, ok, at_, rst, all, fit⟩ := law
  have hnm : n ≤ maxLen := by unfold maxLen; omega
  have HHO := Lib.hid (fun W (h : ReadsShift W A n xs) => iHoursOf A n cp xs W hnm h)
  rw [eH] at HHO
  have HNI := Lib.hid (fun W (h : ReadsShift W A n xs) => iNightHours A n cp xs W hnm h)
  rw [eN] at HNI
  have HRE := Lib.hid (fun W (h : ReadsShift W A n xs) => iRestBetween A n cp xs W hnm h)
  rw [eR] at HRE
  have HMO := Lib.hid (fun W (h : ReadsShift W A n xs) => iMostShifts A n cp xs rest W hnm hsp h)
  rw [eL] at HMO
  have HOK := Lib.hid (fun W (h : ReadsShift W A n xs) => iShiftsOk A n cp xs W hnm h)
  rw [ok] at HOK
  have HAL := Lib.hid (fun W (h : ReadsShift W A n xs) => iIsAllowed A n cp xs R H W hnm h)
  rw [al] at HAL
  have HAM := Lib.hid (fun W (h : ReadsShift W A n xs) => iIsAllowed A n cp xs R (H - 1) W hnm h)
  rw [al1] at HAM
  have HNG := Lib.hid (fun W B d (h : ReadsShift W B 1 [⟨20, 30⟩]) => iNightHours B 1 d [⟨20, 30⟩] W (by unfold maxLen; omega) h)
  rw [night8] at HNG
  have HX := Lib.hid hps.1
  have HSU := Lib.hid (fun k (hk : k ≤ n) => sumTo_bd (hG xs) 12 k fun i hi => by have := hps.1 i (by omega); unfold hG; omega)
  have HES := Lib.hid eS
  have HGP := Lib.hid gap
  have HAT := Lib.hid at_
  have HRS := Lib.hid rst
  have HFT := Lib.hid fit
  have HHAS := Lib.hid (fun W D d (x : Int) (h : ReadsI W D m L) => has_m D m d L x W (by omega) h)
  clear hps eH eS eN eR eL gap al al1 ok at_ rst fit hsp hnm
  go_wp2_with fail
  refine (HHO.out _ f1_1).mono ?_
  rintro _ w2 ⟨rfl, hb2⟩
  have f2_0 : In w.heap.size w w2 := f1_0.step hb2
  have f2_1 : ReadsShift w2 A n xs := f1_1.step hb2
  clear f1_0 f1_1
  clear hb2
  clear HHO
  go_wp2_with fail
  refine (HNI.out _ f2_1).mono ?_
  rintro _ w3 ⟨rfl, hb3⟩
  have f3_0 : In w.heap.size w w3 := f2_0.step hb3
  have f3_1 : ReadsShift w3 A n xs := f2_1.step hb3
  clear f2_0 f2_1
  clear hb3
  clear HNI
  go_wp2_with fail
  refine (HRE.out _ f3_1).mono ?_
  rintro _ w4 ⟨rfl, hb4⟩
  have f4_0 : In w.heap.size w w4 := f3_0.step hb4
  have f4_1 : ReadsShift w4 A n xs := f3_1.step hb4
  clear f3_0 f3_1
  clear hb4
  clear HRE
  go_wp2_with fail
  refine (HA0.out _ f4_0).mono ?_
  rintro e w' ⟨rfl, rfl⟩
  go_wp2_with fail
  (try rw [VR])
  refine (HMO.out _ f4_1).mono ?_
  rintro _ w5 ⟨AL, cL, rfl, hown, hb5⟩
  have hrl := reads_own_i hown
  rw [lm] at hrl
  (try rw [lm])
  have f5_0 : In w.heap.size w w5 := f4_0.step hb5
  have f5_1 : ReadsShift w5 A n xs := f4_1.step hb5
  have f5_2 : ReadsI w5 AL m L := hrl
  clear f4_0 f4_1
  clear hb5 hown hrl HMO VR VRw lm
  by_cases hn0 : 0 < n
  · skip
    have m1_ : (m : Int) ≤ (n : Int) := by omega
    have m2_ : decide ((n : Int) < (m : Int)) = false := decide_eq_false (by omega)
    have m3_ : decide (n < m) = false := decide_eq_false (by omega)
    have p1_ : (0 : Int) < (n : Int) := by omega
    have hm0 := pos hn0
    have p2_ : ((m : Int) == 0) = false := by simp; omega
    have p3_ : ¬ ((m : Int) = 0) := by omega
    clear pos
    obtain ⟨wa, hq9⟩ : ∃ q, q = w5 := ⟨_, rfl⟩
    subst hq9
    as_aux_lemma =>
     go_wp2
     go_loopw [9, 10] (fun s i wr => ∃ k : Nat, k ≤ n ∧ i = .int .i64 k ∧ s = .int .i64 (sumTo (hG xs) k) ∧ (In w.heap.size w wr ∧ ReadsShift wr A n xs ∧ ReadsI wr AL m L)) (fun _ i _ => n - (intOf i).toNat)
     case atStart => exact ⟨0, Nat.zero_le _, rfl, rfl, f5_0, f5_1, f5_2⟩
     case round =>
       obtain ⟨k, hk, rfl, rfl, f6_0, f6_1, f6_2⟩ := hrel
       clear f5_0 f5_1 f5_2
       obtain ⟨wb, hq9⟩ : ∃ q, q = wr := ⟨_, rfl⟩
       subst hq9
       by_cases hlt : k < n
       · skip
         obtain ⟨a, rfl, c0, c1⟩ := f6_1.2 k hlt
         have hx := HX.out k hlt
         have hs := HSU.out k hk
         have HS1 : Hid (sumTo (hG xs) (k + 1) = sumTo (hG xs) k + ((xs.getD k z22).f1 - (xs.getD k z22).f0)) := Lib.hid rfl
         have k1_ : (k : Int) < (n : Int) := by omega
         have k0_ : (k : Int) * 12 ≤ 72 := by omega
         generalize sumTo (hG xs) k = s at *
         have hgp : ∀ j, j + 1 = k → R ≤ (xs.getD k z22).f0 - (xs.getD j z22).f1 := fun j hj => by subst hj; exact HGP.out j hlt
         obtain ⟨u0, hu0⟩ : ∃ u, (xs.getD k z22).f0 = u := ⟨_, rfl⟩
         obtain ⟨u1, hu1⟩ : ∃ u, (xs.getD k z22).f1 = u := ⟨_, rfl⟩
         rw [show (xs.getD k ⟨0, 0⟩).f0 = u0 from hu0] at c0
         rw [show (xs.getD k ⟨0, 0⟩).f1 = u1 from hu1] at c1
         rw [hu0, hu1] at hx HS1
         rw [hu0] at hgp
         clear hu0 hu1
         obtain ⟨v1, hv1⟩ : ∃ v, s + u1 = v := ⟨_, rfl⟩
         obtain ⟨v2, hv2⟩ : ∃ v, v1 - u0 = v := ⟨_, rfl⟩
         have V1 : IntKind.i64.wrap (s + u1) = v1 := by rw [IntWalk.i64_in _ (by omega)]; omega
         have V2 : IntKind.i64.wrap (v1 - u0) = v2 := by rw [IntWalk.i64_in _ (by omega)]; omega
         have HS2 : Hid (sumTo (hG xs) (k + 1) = v2) := Lib.hid (by rw [HS1.out]; omega)
         clear HS1 hv1 hv2
         go_wp2
         refine wp_region_S (C := (fun w' => In w.heap.size w w' ∧ ReadsShift w' (some a) n xs ∧ ReadsI w' AL m L ∧ w'.cell? (a.add (k * 2)) = some (.int .i64 u0) ∧ w'.cell? ⟨(a.add (k * 2)).block, (a.add (k * 2)).off + 1, none⟩ = some (.int .i64 u1))) (by kernel_rfl) (by kernel_rfl) ?_ ?_
         · exact ⟨f6_0.drew, f6_1, f6_2, c0, c1⟩
         repeat (first | go_big_quiet_skip | (go_big_quiet_want; first | (refine quiet_ex ?_; apply Exists.intro; refine ⟨fun W hW => ?_, ?_⟩; (· (obtain ⟨f7_0, f7_1, f7_2, f7_3, f7_4⟩ := hW; go_simp; (first | done | with_reducible rfl | rfl))); simp only [Act.put, List.setIfInBounds_toArray, List.set_cons_zero, List.set_cons_succ]; go_big_quiet_on) | (refine quiet_ex ?_; apply Exists.intro; refine ⟨fun W hW => ?_, ?_⟩; (· (go_simp; first | (fail))); simp only [Act.put, List.setIfInBounds_toArray, List.set_cons_zero, List.set_cons_succ]; go_big_quiet_on)))
         refine wpQuiet_nil ?_
         rintro w' ⟨f7_0, f7_1, f7_2, f7_3, f7_4⟩
         clear f6_0 f6_1 f6_2 c0 c1
         obtain ⟨wc, hx9⟩ : ∃ x, x = w' := ⟨_, rfl⟩
         subst hx9
         clear V1 V2
         by_cases hk0 : k = 0
         · skip
           have k9_ : (k : Int) ≤ 0 := by omega
           clear hgp
           as_aux_lemma =>
            go_wp2
            refine wp_region_S (C := (fun w' => In w.heap.size w w' ∧ ReadsShift w' (some a) n xs ∧ ReadsI w' AL m L ∧ w'.cell? (a.add (k * 2)) = some (.int .i64 u0) ∧ w'.cell? ⟨(a.add (k * 2)).block, (a.add (k * 2)).off + 1, none⟩ = some (.int .i64 u1))) (by kernel_rfl) (by kernel_rfl) ?_ ?_
            · exact ⟨f7_0.drew, f7_1, f7_2, f7_3, f7_4⟩
            repeat (first | go_big_quiet_skip | (go_big_quiet_want; first | (refine quiet_ex ?_; apply Exists.intro; refine ⟨fun W hW => ?_, ?_⟩; (· (obtain ⟨f8_0, f8_1, f8_2, f8_3, f8_4⟩ := hW; go_simp; (first | done | with_reducible rfl | rfl))); simp only [Act.put, List.setIfInBounds_toArray, List.set_cons_zero, List.set_cons_succ]; go_big_quiet_on) | (refine quiet_ex ?_; apply Exists.intro; refine ⟨fun W hW => ?_, ?_⟩; (· (go_simp; first | (fail))); simp only [Act.put, List.setIfInBounds_toArray, List.set_cons_zero, List.set_cons_succ]; go_big_quiet_on)))
            refine wpQuiet_nil ?_
            rintro w' ⟨f8_0, f8_1, f8_2, f8_3, f8_4⟩
            clear f7_0 f7_1 f7_2 f7_3 f7_4
            obtain ⟨wd, hx9⟩ : ∃ x, x = w' := ⟨_, rfl⟩
            subst hx9
            go_wp2
            go_roundw
            case rel => exact ⟨k + 1, by omega, by go_num, v_int HS2.out.symm, f8_0, f8_1, f8_2⟩
            case measure => simp [intOf]; omega
         · skip
           obtain ⟨j, hj⟩ : ∃ j : Nat, j + 1 = k := ⟨k - 1, by omega⟩
           obtain ⟨a2, ha2, _, c2⟩ := f7_1.2 j (by omega)
           obtain rfl : a = a2 := Option.some.inj ha2
           have hg := hgp j hj
           obtain ⟨u2, hu2⟩ : ∃ u, (xs.getD j z22).f1 = u := ⟨_, rfl⟩
           rw [show (xs.getD j ⟨0, 0⟩).f1 = u2 from hu2] at c2
           rw [hu2] at hg
           have hj2 := HX.out j (by omega)
           rw [hu2] at hj2
           clear ha2 hu2
           have k9_ : (0 : Int) < (k : Int) := by omega
           have k7_ : decide ((0 : Int) < (k : Int)) = true := decide_eq_true (by omega)
           have k6_ : decide (0 < k) = true := decide_eq_true (by omega)
           have k8_ : (0 : Int) ≤ (k : Int) - 1 := by omega
           have V1 : IntKind.i64.wrap ((k : Int) - 1) = (j : Int) := by rw [IntWalk.i64_in _ (by omega)]; omega
           obtain ⟨d9, hd9⟩ : ∃ d, u0 - u2 = d := ⟨_, rfl⟩
           have V2 : IntKind.i64.wrap (u0 - u2) = d9 := by rw [IntWalk.i64_in _ (by omega)]; omega
           have hd8 : decide (d9 < R) = false := decide_eq_false (by omega)
           have j1_ : (j : Int) < (n : Int) := by omega
           clear hd9
           clear hgp
           as_aux_lemma =>
            go_wp2
            refine wp_region_S (C := (fun w' => In w.heap.size w w' ∧ ReadsShift w' (some a) n xs ∧ ReadsI w' AL m L ∧ w'.cell? (a.add (k * 2)) = some (.int .i64 u0) ∧ w'.cell? ⟨(a.add (k * 2)).block, (a.add (k * 2)).off + 1, none⟩ = some (.int .i64 u1) ∧ w'.cell? ⟨(a.add (j * 2)).block, (a.add (j * 2)).off + 1, none⟩ = some (.int .i64 u2))) (by kernel_rfl) (by kernel_rfl) ?_ ?_
            · exact ⟨f7_0.drew, f7_1, f7_2, f7_3, f7_4, c2⟩
            repeat (first | go_big_quiet_skip | (go_big_quiet_want; first | (refine quiet_ex ?_; apply Exists.intro; refine ⟨fun W hW => ?_, ?_⟩; (· (obtain ⟨f8_0, f8_1, f8_2, f8_3, f8_4, f8_5⟩ := hW; go_simp; (first | done | with_reducible rfl | rfl))); simp only [Act.put, List.setIfInBounds_toArray, List.set_cons_zero, List.set_cons_succ]; go_big_quiet_on) | (refine quiet_ex ?_; apply Exists.intro; refine ⟨fun W hW => ?_, ?_⟩; (· (go_simp; first | (fail))); simp only [Act.put, List.setIfInBounds_toArray, List.set_cons_zero, List.set_cons_succ]; go_big_quiet_on)))
            refine wpQuiet_nil ?_
            rintro w' ⟨f8_0, f8_1, f8_2, f8_3, f8_4, f8_5⟩
            clear f7_0 f7_1 f7_2 f7_3 f7_4 c2
            obtain ⟨wd, hx9⟩ : ∃ x, x = w' := ⟨_, rfl⟩
            subst hx9
            go_wp2
            go_roundw
            case rel => exact ⟨k + 1, by omega, by go_num, v_int HS2.out.symm, f8_0, f8_1, f8_2⟩
            case measure => simp [intOf]; omega
       · skip
         obtain rfl : k = n := by omega
         have hes := HES.out
         rw [hes]
         clear hes hlt hk HES HSU HGP
         generalize hkn : k = n at *
         clear hkn
         as_aux_lemma =>
          go_wp2
          go_loopw [11] (fun i wr => ∃ k : Nat, k ≤ m ∧ i = .int .i64 k ∧ (In w.heap.size w wr ∧ ReadsShift wr A n xs ∧ ReadsI wr AL m L)) (fun i _ => m - (intOf i).toNat)
          case atStart => exact ⟨0, Nat.zero_le _, rfl, f6_0, f6_1, f6_2⟩
          case round =>
            obtain ⟨k, hk, rfl, f7_0, f7_1, f7_2⟩ := hrel
            clear f6_0 f6_1 f6_2
            obtain ⟨wc, hq9⟩ : ∃ q, q = wr := ⟨_, rfl⟩
            subst hq9
            by_cases hlt : k < m
            · skip
              obtain ⟨qk, hqk, hqnk⟩ := HAT.out k hlt
              obtain ⟨ek, hek, dk⟩ := f7_2.2 k hlt
              rw [hqk] at dk
              obtain ⟨ak, hak, ck0, ck1⟩ := f7_1.2 qk hqnk
              subst hek hak
              have hrs : ∀ j, j + 1 = k → rest ≤ (xs.getD qk z22).f0 - (xs.getD (L.getD j 0).toNat z22).f1 := fun j hj => by subst hj; have := HRS.out j hlt; rw [hqk, Int.toNat_natCast] at this; exact this
              have hxk := HX.out qk hqnk
              obtain ⟨u0, hu0⟩ : ∃ u, (xs.getD qk z22).f0 = u := ⟨_, rfl⟩
              rw [show (xs.getD qk ⟨0, 0⟩).f0 = u0 from hu0] at ck0
              rw [hu0] at hrs hxk
              clear hu0 ck1
              have k1_ : (k : Int) < (m : Int) := by omega
              have q1_ : (qk : Int) < (n : Int) := by omega
              have q0_ : decide ((qk : Int) < 0) = false := decide_eq_false (by omega)
              have q2_ : decide ((n : Int) ≤ (qk : Int)) = false := decide_eq_false (by omega)
              have q3_ : decide (n ≤ qk) = false := decide_eq_false (by omega)
              by_cases hk0 : k = 0
              · skip
                have k7_ : decide ((0 : Int) < (k : Int)) = false := decide_eq_false (by omega)
                have k6_ : decide (0 < k) = false := decide_eq_false (by omega)
                clear hrs hk0
                as_aux_lemma =>
                 go_wp2
                 refine wp_region_S (C := (fun w' => In w.heap.size w w' ∧ ReadsShift w' (some ak) n xs ∧ ReadsI w' (some ek) m L ∧ w'.cell? (ek.add k) = some (.int .i64 (qk : Int)) ∧ w'.cell? (ak.add (qk * 2)) = some (.int .i64 u0))) (by kernel_rfl) (by kernel_rfl) ?_ ?_
                 · exact ⟨f7_0.drew, f7_1, f7_2, dk, ck0⟩
                 repeat (first | go_big_quiet_skip | (go_big_quiet_want; first | (refine quiet_ex ?_; apply Exists.intro; refine ⟨fun W hW => ?_, ?_⟩; (· (obtain ⟨f8_0, f8_1, f8_2, f8_3, f8_4⟩ := hW; go_simp; (first | done | with_reducible rfl | rfl))); simp only [Act.put, List.setIfInBounds_toArray, List.set_cons_zero, List.set_cons_succ]; go_big_quiet_on) | (refine quiet_ex ?_; apply Exists.intro; refine ⟨fun W hW => ?_, ?_⟩; (· (go_simp; first | (fail))); simp only [Act.put, List.setIfInBounds_toArray, List.set_cons_zero, List.set_cons_succ]; go_big_quiet_on)))
                 refine wpQuiet_nil ?_
                 rintro w' ⟨f8_0, f8_1, f8_2, f8_3, f8_4⟩
                 clear f7_0 f7_1 f7_2 dk ck0
                 obtain ⟨wd, hx9⟩ : ∃ x, x = w' := ⟨_, rfl⟩
                 subst hx9
                 go_wp2
                 go_roundw
                 case rel => exact ⟨k + 1, by omega, by go_num, f8_0, f8_1, f8_2⟩
                 case measure => simp [intOf]; omega
              · skip
                obtain ⟨j, hj⟩ : ∃ j : Nat, j + 1 = k := ⟨k - 1, by omega⟩
                obtain ⟨qj, hqj, hqnj⟩ := HAT.out j (by omega)
                obtain ⟨ej, hej, dj⟩ := f7_2.2 j (by omega)
                rw [hqj] at dj
                obtain ⟨aj, haj, cj0, cj1⟩ := f7_1.2 qj hqnj
                have hg := hrs j hj
                rw [hqj, Int.toNat_natCast] at hg
                obtain rfl : ek = ej := Option.some.inj hej
                obtain rfl : ak = aj := Option.some.inj haj
                have hxj := HX.out qj hqnj
                obtain ⟨u2, hu2⟩ : ∃ u, (xs.getD qj z22).f1 = u := ⟨_, rfl⟩
                rw [show (xs.getD qj ⟨0, 0⟩).f1 = u2 from hu2] at cj1
                rw [hu2] at hg hxj
                clear hu2 cj0 hrs hej haj
                have k9_ : (0 : Int) < (k : Int) := by omega
                have k7_ : decide ((0 : Int) < (k : Int)) = true := decide_eq_true (by omega)
                have k6_ : decide (0 < k) = true := decide_eq_true (by omega)
                have k8_ : (0 : Int) ≤ (k : Int) - 1 := by omega
                have V1 : IntKind.i64.wrap ((k : Int) - 1) = (j : Int) := by rw [IntWalk.i64_in _ (by omega)]; omega
                obtain ⟨d9, hd9⟩ : ∃ d, u0 - u2 = d := ⟨_, rfl⟩
                have V2 : IntKind.i64.wrap (u0 - u2) = d9 := by rw [IntWalk.i64_in _ (by omega)]; omega
                have hd8 : decide (d9 < rest) = false := decide_eq_false (by omega)
                have j1_ : (j : Int) < (m : Int) := by omega
                have j2_ : (qj : Int) < (n : Int) := by omega
                clear hd9
                as_aux_lemma =>
                 go_wp2
                 refine wp_region_S (C := (fun w' => In w.heap.size w w' ∧ ReadsShift w' (some ak) n xs ∧ ReadsI w' (some ek) m L ∧ w'.cell? (ek.add k) = some (.int .i64 (qk : Int)) ∧ w'.cell? (ak.add (qk * 2)) = some (.int .i64 u0) ∧ w'.cell? (ek.add j) = some (.int .i64 (qj : Int)) ∧ w'.cell? ⟨(ak.add (qj * 2)).block, (ak.add (qj * 2)).off + 1, none⟩ = some (.int .i64 u2))) (by kernel_rfl) (by kernel_rfl) ?_ ?_
                 · exact ⟨f7_0.drew, f7_1, f7_2, dk, ck0, dj, cj1⟩
                 repeat (first | go_big_quiet_skip | (go_big_quiet_want; first | (refine quiet_ex ?_; apply Exists.intro; refine ⟨fun W hW => ?_, ?_⟩; (· (obtain ⟨f8_0, f8_1, f8_2, f8_3, f8_4, f8_5, f8_6⟩ := hW; go_simp; (first | done | with_reducible rfl | rfl))); simp only [Act.put, List.setIfInBounds_toArray, List.set_cons_zero, List.set_cons_succ]; go_big_quiet_on) | (refine quiet_ex ?_; apply Exists.intro; refine ⟨fun W hW => ?_, ?_⟩; (· (go_simp; first | (fail))); simp only [Act.put, List.setIfInBounds_toArray, List.set_cons_zero, List.set_cons_succ]; go_big_quiet_on)))
                 refine wpQuiet_nil ?_
                 rintro w' ⟨f8_0, f8_1, f8_2, f8_3, f8_4, f8_5, f8_6⟩
                 clear f7_0 f7_1 f7_2 dk ck0 dj cj1
                 obtain ⟨wd, hx9⟩ : ∃ x, x = w' := ⟨_, rfl⟩
                 subst hx9
                 go_wp2
                 go_roundw
                 case rel => exact ⟨k + 1, by omega, by go_num, f8_0, f8_1, f8_2⟩
                 case measure => simp [intOf]; omega
            · skip
              obtain rfl : k = m := by omega
              clear hlt hk HRS
              generalize hkm : k = m at *
              clear hkm
              as_aux_lemma =>
               by_cases hrr : rest ≤ R
               · skip
                 as_aux_lemma =>
                  have hrr3 : decide (rest ≤ R) = true := decide_eq_true hrr
                  have hmn := Lib.hid (all hrr)
                  have hmn2 : ((m : Int) == (n : Int)) = true := by simp [hmn.out]
                  have hmn3 : (m == n) = true := by simp [hmn.out]
                  have hmn4 : decide (m = n) = true := by simp [hmn.out]
                  have hmn5 : decide ((m : Int) = (n : Int)) = true := by simp [hmn.out]
                  have hmn6 : ((m : Int) != (n : Int)) = false := by simp [hmn.out]
                  have hmn7 : (m != n) = false := by simp [hmn.out]
                  clear all
                  go_wp2
                  (try clear hmn hmn2 hmn3 hmn4 hmn5 hmn6 hmn7)
                  (try clear hrr2)
                  clear hrr3 hrr
                  go_loopw [12] (fun i wr => ∃ k : Nat, k ≤ n ∧ i = .int .i64 k ∧ (In w.heap.size w wr ∧ ReadsShift wr A n xs ∧ ReadsI wr AL m L)) (fun i _ => n - (intOf i).toNat)
                  case atStart => exact ⟨0, Nat.zero_le _, rfl, f7_0, f7_1, f7_2⟩
                  case round =>
                    obtain ⟨k, hk, rfl, f8_0, f8_1, f8_2⟩ := hrel
                    clear f7_0 f7_1 f7_2
                    obtain ⟨we, hq9⟩ : ∃ q, q = wr := ⟨_, rfl⟩
                    subst hq9
                    by_cases hlt : k < n
                    · skip
                      have k1_ : (k : Int) < (n : Int) := by omega
                      have HHK := Lib.hid (fun W D d (h : ReadsI W D m L) => HHAS.out W D d (k : Int) h)
                      have hft := HFT.out k hlt
                      obtain ⟨v, hv⟩ : ∃ v, decide ((k : Int) ∈ L) = v := ⟨_, rfl⟩
                      rw [hv] at HHK
                      obtain ⟨a, rfl, c0, c1⟩ := f8_1.2 k hlt
                      have HOF : Hid (∀ j, okf xs rest k L j = (decide (rest ≤ (xs.getD k z22).f0 - (xs.getD (L.getD j 0).toNat z22).f1) || decide (rest ≤ (xs.getD (L.getD j 0).toNat z22).f0 - (xs.getD k z22).f1))) := Lib.hid fun j => rfl
                      have hxk := HX.out k hlt
                      obtain ⟨u0, hu0⟩ : ∃ u, (xs.getD k z22).f0 = u := ⟨_, rfl⟩
                      obtain ⟨u1, hu1⟩ : ∃ u, (xs.getD k z22).f1 = u := ⟨_, rfl⟩
                      rw [show (xs.getD k ⟨0, 0⟩).f0 = u0 from hu0] at c0
                      rw [show (xs.getD k ⟨0, 0⟩).f1 = u1 from hu1] at c1
                      rw [hu0, hu1] at hft HOF hxk
                      clear hu0 hu1
                      go_wp2_with fail
                      refine (HHK.out _ _ cL f8_2).mono ?_
                      rintro e w' ⟨rfl, rfl⟩
                      clear HHK
                      cases v
                      · skip
                        as_aux_lemma =>
                         obtain ⟨i0, hi0, hf1, hf2⟩ := hft (of_decide_eq_false hv)
                         have hof0 : okf xs rest k L i0 = false := by rw [HOF.out, decide_eq_false (by omega), decide_eq_false (by omega)]; rfl
                         have HALL : Hid (allOk (okf xs rest k L) m = false) := Lib.hid (allOk_f _ _ i0 hi0 hof0)
                         clear hft hv hf1 hf2 hof0
                         go_wp2
                         go_loopw [13, 14] (fun f i wr => ∃ j : Nat, j ≤ m ∧ i = .int .i64 j ∧ f = .bool (allOk (okf xs rest k L) j) ∧ (In w.heap.size w wr ∧ ReadsShift wr (some a) n xs ∧ ReadsI wr AL m L ∧ wr.cell? (a.add (k * 2)) = some (.int .i64 u0) ∧ wr.cell? ⟨(a.add (k * 2)).block, (a.add (k * 2)).off + 1, none⟩ = some (.int .i64 u1))) (fun _ i _ => m - (intOf i).toNat)
                         case atStart => exact ⟨0, Nat.zero_le _, rfl, rfl, f8_0, f8_1, f8_2, c0, c1⟩
                         case round =>
                           obtain ⟨j, hj, rfl, rfl, f9_0, f9_1, f9_2, f9_3, f9_4⟩ := hrel
                           clear f8_0 f8_1 f8_2 c0 c1
                           obtain ⟨wf, hq9⟩ : ∃ q, q = wr := ⟨_, rfl⟩
                           subst hq9
                           by_cases hlt2 : j < m
                           · skip
                             have jm_ : j < m := hlt2
                             obtain ⟨qj, hqj, hqnj⟩ := HAT.out j hlt2
                             obtain ⟨ej, rfl, dj⟩ := f9_2.2 j hlt2
                             rw [hqj] at dj
                             obtain ⟨aj, haj, cj0, cj1⟩ := f9_1.2 qj hqnj
                             obtain rfl : a = aj := Option.some.inj haj
                             have HAO : Hid (allOk (okf xs rest k L) (j + 1) = (allOk (okf xs rest k L) j && okf xs rest k L j)) := Lib.hid rfl
                             have HOJ := Lib.hid (HOF.out j)
                             rw [hqj, Int.toNat_natCast] at HOJ
                             have hxj := HX.out qj hqnj
                             obtain ⟨y0, hy0⟩ : ∃ u, (xs.getD qj z22).f0 = u := ⟨_, rfl⟩
                             obtain ⟨y1, hy1⟩ : ∃ u, (xs.getD qj z22).f1 = u := ⟨_, rfl⟩
                             rw [show (xs.getD qj ⟨0, 0⟩).f0 = y0 from hy0] at cj0
                             rw [show (xs.getD qj ⟨0, 0⟩).f1 = y1 from hy1] at cj1
                             rw [hy0, hy1] at HOJ hxj
                             clear hy0 hy1 haj hqj
                             generalize okf xs rest k L j = o9 at *
                             generalize allOk (okf xs rest k L) j = f9 at *
                             have j1_ : (j : Int) < (m : Int) := by omega
                             have j2_ : (qj : Int) < (n : Int) := by omega
                             obtain ⟨d1, hd1⟩ : ∃ d, u0 - y1 = d := ⟨_, rfl⟩
                             obtain ⟨d2, hd2⟩ : ∃ d, y0 - u1 = d := ⟨_, rfl⟩
                             rw [hd1, hd2] at HOJ
                             have V1 : IntKind.i64.wrap (u0 - y1) = d1 := by rw [IntWalk.i64_in _ (by omega)]; omega
                             have V2 : IntKind.i64.wrap (y0 - u1) = d2 := by rw [IntWalk.i64_in _ (by omega)]; omega
                             clear hd1 hd2
                             have kb10 : Blk (wf.alloc (.cells #[.int .i64 y0, .int .i64 y1] 41)) wf.heap.size 41 #[.int .i64 y0, .int .i64 y1] := Blk.new wf _ _
                             have hb10 : Below wf.heap.size wf (wf.alloc (.cells #[.int .i64 y0, .int .i64 y1] 41)) := (Below.refl _ wf).alloc (Nat.le_refl _) _
                             have f10_0 : In w.heap.size w (wf.alloc (.cells #[.int .i64 y0, .int .i64 y1] 41)) := f9_0.step hb10
                             have f10_1 : ReadsShift (wf.alloc (.cells #[.int .i64 y0, .int .i64 y1] 41)) (some a) n xs := f9_1.step hb10
                             have f10_2 : ReadsI (wf.alloc (.cells #[.int .i64 y0, .int .i64 y1] 41)) (some ej) m L := f9_2.step hb10
                             have f10_3 : (wf.alloc (.cells #[.int .i64 y0, .int .i64 y1] 41)).cell? (a.add (k * 2)) = some (.int .i64 u0) := cell_in f9_3 ⟨hb10, hb10.size⟩
                             have f10_4 : (wf.alloc (.cells #[.int .i64 y0, .int .i64 y1] 41)).cell? ⟨(a.add (k * 2)).block, (a.add (k * 2)).off + 1, none⟩ = some (.int .i64 u1) := cell_in f9_4 ⟨hb10, hb10.size⟩
                             have f10_5 : (wf.alloc (.cells #[.int .i64 y0, .int .i64 y1] 41)).cell? (ej.add j) = some (.int .i64 (qj : Int)) := cell_in dj ⟨hb10, hb10.size⟩
                             have f10_6 : (wf.alloc (.cells #[.int .i64 y0, .int .i64 y1] 41)).cell? (a.add (qj * 2)) = some (.int .i64 y0) := cell_in cj0 ⟨hb10, hb10.size⟩
                             have f10_7 : (wf.alloc (.cells #[.int .i64 y0, .int .i64 y1] 41)).cell? ⟨(a.add (qj * 2)).block, (a.add (qj * 2)).off + 1, none⟩ = some (.int .i64 y1) := cell_in cj1 ⟨hb10, hb10.size⟩
                             have f10_8 : (wf.alloc (.cells #[.int .i64 y0, .int .i64 y1] 41)).cell? ⟨wf.heap.size, 0, none⟩ = some (.int .i64 y0) := kb10.cell 0
                             have f10_9 : (wf.alloc (.cells #[.int .i64 y0, .int .i64 y1] 41)).cell? ⟨wf.heap.size, 1, none⟩ = some (.int .i64 y1) := kb10.cell 1
                             clear kb10 hb10
                             go_wp2
                             clear f9_0 f9_1 f9_2 f9_3 f9_4 dj cj0 cj1
                             as_aux_lemma =>
                              obtain ⟨p1, hp1⟩ : ∃ p, decide (rest ≤ d1) = p := ⟨_, rfl⟩
                              obtain ⟨p2, hp2⟩ : ∃ p, decide (rest ≤ d2) = p := ⟨_, rfl⟩
                              rw [hp1, hp2] at HOJ
                              cases f9
                              · skip
                                have HFV : Hid (allOk (okf xs rest k L) (j + 1) = false) := Lib.hid (by rw [HAO.out, HOJ.out]; rfl)
                                clear HAO HOJ HOF
                                as_aux_lemma =>
                                 refine wp_region_S (C := (fun w' => In w.heap.size w w' ∧ ReadsShift w' (some a) n xs ∧ ReadsI w' (some ej) m L ∧ w'.cell? (a.add (k * 2)) = some (.int .i64 u0) ∧ w'.cell? ⟨(a.add (k * 2)).block, (a.add (k * 2)).off + 1, none⟩ = some (.int .i64 u1) ∧ w'.cell? (ej.add j) = some (.int .i64 (qj : Int)) ∧ w'.cell? (a.add (qj * 2)) = some (.int .i64 y0) ∧ w'.cell? ⟨(a.add (qj * 2)).block, (a.add (qj * 2)).off + 1, none⟩ = some (.int .i64 y1) ∧ w'.cell? ⟨wf.heap.size, 0, none⟩ = some (.int .i64 y0) ∧ w'.cell? ⟨wf.heap.size, 1, none⟩ = some (.int .i64 y1))) (by kernel_rfl) (by kernel_rfl) ?_ ?_
                                 · exact ⟨f10_0.drew, f10_1, f10_2, f10_3, f10_4, f10_5, f10_6, f10_7, f10_8, f10_9⟩
                                 repeat (first | go_big_quiet_skip | (go_big_quiet_want; first | (refine quiet_ex ?_; apply Exists.intro; refine ⟨fun W hW => ?_, ?_⟩; (· (obtain ⟨f11_0, f11_1, f11_2, f11_3, f11_4, f11_5, f11_6, f11_7, f11_8, f11_9⟩ := hW; go_simp; (first | done | with_reducible rfl | rfl))); simp only [Act.put, List.setIfInBounds_toArray, List.set_cons_zero, List.set_cons_succ]; go_big_quiet_on) | (refine quiet_ex ?_; apply Exists.intro; refine ⟨fun W hW => ?_, ?_⟩; (· (go_simp; first | (fail))); simp only [Act.put, List.setIfInBounds_toArray, List.set_cons_zero, List.set_cons_succ]; go_big_quiet_on)))
                                 refine wpQuiet_nil ?_
                                 rintro w' ⟨f11_0, f11_1, f11_2, f11_3, f11_4, f11_5, f11_6, f11_7, f11_8, f11_9⟩
                                 clear f10_0 f10_1 f10_2 f10_3 f10_4 f10_5 f10_6 f10_7 f10_8 f10_9
                                 obtain ⟨wg, hx9⟩ : ∃ x, x = w' := ⟨_, rfl⟩
                                 subst hx9
                                 (try clear hp1)
                                 (try clear hp2)
                                 go_wp2
                                 go_roundw
                                 case rel => exact ⟨j + 1, by omega, by go_num, v_bool HFV.out.symm, f11_0, f11_1, f11_2, f11_3, f11_4⟩
                                 case measure => simp [intOf]; omega
                              · skip
                                cases p1
                                · skip
                                  cases p2
                                  · skip
                                    have HFV : Hid (allOk (okf xs rest k L) (j + 1) = false) := Lib.hid (by rw [HAO.out, HOJ.out]; rfl)
                                    clear HAO HOJ HOF
                                    as_aux_lemma =>
                                     refine wp_region_S (C := (fun w' => In w.heap.size w w' ∧ ReadsShift w' (some a) n xs ∧ ReadsI w' (some ej) m L ∧ w'.cell? (a.add (k * 2)) = some (.int .i64 u0) ∧ w'.cell? ⟨(a.add (k * 2)).block, (a.add (k * 2)).off + 1, none⟩ = some (.int .i64 u1) ∧ w'.cell? (ej.add j) = some (.int .i64 (qj : Int)) ∧ w'.cell? (a.add (qj * 2)) = some (.int .i64 y0) ∧ w'.cell? ⟨(a.add (qj * 2)).block, (a.add (qj * 2)).off + 1, none⟩ = some (.int .i64 y1) ∧ w'.cell? ⟨wf.heap.size, 0, none⟩ = some (.int .i64 y0) ∧ w'.cell? ⟨wf.heap.size, 1, none⟩ = some (.int .i64 y1))) (by kernel_rfl) (by kernel_rfl) ?_ ?_
                                     · exact ⟨f10_0.drew, f10_1, f10_2, f10_3, f10_4, f10_5, f10_6, f10_7, f10_8, f10_9⟩
                                     repeat (first | go_big_quiet_skip | (go_big_quiet_want; first | (refine quiet_ex ?_; apply Exists.intro; refine ⟨fun W hW => ?_, ?_⟩; (· (obtain ⟨f11_0, f11_1, f11_2, f11_3, f11_4, f11_5, f11_6, f11_7, f11_8, f11_9⟩ := hW; go_simp; (first | done | with_reducible rfl | rfl))); simp only [Act.put, List.setIfInBounds_toArray, List.set_cons_zero, List.set_cons_succ]; go_big_quiet_on) | (refine quiet_ex ?_; apply Exists.intro; refine ⟨fun W hW => ?_, ?_⟩; (· (go_simp; first | (fail))); simp only [Act.put, List.setIfInBounds_toArray, List.set_cons_zero, List.set_cons_succ]; go_big_quiet_on)))
                                     refine wpQuiet_nil ?_
                                     rintro w' ⟨f11_0, f11_1, f11_2, f11_3, f11_4, f11_5, f11_6, f11_7, f11_8, f11_9⟩
                                     clear f10_0 f10_1 f10_2 f10_3 f10_4 f10_5 f10_6 f10_7 f10_8 f10_9
                                     obtain ⟨wg, hx9⟩ : ∃ x, x = w' := ⟨_, rfl⟩
                                     subst hx9
                                     (try clear hp1)
                                     (try clear hp2)
                                     go_wp2
                                     go_roundw
                                     case rel => exact ⟨j + 1, by omega, by go_num, v_bool HFV.out.symm, f11_0, f11_1, f11_2, f11_3, f11_4⟩
                                     case measure => simp [intOf]; omega
                                  · skip
                                    have HFV : Hid (allOk (okf xs rest k L) (j + 1) = true) := Lib.hid (by rw [HAO.out, HOJ.out]; rfl)
                                    clear HAO HOJ HOF
                                    as_aux_lemma =>
                                     refine wp_region_S (C := (fun w' => In w.heap.size w w' ∧ ReadsShift w' (some a) n xs ∧ ReadsI w' (some ej) m L ∧ w'.cell? (a.add (k * 2)) = some (.int .i64 u0) ∧ w'.cell? ⟨(a.add (k * 2)).block, (a.add (k * 2)).off + 1, none⟩ = some (.int .i64 u1) ∧ w'.cell? (ej.add j) = some (.int .i64 (qj : Int)) ∧ w'.cell? (a.add (qj * 2)) = some (.int .i64 y0) ∧ w'.cell? ⟨(a.add (qj * 2)).block, (a.add (qj * 2)).off + 1, none⟩ = some (.int .i64 y1) ∧ w'.cell? ⟨wf.heap.size, 0, none⟩ = some (.int .i64 y0) ∧ w'.cell? ⟨wf.heap.size, 1, none⟩ = some (.int .i64 y1))) (by kernel_rfl) (by kernel_rfl) ?_ ?_
                                     · exact ⟨f10_0.drew, f10_1, f10_2, f10_3, f10_4, f10_5, f10_6, f10_7, f10_8, f10_9⟩
                                     repeat (first | go_big_quiet_skip | (go_big_quiet_want; first | (refine quiet_ex ?_; apply Exists.intro; refine ⟨fun W hW => ?_, ?_⟩; (· (obtain ⟨f11_0, f11_1, f11_2, f11_3, f11_4, f11_5, f11_6, f11_7, f11_8, f11_9⟩ := hW; go_simp; (first | done | with_reducible rfl | rfl))); simp only [Act.put, List.setIfInBounds_toArray, List.set_cons_zero, List.set_cons_succ]; go_big_quiet_on) | (refine quiet_ex ?_; apply Exists.intro; refine ⟨fun W hW => ?_, ?_⟩; (· (go_simp; first | (fail))); simp only [Act.put, List.setIfInBounds_toArray, List.set_cons_zero, List.set_cons_succ]; go_big_quiet_on)))
                                     refine wpQuiet_nil ?_
                                     rintro w' ⟨f11_0, f11_1, f11_2, f11_3, f11_4, f11_5, f11_6, f11_7, f11_8, f11_9⟩
                                     clear f10_0 f10_1 f10_2 f10_3 f10_4 f10_5 f10_6 f10_7 f10_8 f10_9
                                     obtain ⟨wg, hx9⟩ : ∃ x, x = w' := ⟨_, rfl⟩
                                     subst hx9
                                     (try clear hp1)
                                     (try clear hp2)
                                     go_wp2
                                     go_roundw
                                     case rel => exact ⟨j + 1, by omega, by go_num, v_bool HFV.out.symm, f11_0, f11_1, f11_2, f11_3, f11_4⟩
                                     case measure => simp [intOf]; omega
                                · skip
                                  have HFV : Hid (allOk (okf xs rest k L) (j + 1) = true) := Lib.hid (by rw [HAO.out, HOJ.out]; rfl)
                                  clear HAO HOJ HOF
                                  as_aux_lemma =>
                                   refine wp_region_S (C := (fun w' => In w.heap.size w w' ∧ ReadsShift w' (some a) n xs ∧ ReadsI w' (some ej) m L ∧ w'.cell? (a.add (k * 2)) = some (.int .i64 u0) ∧ w'.cell? ⟨(a.add (k * 2)).block, (a.add (k * 2)).off + 1, none⟩ = some (.int .i64 u1) ∧ w'.cell? (ej.add j) = some (.int .i64 (qj : Int)) ∧ w'.cell? (a.add (qj * 2)) = some (.int .i64 y0) ∧ w'.cell? ⟨(a.add (qj * 2)).block, (a.add (qj * 2)).off + 1, none⟩ = some (.int .i64 y1) ∧ w'.cell? ⟨wf.heap.size, 0, none⟩ = some (.int .i64 y0) ∧ w'.cell? ⟨wf.heap.size, 1, none⟩ = some (.int .i64 y1))) (by kernel_rfl) (by kernel_rfl) ?_ ?_
                                   · exact ⟨f10_0.drew, f10_1, f10_2, f10_3, f10_4, f10_5, f10_6, f10_7, f10_8, f10_9⟩
                                   repeat (first | go_big_quiet_skip | (go_big_quiet_want; first | (refine quiet_ex ?_; apply Exists.intro; refine ⟨fun W hW => ?_, ?_⟩; (· (obtain ⟨f11_0, f11_1, f11_2, f11_3, f11_4, f11_5, f11_6, f11_7, f11_8, f11_9⟩ := hW; go_simp; (first | done | with_reducible rfl | rfl))); simp only [Act.put, List.setIfInBounds_toArray, List.set_cons_zero, List.set_cons_succ]; go_big_quiet_on) | (refine quiet_ex ?_; apply Exists.intro; refine ⟨fun W hW => ?_, ?_⟩; (· (go_simp; first | (fail))); simp only [Act.put, List.setIfInBounds_toArray, List.set_cons_zero, List.set_cons_succ]; go_big_quiet_on)))
                                   refine wpQuiet_nil ?_
                                   rintro w' ⟨f11_0, f11_1, f11_2, f11_3, f11_4, f11_5, f11_6, f11_7, f11_8, f11_9⟩
                                   clear f10_0 f10_1 f10_2 f10_3 f10_4 f10_5 f10_6 f10_7 f10_8 f10_9
                                   obtain ⟨wg, hx9⟩ : ∃ x, x = w' := ⟨_, rfl⟩
                                   subst hx9
                                   (try clear hp1)
                                   (try clear hp2)
                                   go_wp2
                                   go_roundw
                                   case rel => exact ⟨j + 1, by omega, by go_num, v_bool HFV.out.symm, f11_0, f11_1, f11_2, f11_3, f11_4⟩
                                   case measure => simp [intOf]; omega
                           · skip
                             obtain rfl : j = m := by omega
                             rw [HALL.out]
                             go_wp2
                             go_roundw
                             case rel => exact ⟨k + 1, by omega, by go_num, f9_0, f9_1, f9_2⟩
                             case measure => simp [intOf]; omega
                      · skip
                        clear hft HOF
                        go_wp2
                        go_roundw
                        case rel => exact ⟨k + 1, by omega, by go_num, f8_0, f8_1, f8_2⟩
                        case measure => simp [intOf]; omega
                    · skip
                      obtain rfl : k = n := by omega
                      clear HFT HAT HHAS hlt hk
                      generalize hkn : k = n at *
                      clear hkn
                      have hrn := reads_night we
                      have hb9 : Below we.heap.size we (we.alloc (.cells #[.int .i64 20, .int .i64 30] 41)) := (Below.refl _ we).alloc (Nat.le_refl _) _
                      obtain ⟨rN, hrN⟩ : ∃ r, r = we.heap.size := ⟨_, rfl⟩
                      have f9_0 : In w.heap.size w (we.alloc (.cells #[.int .i64 20, .int .i64 30] 41)) := f8_0.step hb9
                      have f9_1 : ReadsShift (we.alloc (.cells #[.int .i64 20, .int .i64 30] 41)) A n xs := f8_1.step hb9
                      have f9_2 : ReadsI (we.alloc (.cells #[.int .i64 20, .int .i64 30] 41)) AL m L := f8_2.step hb9
                      have f9_3 : ReadsShift (we.alloc (.cells #[.int .i64 20, .int .i64 30] 41)) (some ⟨we.heap.size, 0, none⟩) 1 [⟨20, 30⟩] := hrn
                      clear f8_0 f8_1 f8_2
                      clear hb9 hrn hrN
                      have VH : IntKind.i64.wrap (H - 1) = H - 1 := IntWalk.i64_in _ (by omega)
                      have VHw : wrap64 (H - 1) = H - 1 := w64 ⟨by omega, by omega⟩
                      go_wp2_with fail
                      refine (HAL.out _ f9_1).mono ?_
                      rintro _ w10 ⟨rfl, hb10⟩
                      have f10_0 : In w.heap.size w w10 := f9_0.step hb10
                      have f10_1 : ReadsShift w10 A n xs := f9_1.step hb10
                      have f10_2 : ReadsI w10 AL m L := f9_2.step hb10
                      have f10_3 : ReadsShift w10 (some ⟨we.heap.size, 0, none⟩) 1 [⟨20, 30⟩] := f9_3.step hb10
                      clear f9_0 f9_1 f9_2 f9_3
                      clear hb10
                      go_wp2_with fail
                      refine (HAM.out _ f10_1).mono ?_
                      rintro _ w11 ⟨rfl, hb11⟩
                      have f11_0 : In w.heap.size w w11 := f10_0.step hb11
                      have f11_1 : ReadsShift w11 A n xs := f10_1.step hb11
                      have f11_2 : ReadsI w11 AL m L := f10_2.step hb11
                      have f11_3 : ReadsShift w11 (some ⟨we.heap.size, 0, none⟩) 1 [⟨20, 30⟩] := f10_3.step hb11
                      clear f10_0 f10_1 f10_2 f10_3
                      clear hb11
                      go_wp2_with fail
                      refine (HNG.out _ _ _ f11_3).mono ?_
                      rintro _ w12 ⟨rfl, hb12⟩
                      have f12_0 : In w.heap.size w w12 := f11_0.step hb12
                      have f12_1 : ReadsShift w12 A n xs := f11_1.step hb12
                      have f12_2 : ReadsI w12 AL m L := f11_2.step hb12
                      have f12_3 : ReadsShift w12 (some ⟨we.heap.size, 0, none⟩) 1 [⟨20, 30⟩] := f11_3.step hb12
                      clear f11_0 f11_1 f11_2 f11_3
                      clear hb12
                      go_wp2_with fail
                      refine (HOK.out _ f12_1).mono ?_
                      rintro _ w13 ⟨rfl, hb13⟩
                      have f13_0 : In w.heap.size w w13 := f12_0.step hb13
                      have f13_1 : ReadsShift w13 A n xs := f12_1.step hb13
                      have f13_2 : ReadsI w13 AL m L := f12_2.step hb13
                      have f13_3 : ReadsShift w13 (some ⟨we.heap.size, 0, none⟩) 1 [⟨20, 30⟩] := f12_3.step hb13
                      clear f12_0 f12_1 f12_2 f12_3
                      clear hb13
                      go_wp2
                      go_ret
                      exact ⟨ret_bool rfl, f13_0.below⟩
               · skip
                 as_aux_lemma =>
                  have hrr2 : R < rest := by omega
                  have hrr3 : decide (rest ≤ R) = false := decide_eq_false (by omega)
                  clear all
                  go_wp2
                  (try clear hmn hmn2 hmn3 hmn4 hmn5 hmn6 hmn7)
                  (try clear hrr2)
                  clear hrr3 hrr
                  go_loopw [12] (fun i wr => ∃ k : Nat, k ≤ n ∧ i = .int .i64 k ∧ (In w.heap.size w wr ∧ ReadsShift wr A n xs ∧ ReadsI wr AL m L)) (fun i _ => n - (intOf i).toNat)
                  case atStart => exact ⟨0, Nat.zero_le _, rfl, f7_0, f7_1, f7_2⟩
                  case round =>
                    obtain ⟨k, hk, rfl, f8_0, f8_1, f8_2⟩ := hrel
                    clear f7_0 f7_1 f7_2
                    obtain ⟨we, hq9⟩ : ∃ q, q = wr := ⟨_, rfl⟩
                    subst hq9
                    by_cases hlt : k < n
                    · skip
                      have k1_ : (k : Int) < (n : Int) := by omega
                      have HHK := Lib.hid (fun W D d (h : ReadsI W D m L) => HHAS.out W D d (k : Int) h)
                      have hft := HFT.out k hlt
                      obtain ⟨v, hv⟩ : ∃ v, decide ((k : Int) ∈ L) = v := ⟨_, rfl⟩
                      rw [hv] at HHK
                      obtain ⟨a, rfl, c0, c1⟩ := f8_1.2 k hlt
                      have HOF : Hid (∀ j, okf xs rest k L j = (decide (rest ≤ (xs.getD k z22).f0 - (xs.getD (L.getD j 0).toNat z22).f1) || decide (rest ≤ (xs.getD (L.getD j 0).toNat z22).f0 - (xs.getD k z22).f1))) := Lib.hid fun j => rfl
                      have hxk := HX.out k hlt
                      obtain ⟨u0, hu0⟩ : ∃ u, (xs.getD k z22).f0 = u := ⟨_, rfl⟩
                      obtain ⟨u1, hu1⟩ : ∃ u, (xs.getD k z22).f1 = u := ⟨_, rfl⟩
                      rw [show (xs.getD k ⟨0, 0⟩).f0 = u0 from hu0] at c0
                      rw [show (xs.getD k ⟨0, 0⟩).f1 = u1 from hu1] at c1
                      rw [hu0, hu1] at hft HOF hxk
                      clear hu0 hu1
                      go_wp2_with fail
                      refine (HHK.out _ _ cL f8_2).mono ?_
                      rintro e w' ⟨rfl, rfl⟩
                      clear HHK
                      cases v
                      · skip
                        as_aux_lemma =>
                         obtain ⟨i0, hi0, hf1, hf2⟩ := hft (of_decide_eq_false hv)
                         have hof0 : okf xs rest k L i0 = false := by rw [HOF.out, decide_eq_false (by omega), decide_eq_false (by omega)]; rfl
                         have HALL : Hid (allOk (okf xs rest k L) m = false) := Lib.hid (allOk_f _ _ i0 hi0 hof0)
                         clear hft hv hf1 hf2 hof0
                         go_wp2
                         go_loopw [13, 14] (fun f i wr => ∃ j : Nat, j ≤ m ∧ i = .int .i64 j ∧ f = .bool (allOk (okf xs rest k L) j) ∧ (In w.heap.size w wr ∧ ReadsShift wr (some a) n xs ∧ ReadsI wr AL m L ∧ wr.cell? (a.add (k * 2)) = some (.int .i64 u0) ∧ wr.cell? ⟨(a.add (k * 2)).block, (a.add (k * 2)).off + 1, none⟩ = some (.int .i64 u1))) (fun _ i _ => m - (intOf i).toNat)
                         case atStart => exact ⟨0, Nat.zero_le _, rfl, rfl, f8_0, f8_1, f8_2, c0, c1⟩
                         case round =>
                           obtain ⟨j, hj, rfl, rfl, f9_0, f9_1, f9_2, f9_3, f9_4⟩ := hrel
                           clear f8_0 f8_1 f8_2 c0 c1
                           obtain ⟨wf, hq9⟩ : ∃ q, q = wr := ⟨_, rfl⟩
                           subst hq9
                           by_cases hlt2 : j < m
                           · skip
                             have jm_ : j < m := hlt2
                             obtain ⟨qj, hqj, hqnj⟩ := HAT.out j hlt2
                             obtain ⟨ej, rfl, dj⟩ := f9_2.2 j hlt2
                             rw [hqj] at dj
                             obtain ⟨aj, haj, cj0, cj1⟩ := f9_1.2 qj hqnj
                             obtain rfl : a = aj := Option.some.inj haj
                             have HAO : Hid (allOk (okf xs rest k L) (j + 1) = (allOk (okf xs rest k L) j && okf xs rest k L j)) := Lib.hid rfl
                             have HOJ := Lib.hid (HOF.out j)
                             rw [hqj, Int.toNat_natCast] at HOJ
                             have hxj := HX.out qj hqnj
                             obtain ⟨y0, hy0⟩ : ∃ u, (xs.getD qj z22).f0 = u := ⟨_, rfl⟩
                             obtain ⟨y1, hy1⟩ : ∃ u, (xs.getD qj z22).f1 = u := ⟨_, rfl⟩
                             rw [show (xs.getD qj ⟨0, 0⟩).f0 = y0 from hy0] at cj0
                             rw [show (xs.getD qj ⟨0, 0⟩).f1 = y1 from hy1] at cj1
                             rw [hy0, hy1] at HOJ hxj
                             clear hy0 hy1 haj hqj
                             generalize okf xs rest k L j = o9 at *
                             generalize allOk (okf xs rest k L) j = f9 at *
                             have j1_ : (j : Int) < (m : Int) := by omega
                             have j2_ : (qj : Int) < (n : Int) := by omega
                             obtain ⟨d1, hd1⟩ : ∃ d, u0 - y1 = d := ⟨_, rfl⟩
                             obtain ⟨d2, hd2⟩ : ∃ d, y0 - u1 = d := ⟨_, rfl⟩
                             rw [hd1, hd2] at HOJ
                             have V1 : IntKind.i64.wrap (u0 - y1) = d1 := by rw [IntWalk.i64_in _ (by omega)]; omega
                             have V2 : IntKind.i64.wrap (y0 - u1) = d2 := by rw [IntWalk.i64_in _ (by omega)]; omega
                             clear hd1 hd2
                             have kb10 : Blk (wf.alloc (.cells #[.int .i64 y0, .int .i64 y1] 41)) wf.heap.size 41 #[.int .i64 y0, .int .i64 y1] := Blk.new wf _ _
                             have hb10 : Below wf.heap.size wf (wf.alloc (.cells #[.int .i64 y0, .int .i64 y1] 41)) := (Below.refl _ wf).alloc (Nat.le_refl _) _
                             have f10_0 : In w.heap.size w (wf.alloc (.cells #[.int .i64 y0, .int .i64 y1] 41)) := f9_0.step hb10
                             have f10_1 : ReadsShift (wf.alloc (.cells #[.int .i64 y0, .int .i64 y1] 41)) (some a) n xs := f9_1.step hb10
                             have f10_2 : ReadsI (wf.alloc (.cells #[.int .i64 y0, .int .i64 y1] 41)) (some ej) m L := f9_2.step hb10
                             have f10_3 : (wf.alloc (.cells #[.int .i64 y0, .int .i64 y1] 41)).cell? (a.add (k * 2)) = some (.int .i64 u0) := cell_in f9_3 ⟨hb10, hb10.size⟩
                             have f10_4 : (wf.alloc (.cells #[.int .i64 y0, .int .i64 y1] 41)).cell? ⟨(a.add (k * 2)).block, (a.add (k * 2)).off + 1, none⟩ = some (.int .i64 u1) := cell_in f9_4 ⟨hb10, hb10.size⟩
                             have f10_5 : (wf.alloc (.cells #[.int .i64 y0, .int .i64 y1] 41)).cell? (ej.add j) = some (.int .i64 (qj : Int)) := cell_in dj ⟨hb10, hb10.size⟩
                             have f10_6 : (wf.alloc (.cells #[.int .i64 y0, .int .i64 y1] 41)).cell? (a.add (qj * 2)) = some (.int .i64 y0) := cell_in cj0 ⟨hb10, hb10.size⟩
                             have f10_7 : (wf.alloc (.cells #[.int .i64 y0, .int .i64 y1] 41)).cell? ⟨(a.add (qj * 2)).block, (a.add (qj * 2)).off + 1, none⟩ = some (.int .i64 y1) := cell_in cj1 ⟨hb10, hb10.size⟩
                             have f10_8 : (wf.alloc (.cells #[.int .i64 y0, .int .i64 y1] 41)).cell? ⟨wf.heap.size, 0, none⟩ = some (.int .i64 y0) := kb10.cell 0
                             have f10_9 : (wf.alloc (.cells #[.int .i64 y0, .int .i64 y1] 41)).cell? ⟨wf.heap.size, 1, none⟩ = some (.int .i64 y1) := kb10.cell 1
                             clear kb10 hb10
                             go_wp2
                             clear f9_0 f9_1 f9_2 f9_3 f9_4 dj cj0 cj1
                             as_aux_lemma =>
                              obtain ⟨p1, hp1⟩ : ∃ p, decide (rest ≤ d1) = p := ⟨_, rfl⟩
                              obtain ⟨p2, hp2⟩ : ∃ p, decide (rest ≤ d2) = p := ⟨_, rfl⟩
                              rw [hp1, hp2] at HOJ
                              cases f9
                              · skip
                                have HFV : Hid (allOk (okf xs rest k L) (j + 1) = false) := Lib.hid (by rw [HAO.out, HOJ.out]; rfl)
                                clear HAO HOJ HOF
                                as_aux_lemma =>
                                 refine wp_region_S (C := (fun w' => In w.heap.size w w' ∧ ReadsShift w' (some a) n xs ∧ ReadsI w' (some ej) m L ∧ w'.cell? (a.add (k * 2)) = some (.int .i64 u0) ∧ w'.cell? ⟨(a.add (k * 2)).block, (a.add (k * 2)).off + 1, none⟩ = some (.int .i64 u1) ∧ w'.cell? (ej.add j) = some (.int .i64 (qj : Int)) ∧ w'.cell? (a.add (qj * 2)) = some (.int .i64 y0) ∧ w'.cell? ⟨(a.add (qj * 2)).block, (a.add (qj * 2)).off + 1, none⟩ = some (.int .i64 y1) ∧ w'.cell? ⟨wf.heap.size, 0, none⟩ = some (.int .i64 y0) ∧ w'.cell? ⟨wf.heap.size, 1, none⟩ = some (.int .i64 y1))) (by kernel_rfl) (by kernel_rfl) ?_ ?_
                                 · exact ⟨f10_0.drew, f10_1, f10_2, f10_3, f10_4, f10_5, f10_6, f10_7, f10_8, f10_9⟩
                                 repeat (first | go_big_quiet_skip | (go_big_quiet_want; first | (refine quiet_ex ?_; apply Exists.intro; refine ⟨fun W hW => ?_, ?_⟩; (· (obtain ⟨f11_0, f11_1, f11_2, f11_3, f11_4, f11_5, f11_6, f11_7, f11_8, f11_9⟩ := hW; go_simp; (first | done | with_reducible rfl | rfl))); simp only [Act.put, List.setIfInBounds_toArray, List.set_cons_zero, List.set_cons_succ]; go_big_quiet_on) | (refine quiet_ex ?_; apply Exists.intro; refine ⟨fun W hW => ?_, ?_⟩; (· (go_simp; first | (fail))); simp only [Act.put, List.setIfInBounds_toArray, List.set_cons_zero, List.set_cons_succ]; go_big_quiet_on)))
                                 refine wpQuiet_nil ?_
                                 rintro w' ⟨f11_0, f11_1, f11_2, f11_3, f11_4, f11_5, f11_6, f11_7, f11_8, f11_9⟩
                                 clear f10_0 f10_1 f10_2 f10_3 f10_4 f10_5 f10_6 f10_7 f10_8 f10_9
                                 obtain ⟨wg, hx9⟩ : ∃ x, x = w' := ⟨_, rfl⟩
                                 subst hx9
                                 (try clear hp1)
                                 (try clear hp2)
                                 go_wp2
                                 go_roundw
                                 case rel => exact ⟨j + 1, by omega, by go_num, v_bool HFV.out.symm, f11_0, f11_1, f11_2, f11_3, f11_4⟩
                                 case measure => simp [intOf]; omega
                              · skip
                                cases p1
                                · skip
                                  cases p2
                                  · skip
                                    have HFV : Hid (allOk (okf xs rest k L) (j + 1) = false) := Lib.hid (by rw [HAO.out, HOJ.out]; rfl)
                                    clear HAO HOJ HOF
                                    as_aux_lemma =>
                                     refine wp_region_S (C := (fun w' => In w.heap.size w w' ∧ ReadsShift w' (some a) n xs ∧ ReadsI w' (some ej) m L ∧ w'.cell? (a.add (k * 2)) = some (.int .i64 u0) ∧ w'.cell? ⟨(a.add (k * 2)).block, (a.add (k * 2)).off + 1, none⟩ = some (.int .i64 u1) ∧ w'.cell? (ej.add j) = some (.int .i64 (qj : Int)) ∧ w'.cell? (a.add (qj * 2)) = some (.int .i64 y0) ∧ w'.cell? ⟨(a.add (qj * 2)).block, (a.add (qj * 2)).off + 1, none⟩ = some (.int .i64 y1) ∧ w'.cell? ⟨wf.heap.size, 0, none⟩ = some (.int .i64 y0) ∧ w'.cell? ⟨wf.heap.size, 1, none⟩ = some (.int .i64 y1))) (by kernel_rfl) (by kernel_rfl) ?_ ?_
                                     · exact ⟨f10_0.drew, f10_1, f10_2, f10_3, f10_4, f10_5, f10_6, f10_7, f10_8, f10_9⟩
                                     repeat (first | go_big_quiet_skip | (go_big_quiet_want; first | (refine quiet_ex ?_; apply Exists.intro; refine ⟨fun W hW => ?_, ?_⟩; (· (obtain ⟨f11_0, f11_1, f11_2, f11_3, f11_4, f11_5, f11_6, f11_7, f11_8, f11_9⟩ := hW; go_simp; (first | done | with_reducible rfl | rfl))); simp only [Act.put, List.setIfInBounds_toArray, List.set_cons_zero, List.set_cons_succ]; go_big_quiet_on) | (refine quiet_ex ?_; apply Exists.intro; refine ⟨fun W hW => ?_, ?_⟩; (· (go_simp; first | (fail))); simp only [Act.put, List.setIfInBounds_toArray, List.set_cons_zero, List.set_cons_succ]; go_big_quiet_on)))
                                     refine wpQuiet_nil ?_
                                     rintro w' ⟨f11_0, f11_1, f11_2, f11_3, f11_4, f11_5, f11_6, f11_7, f11_8, f11_9⟩
                                     clear f10_0 f10_1 f10_2 f10_3 f10_4 f10_5 f10_6 f10_7 f10_8 f10_9
                                     obtain ⟨wg, hx9⟩ : ∃ x, x = w' := ⟨_, rfl⟩
                                     subst hx9
                                     (try clear hp1)
                                     (try clear hp2)
                                     go_wp2
                                     go_roundw
                                     case rel => exact ⟨j + 1, by omega, by go_num, v_bool HFV.out.symm, f11_0, f11_1, f11_2, f11_3, f11_4⟩
                                     case measure => simp [intOf]; omega
                                  · skip
                                    have HFV : Hid (allOk (okf xs rest k L) (j + 1) = true) := Lib.hid (by rw [HAO.out, HOJ.out]; rfl)
                                    clear HAO HOJ HOF
                                    as_aux_lemma =>
                                     refine wp_region_S (C := (fun w' => In w.heap.size w w' ∧ ReadsShift w' (some a) n xs ∧ ReadsI w' (some ej) m L ∧ w'.cell? (a.add (k * 2)) = some (.int .i64 u0) ∧ w'.cell? ⟨(a.add (k * 2)).block, (a.add (k * 2)).off + 1, none⟩ = some (.int .i64 u1) ∧ w'.cell? (ej.add j) = some (.int .i64 (qj : Int)) ∧ w'.cell? (a.add (qj * 2)) = some (.int .i64 y0) ∧ w'.cell? ⟨(a.add (qj * 2)).block, (a.add (qj * 2)).off + 1, none⟩ = some (.int .i64 y1) ∧ w'.cell? ⟨wf.heap.size, 0, none⟩ = some (.int .i64 y0) ∧ w'.cell? ⟨wf.heap.size, 1, none⟩ = some (.int .i64 y1))) (by kernel_rfl) (by kernel_rfl) ?_ ?_
                                     · exact ⟨f10_0.drew, f10_1, f10_2, f10_3, f10_4, f10_5, f10_6, f10_7, f10_8, f10_9⟩
                                     repeat (first | go_big_quiet_skip | (go_big_quiet_want; first | (refine quiet_ex ?_; apply Exists.intro; refine ⟨fun W hW => ?_, ?_⟩; (· (obtain ⟨f11_0, f11_1, f11_2, f11_3, f11_4, f11_5, f11_6, f11_7, f11_8, f11_9⟩ := hW; go_simp; (first | done | with_reducible rfl | rfl))); simp only [Act.put, List.setIfInBounds_toArray, List.set_cons_zero, List.set_cons_succ]; go_big_quiet_on) | (refine quiet_ex ?_; apply Exists.intro; refine ⟨fun W hW => ?_, ?_⟩; (· (go_simp; first | (fail))); simp only [Act.put, List.setIfInBounds_toArray, List.set_cons_zero, List.set_cons_succ]; go_big_quiet_on)))
                                     refine wpQuiet_nil ?_
                                     rintro w' ⟨f11_0, f11_1, f11_2, f11_3, f11_4, f11_5, f11_6, f11_7, f11_8, f11_9⟩
                                     clear f10_0 f10_1 f10_2 f10_3 f10_4 f10_5 f10_6 f10_7 f10_8 f10_9
                                     obtain ⟨wg, hx9⟩ : ∃ x, x = w' := ⟨_, rfl⟩
                                     subst hx9
                                     (try clear hp1)
                                     (try clear hp2)
                                     go_wp2
                                     go_roundw
                                     case rel => exact ⟨j + 1, by omega, by go_num, v_bool HFV.out.symm, f11_0, f11_1, f11_2, f11_3, f11_4⟩
                                     case measure => simp [intOf]; omega
                                · skip
                                  have HFV : Hid (allOk (okf xs rest k L) (j + 1) = true) := Lib.hid (by rw [HAO.out, HOJ.out]; rfl)
                                  clear HAO HOJ HOF
                                  as_aux_lemma =>
                                   refine wp_region_S (C := (fun w' => In w.heap.size w w' ∧ ReadsShift w' (some a) n xs ∧ ReadsI w' (some ej) m L ∧ w'.cell? (a.add (k * 2)) = some (.int .i64 u0) ∧ w'.cell? ⟨(a.add (k * 2)).block, (a.add (k * 2)).off + 1, none⟩ = some (.int .i64 u1) ∧ w'.cell? (ej.add j) = some (.int .i64 (qj : Int)) ∧ w'.cell? (a.add (qj * 2)) = some (.int .i64 y0) ∧ w'.cell? ⟨(a.add (qj * 2)).block, (a.add (qj * 2)).off + 1, none⟩ = some (.int .i64 y1) ∧ w'.cell? ⟨wf.heap.size, 0, none⟩ = some (.int .i64 y0) ∧ w'.cell? ⟨wf.heap.size, 1, none⟩ = some (.int .i64 y1))) (by kernel_rfl) (by kernel_rfl) ?_ ?_
                                   · exact ⟨f10_0.drew, f10_1, f10_2, f10_3, f10_4, f10_5, f10_6, f10_7, f10_8, f10_9⟩
                                   repeat (first | go_big_quiet_skip | (go_big_quiet_want; first | (refine quiet_ex ?_; apply Exists.intro; refine ⟨fun W hW => ?_, ?_⟩; (· (obtain ⟨f11_0, f11_1, f11_2, f11_3, f11_4, f11_5, f11_6, f11_7, f11_8, f11_9⟩ := hW; go_simp; (first | done | with_reducible rfl | rfl))); simp only [Act.put, List.setIfInBounds_toArray, List.set_cons_zero, List.set_cons_succ]; go_big_quiet_on) | (refine quiet_ex ?_; apply Exists.intro; refine ⟨fun W hW => ?_, ?_⟩; (· (go_simp; first | (fail))); simp only [Act.put, List.setIfInBounds_toArray, List.set_cons_zero, List.set_cons_succ]; go_big_quiet_on)))
                                   refine wpQuiet_nil ?_
                                   rintro w' ⟨f11_0, f11_1, f11_2, f11_3, f11_4, f11_5, f11_6, f11_7, f11_8, f11_9⟩
                                   clear f10_0 f10_1 f10_2 f10_3 f10_4 f10_5 f10_6 f10_7 f10_8 f10_9
                                   obtain ⟨wg, hx9⟩ : ∃ x, x = w' := ⟨_, rfl⟩
                                   subst hx9
                                   (try clear hp1)
                                   (try clear hp2)
                                   go_wp2
                                   go_roundw
                                   case rel => exact ⟨j + 1, by omega, by go_num, v_bool HFV.out.symm, f11_0, f11_1, f11_2, f11_3, f11_4⟩
                                   case measure => simp [intOf]; omega
                           · skip
                             obtain rfl : j = m := by omega
                             rw [HALL.out]
                             go_wp2
                             go_roundw
                             case rel => exact ⟨k + 1, by omega, by go_num, f9_0, f9_1, f9_2⟩
                             case measure => simp [intOf]; omega
                      · skip
                        clear hft HOF
                        go_wp2
                        go_roundw
                        case rel => exact ⟨k + 1, by omega, by go_num, f8_0, f8_1, f8_2⟩
                        case measure => simp [intOf]; omega
                    · skip
                      obtain rfl : k = n := by omega
                      clear HFT HAT HHAS hlt hk
                      generalize hkn : k = n at *
                      clear hkn
                      have hrn := reads_night we
                      have hb9 : Below we.heap.size we (we.alloc (.cells #[.int .i64 20, .int .i64 30] 41)) := (Below.refl _ we).alloc (Nat.le_refl _) _
                      obtain ⟨rN, hrN⟩ : ∃ r, r = we.heap.size := ⟨_, rfl⟩
                      have f9_0 : In w.heap.size w (we.alloc (.cells #[.int .i64 20, .int .i64 30] 41)) := f8_0.step hb9
                      have f9_1 : ReadsShift (we.alloc (.cells #[.int .i64 20, .int .i64 30] 41)) A n xs := f8_1.step hb9
                      have f9_2 : ReadsI (we.alloc (.cells #[.int .i64 20, .int .i64 30] 41)) AL m L := f8_2.step hb9
                      have f9_3 : ReadsShift (we.alloc (.cells #[.int .i64 20, .int .i64 30] 41)) (some ⟨we.heap.size, 0, none⟩) 1 [⟨20, 30⟩] := hrn
                      clear f8_0 f8_1 f8_2
                      clear hb9 hrn hrN
                      have VH : IntKind.i64.wrap (H - 1) = H - 1 := IntWalk.i64_in _ (by omega)
                      have VHw : wrap64 (H - 1) = H - 1 := w64 ⟨by omega, by omega⟩
                      go_wp2_with fail
                      refine (HAL.out _ f9_1).mono ?_
                      rintro _ w10 ⟨rfl, hb10⟩
                      have f10_0 : In w.heap.size w w10 := f9_0.step hb10
                      have f10_1 : ReadsShift w10 A n xs := f9_1.step hb10
                      have f10_2 : ReadsI w10 AL m L := f9_2.step hb10
                      have f10_3 : ReadsShift w10 (some ⟨we.heap.size, 0, none⟩) 1 [⟨20, 30⟩] := f9_3.step hb10
                      clear f9_0 f9_1 f9_2 f9_3
                      clear hb10
                      go_wp2_with fail
                      refine (HAM.out _ f10_1).mono ?_
                      rintro _ w11 ⟨rfl, hb11⟩
                      have f11_0 : In w.heap.size w w11 := f10_0.step hb11
                      have f11_1 : ReadsShift w11 A n xs := f10_1.step hb11
                      have f11_2 : ReadsI w11 AL m L := f10_2.step hb11
                      have f11_3 : ReadsShift w11 (some ⟨we.heap.size, 0, none⟩) 1 [⟨20, 30⟩] := f10_3.step hb11
                      clear f10_0 f10_1 f10_2 f10_3
                      clear hb11
                      go_wp2_with fail
                      refine (HNG.out _ _ _ f11_3).mono ?_
                      rintro _ w12 ⟨rfl, hb12⟩
                      have f12_0 : In w.heap.size w w12 := f11_0.step hb12
                      have f12_1 : ReadsShift w12 A n xs := f11_1.step hb12
                      have f12_2 : ReadsI w12 AL m L := f11_2.step hb12
                      have f12_3 : ReadsShift w12 (some ⟨we.heap.size, 0, none⟩) 1 [⟨20, 30⟩] := f11_3.step hb12
                      clear f11_0 f11_1 f11_2 f11_3
                      clear hb12
                      go_wp2_with fail
                      refine (HOK.out _ f12_1).mono ?_
                      rintro _ w13 ⟨rfl, hb13⟩
                      have f13_0 : In w.heap.size w w13 := f12_0.step hb13
                      have f13_1 : ReadsShift w13 A n xs := f12_1.step hb13
                      have f13_2 : ReadsI w13 AL m L := f12_2.step hb13
                      have f13_3 : ReadsShift w13 (some ⟨we.heap.size, 0, none⟩) 1 [⟨20, 30⟩] := f12_3.step hb13
                      clear f12_0 f12_1 f12_2 f12_3
                      clear hb13
                      go_wp2
                      go_ret
                      exact ⟨ret_bool rfl, f13_0.below⟩
  · skip
    have m1_ : (m : Int) ≤ (n : Int) := by omega
    have m2_ : decide ((n : Int) < (m : Int)) = false := decide_eq_false (by omega)
    have m3_ : decide (n < m) = false := decide_eq_false (by omega)
    have HN0 : Hid (n = 0) := Lib.hid (by omega)
    have p1_ : decide ((0 : Int) < (n : Int)) = false := decide_eq_false (by omega)
    have p2_ : decide (0 < n) = false := decide_eq_false (by omega)
    have p3_ : (n : Int) ≤ 0 := by omega
    clear hn0
    clear pos
    obtain ⟨wa, hq9⟩ : ∃ q, q = w5 := ⟨_, rfl⟩
    subst hq9
    as_aux_lemma =>
     go_wp2
     go_loopw [9, 10] (fun s i wr => ∃ k : Nat, k ≤ n ∧ i = .int .i64 k ∧ s = .int .i64 (sumTo (hG xs) k) ∧ (In w.heap.size w wr ∧ ReadsShift wr A n xs ∧ ReadsI wr AL m L)) (fun _ i _ => n - (intOf i).toNat)
     case atStart => exact ⟨0, Nat.zero_le _, rfl, rfl, f5_0, f5_1, f5_2⟩
     case round =>
       obtain ⟨k, hk, rfl, rfl, f6_0, f6_1, f6_2⟩ := hrel
       clear f5_0 f5_1 f5_2
       obtain ⟨wb, hq9⟩ : ∃ q, q = wr := ⟨_, rfl⟩
       subst hq9
       by_cases hlt : k < n
       · skip
         exact absurd hlt (by have := HN0.out; omega)
       · skip
         obtain rfl : k = n := by omega
         have hes := HES.out
         rw [hes]
         clear hes hlt hk HES HSU HGP
         generalize hkn : k = n at *
         clear hkn
         as_aux_lemma =>
          go_wp2
          go_loopw [11] (fun i wr => ∃ k : Nat, k ≤ m ∧ i = .int .i64 k ∧ (In w.heap.size w wr ∧ ReadsShift wr A n xs ∧ ReadsI wr AL m L)) (fun i _ => m - (intOf i).toNat)
          case atStart => exact ⟨0, Nat.zero_le _, rfl, f6_0, f6_1, f6_2⟩
          case round =>
            obtain ⟨k, hk, rfl, f7_0, f7_1, f7_2⟩ := hrel
            clear f6_0 f6_1 f6_2
            obtain ⟨wc, hq9⟩ : ∃ q, q = wr := ⟨_, rfl⟩
            subst hq9
            by_cases hlt : k < m
            · skip
              exact absurd hlt (by have := HN0.out; omega)
            · skip
              obtain rfl : k = m := by omega
              clear hlt hk HRS
              generalize hkm : k = m at *
              clear hkm
              as_aux_lemma =>
               by_cases hrr : rest ≤ R
               · skip
                 as_aux_lemma =>
                  have hrr3 : decide (rest ≤ R) = true := decide_eq_true hrr
                  have hmn := Lib.hid (all hrr)
                  have hmn2 : ((m : Int) == (n : Int)) = true := by simp [hmn.out]
                  have hmn3 : (m == n) = true := by simp [hmn.out]
                  have hmn4 : decide (m = n) = true := by simp [hmn.out]
                  have hmn5 : decide ((m : Int) = (n : Int)) = true := by simp [hmn.out]
                  have hmn6 : ((m : Int) != (n : Int)) = false := by simp [hmn.out]
                  have hmn7 : (m != n) = false := by simp [hmn.out]
                  clear all
                  go_wp2
                  (try clear hmn hmn2 hmn3 hmn4 hmn5 hmn6 hmn7)
                  (try clear hrr2)
                  clear hrr3 hrr
                  go_loopw [12] (fun i wr => ∃ k : Nat, k ≤ n ∧ i = .int .i64 k ∧ (In w.heap.size w wr ∧ ReadsShift wr A n xs ∧ ReadsI wr AL m L)) (fun i _ => n - (intOf i).toNat)
                  case atStart => exact ⟨0, Nat.zero_le _, rfl, f7_0, f7_1, f7_2⟩
                  case round =>
                    obtain ⟨k, hk, rfl, f8_0, f8_1, f8_2⟩ := hrel
                    clear f7_0 f7_1 f7_2
                    obtain ⟨we, hq9⟩ : ∃ q, q = wr := ⟨_, rfl⟩
                    subst hq9
                    by_cases hlt : k < n
                    · skip
                      exact absurd hlt (by have := HN0.out; omega)
                    · skip
                      obtain rfl : k = n := by omega
                      clear HFT HAT HHAS hlt hk
                      generalize hkn : k = n at *
                      clear hkn
                      have hrn := reads_night we
                      have hb9 : Below we.heap.size we (we.alloc (.cells #[.int .i64 20, .int .i64 30] 41)) := (Below.refl _ we).alloc (Nat.le_refl _) _
                      obtain ⟨rN, hrN⟩ : ∃ r, r = we.heap.size := ⟨_, rfl⟩
                      have f9_0 : In w.heap.size w (we.alloc (.cells #[.int .i64 20, .int .i64 30] 41)) := f8_0.step hb9
                      have f9_1 : ReadsShift (we.alloc (.cells #[.int .i64 20, .int .i64 30] 41)) A n xs := f8_1.step hb9
                      have f9_2 : ReadsI (we.alloc (.cells #[.int .i64 20, .int .i64 30] 41)) AL m L := f8_2.step hb9
                      have f9_3 : ReadsShift (we.alloc (.cells #[.int .i64 20, .int .i64 30] 41)) (some ⟨we.heap.size, 0, none⟩) 1 [⟨20, 30⟩] := hrn
                      clear f8_0 f8_1 f8_2
                      clear hb9 hrn hrN
                      have VH : IntKind.i64.wrap (H - 1) = H - 1 := IntWalk.i64_in _ (by omega)
                      have VHw : wrap64 (H - 1) = H - 1 := w64 ⟨by omega, by omega⟩
                      go_wp2_with fail
                      refine (HAL.out _ f9_1).mono ?_
                      rintro _ w10 ⟨rfl, hb10⟩
                      have f10_0 : In w.heap.size w w10 := f9_0.step hb10
                      have f10_1 : ReadsShift w10 A n xs := f9_1.step hb10
                      have f10_2 : ReadsI w10 AL m L := f9_2.step hb10
                      have f10_3 : ReadsShift w10 (some ⟨we.heap.size, 0, none⟩) 1 [⟨20, 30⟩] := f9_3.step hb10
                      clear f9_0 f9_1 f9_2 f9_3
                      clear hb10
                      go_wp2_with fail
                      refine (HAM.out _ f10_1).mono ?_
                      rintro _ w11 ⟨rfl, hb11⟩
                      have f11_0 : In w.heap.size w w11 := f10_0.step hb11
                      have f11_1 : ReadsShift w11 A n xs := f10_1.step hb11
                      have f11_2 : ReadsI w11 AL m L := f10_2.step hb11
                      have f11_3 : ReadsShift w11 (some ⟨we.heap.size, 0, none⟩) 1 [⟨20, 30⟩] := f10_3.step hb11
                      clear f10_0 f10_1 f10_2 f10_3
                      clear hb11
                      go_wp2_with fail
                      refine (HNG.out _ _ _ f11_3).mono ?_
                      rintro _ w12 ⟨rfl, hb12⟩
                      have f12_0 : In w.heap.size w w12 := f11_0.step hb12
                      have f12_1 : ReadsShift w12 A n xs := f11_1.step hb12
                      have f12_2 : ReadsI w12 AL m L := f11_2.step hb12
                      have f12_3 : ReadsShift w12 (some ⟨we.heap.size, 0, none⟩) 1 [⟨20, 30⟩] := f11_3.step hb12
                      clear f11_0 f11_1 f11_2 f11_3
                      clear hb12
                      go_wp2_with fail
                      refine (HOK.out _ f12_1).mono ?_
                      rintro _ w13 ⟨rfl, hb13⟩
                      have f13_0 : In w.heap.size w w13 := f12_0.step hb13
                      have f13_1 : ReadsShift w13 A n xs := f12_1.step hb13
                      have f13_2 : ReadsI w13 AL m L := f12_2.step hb13
                      have f13_3 : ReadsShift w13 (some ⟨we.heap.size, 0, none⟩) 1 [⟨20, 30⟩] := f12_3.step hb13
                      clear f12_0 f12_1 f12_2 f12_3
                      clear hb13
                      go_wp2
                      go_ret
                      exact ⟨ret_bool rfl, f13_0.below⟩
               · skip
                 as_aux_lemma =>
                  have hrr2 : R < rest := by omega
                  have hrr3 : decide (rest ≤ R) = false := decide_eq_false (by omega)
                  clear all
                  go_wp2
                  (try clear hmn hmn2 hmn3 hmn4 hmn5 hmn6 hmn7)
                  (try clear hrr2)
                  clear hrr3 hrr
                  go_loopw [12] (fun i wr => ∃ k : Nat, k ≤ n ∧ i = .int .i64 k ∧ (In w.heap.size w wr ∧ ReadsShift wr A n xs ∧ ReadsI wr AL m L)) (fun i _ => n - (intOf i).toNat)
                  case atStart => exact ⟨0, Nat.zero_le _, rfl, f7_0, f7_1, f7_2⟩
                  case round =>
                    obtain ⟨k, hk, rfl, f8_0, f8_1, f8_2⟩ := hrel
                    clear f7_0 f7_1 f7_2
                    obtain ⟨we, hq9⟩ : ∃ q, q = wr := ⟨_, rfl⟩
                    subst hq9
                    by_cases hlt : k < n
                    · skip
                      exact absurd hlt (by have := HN0.out; omega)
                    · skip
                      obtain rfl : k = n := by omega
                      clear HFT HAT HHAS hlt hk
                      generalize hkn : k = n at *
                      clear hkn
                      have hrn := reads_night we
                      have hb9 : Below we.heap.size we (we.alloc (.cells #[.int .i64 20, .int .i64 30] 41)) := (Below.refl _ we).alloc (Nat.le_refl _) _
                      obtain ⟨rN, hrN⟩ : ∃ r, r = we.heap.size := ⟨_, rfl⟩
                      have f9_0 : In w.heap.size w (we.alloc (.cells #[.int .i64 20, .int .i64 30] 41)) := f8_0.step hb9
                      have f9_1 : ReadsShift (we.alloc (.cells #[.int .i64 20, .int .i64 30] 41)) A n xs := f8_1.step hb9
                      have f9_2 : ReadsI (we.alloc (.cells #[.int .i64 20, .int .i64 30] 41)) AL m L := f8_2.step hb9
                      have f9_3 : ReadsShift (we.alloc (.cells #[.int .i64 20, .int .i64 30] 41)) (some ⟨we.heap.size, 0, none⟩) 1 [⟨20, 30⟩] := hrn
                      clear f8_0 f8_1 f8_2
                      clear hb9 hrn hrN
                      have VH : IntKind.i64.wrap (H - 1) = H - 1 := IntWalk.i64_in _ (by omega)
                      have VHw : wrap64 (H - 1) = H - 1 := w64 ⟨by omega, by omega⟩
                      go_wp2_with fail
                      refine (HAL.out _ f9_1).mono ?_
                      rintro _ w10 ⟨rfl, hb10⟩
                      have f10_0 : In w.heap.size w w10 := f9_0.step hb10
                      have f10_1 : ReadsShift w10 A n xs := f9_1.step hb10
                      have f10_2 : ReadsI w10 AL m L := f9_2.step hb10
                      have f10_3 : ReadsShift w10 (some ⟨we.heap.size, 0, none⟩) 1 [⟨20, 30⟩] := f9_3.step hb10
                      clear f9_0 f9_1 f9_2 f9_3
                      clear hb10
                      go_wp2_with fail
                      refine (HAM.out _ f10_1).mono ?_
                      rintro _ w11 ⟨rfl, hb11⟩
                      have f11_0 : In w.heap.size w w11 := f10_0.step hb11
                      have f11_1 : ReadsShift w11 A n xs := f10_1.step hb11
                      have f11_2 : ReadsI w11 AL m L := f10_2.step hb11
                      have f11_3 : ReadsShift w11 (some ⟨we.heap.size, 0, none⟩) 1 [⟨20, 30⟩] := f10_3.step hb11
                      clear f10_0 f10_1 f10_2 f10_3
                      clear hb11
                      go_wp2_with fail
                      refine (HNG.out _ _ _ f11_3).mono ?_
                      rintro _ w12 ⟨rfl, hb12⟩
                      have f12_0 : In w.heap.size w w12 := f11_0.step hb12
                      have f12_1 : ReadsShift w12 A n xs := f11_1.step hb12
                      have f12_2 : ReadsI w12 AL m L := f11_2.step hb12
                      have f12_3 : ReadsShift w12 (some ⟨we.heap.size, 0, none⟩) 1 [⟨20, 30⟩] := f11_3.step hb12
                      clear f11_0 f11_1 f11_2 f11_3
                      clear hb12
                      go_wp2_with fail
                      refine (HOK.out _ f12_1).mono ?_
                      rintro _ w13 ⟨rfl, hb13⟩
                      have f13_0 : In w.heap.size w w13 := f12_0.step hb13
                      have f13_1 : ReadsShift w13 A n xs := f12_1.step hb13
                      have f13_2 : ReadsI w13 AL m L := f12_2.step hb13
                      have f13_3 : ReadsShift w13 (some ⟨we.heap.size, 0, none⟩) 1 [⟨20, 30⟩] := f12_3.step hb13
                      clear f12_0 f12_1 f12_2 f12_3
                      clear hb13
                      go_wp2
                      go_ret
                      exact ⟨ret_bool rfl, f13_0.below⟩
    end Go.Proofs.Ythndjpklfgcpmaa
