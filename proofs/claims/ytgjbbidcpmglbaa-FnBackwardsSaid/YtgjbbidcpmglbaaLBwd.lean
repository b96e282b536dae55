/- The law FnBackwards. -/
import Derived.Test.YtgjbbidcpmglbaaBwP
import Derived.Test.YtgjbbidcpmglbaaDsStep
import Derived.Test.YtgjbbidcpmglbaaAtAll
import Derived.Test.YtgjbbidcpmglbaaQuietL
import Derived.BigQuiet
import Derived.Deep.QuietTactic
namespace Go.Proofs.Ytgjbbidcpmglbaa
open Go.ChangeShapes Go.WideShapes Go.ChangeAt Go.RowKit
set_option linter.unusedVariables false
set_option linter.unusedSimpArgs false
set_option maxHeartbeats 2000000

set_option maxHeartbeats 80000000 in
set_option maxRecDepth 20000 in
theorem walk_FnBackwards (a0 : Option Addr) (len0 cap0 : Nat) (z0 : List Int) (w : World) (w0 : IsRow .u8 w a0 len0 cap0 z0) :
    Calls Try.prog 4 #[.slice a0 len0 cap0] w fun e w' => e = .returned (.bool true) ∧ Below w.heap.size w w' := by
  have hb := ReadsU.of_row w0
  have hm := hb.1
  clear w0
  by_cases hbig : (1048576 : Int) < (len0 : Int)
  · go_enter Try.func4, Try.ntmps4
    go_wp2_with fail
    refine (bigU _ _ _ _ hm true (by simpa using hbig)).mono ?_
    rintro e w' ⟨rfl, rfl⟩
    go_wp2_with fail
    go_ret
    exact ⟨rfl, Below.refl _ _⟩
  have HB := Lib.hid hb
  obtain ⟨x0, h0, A0⟩ := at_all a0 len0 cap0 0 w (by omega) (by omega) hb
  have HA0 := Lib.hid A0
  clear A0
  go_enter Try.func4, Try.ntmps4
  go_wp2_with fail
  refine (bigU _ _ _ _ hm false (by simpa using hbig)).mono ?_
  rintro e w' ⟨rfl, rfl⟩
  clear hbig hm hb
  have f0_0 : In w.heap.size w w := In.refl w
  have f0_1 := HB.out
  go_wp2_with fail
  refine (DrawSteps_c _ _ _ _ (bytes_of f0_1)).mono ?_
  rintro _ w1 ⟨A, A2, cp, c2, n, m, xs, ys, rfl, ⟨hn, hm⟩, hx, hy, hrd, hrd2, hnc, hnc2, hb1⟩
  have f1_0 : In w.heap.size w w1 := f0_0.step hb1
  have f1_1 : ReadsStep w1 A n xs := hrd
  have f1_2 : ReadsStep w1 A2 m ys := hrd2
  clear f0_0 f0_1
  clear hb1 hrd hrd2
  obtain ⟨q, hq9⟩ : ∃ q, x0 * 2 = q := ⟨_, rfl⟩
  have hq : 0 ≤ q ∧ q ≤ 510 := by omega
  have VQ : IntKind.i64.wrap (x0 * 2) = q := by rw [IntWalk.i64_in _ (by omega)]; exact hq9
  clear hq9 h0
  obtain ⟨N, c, l, all, eOK, eN, hN, eS, eS0, ec, hc, ec2, eall, emin, hall, el, hl, g0, g1, g2⟩ := back_law hn hm hx hy hq
  have HST := Lib.hid (fun W (h : ReadsStep W A n xs) => iStartTimes A n cp xs 600 W (by unfold maxLen; omega) h)
  rw [eS] at HST
  have HWT := Lib.hid (fun W (h : ReadsStep W A n xs) => iWholeTime A n cp xs W (by unfold maxLen; omega) h)
  rw [eN] at HWT
  have HOK := Lib.hid (fun W (h : ReadsStep W A n xs) => iStepsOk A n cp xs W (by unfold maxLen; omega) h)
  rw [eOK] at HOK
  have HC1 := Lib.hid (fun W (h : ReadsStep W A n xs) (h2 : ReadsStep W A2 m ys) => iWorkClash A n cp xs A2 m c2 ys 600 q W (by unfold maxLen; omega) h (by unfold maxLen; omega) h2)
  rw [ec] at HC1
  have HC2 := Lib.hid (fun W (h : ReadsStep W A n xs) (h2 : ReadsStep W A2 m ys) => iWorkClash A2 m c2 ys A n cp xs q 600 W (by unfold maxLen; omega) h2 (by unfold maxLen; omega) h)
  rw [ec2] at HC2
  have HC3 := Lib.hid (fun W (h : ReadsStep W A n xs) => iWorkClash A n cp xs A n cp xs 600 600 W (by unfold maxLen; omega) h (by unfold maxLen; omega) h)
  rw [eall] at HC3
  have HLS := Lib.hid (fun W (h : ReadsStep W A n xs) (h2 : ReadsStep W A2 m ys) => iLeastShift A n cp xs A2 m c2 ys 600 W (by unfold maxLen; omega) h (by unfold maxLen; omega) h2)
  rw [el] at HLS
  have HX := Lib.hid hx
  have HEM := Lib.hid emin
  have HMI := Lib.hid (fun k (hk : k ≤ n) => min_in (xs := xs) k fun i hi => hx i (by omega))
  have HSG := Lib.hid (fun k (hk : k ≤ n) => stG_in (xs := xs) k fun i hi => hx i (by omega))
  have HG0 := Lib.hid g0
  have HG1 := Lib.hid g1
  have HG2 := Lib.hid g2
  have HS0 := Lib.hid eS0
  clear eOK eN eS eS0 ec ec2 eall emin el g0 g1 g2 hx hy
  go_wp2_with fail
  refine (HST.out _ f1_1).mono ?_
  rintro _ w3 ⟨As, cs, rfl, hown, hb3⟩
  have hrs : ReadsI w3 As (stL n xs 600 n).length (stL n xs 600 n) := reads_own_i hown
  rw [stL_len] at hrs
  have f2_0 : In w.heap.size w w3 := f1_0.step hb3
  have f2_1 : ReadsStep w3 A n xs := f1_1.step hb3
  have f2_2 : ReadsStep w3 A2 m ys := f1_2.step hb3
  have f2_3 : ReadsI w3 As n (stL n xs 600 n) := hrs
  clear f1_0 f1_1 f1_2
  clear hb3 hrs hown HST
  rw [stL_len]
  go_wp2_with fail
  refine (HWT.out _ f2_1).mono ?_
  rintro _ w3 ⟨rfl, hb3⟩
  have f3_0 : In w.heap.size w w3 := f2_0.step hb3
  have f3_1 : ReadsStep w3 A n xs := f2_1.step hb3
  have f3_2 : ReadsStep w3 A2 m ys := f2_2.step hb3
  have f3_3 : ReadsI w3 As n (stL n xs 600 n) := f2_3.step hb3
  clear f2_0 f2_1 f2_2 f2_3
  clear hb3
  clear HWT
  have d0 : decide (N < 0) = false := decide_eq_false (by omega)
  have V1 : IntKind.i64.wrap (600 - N) = 600 - N := by rw [IntWalk.i64_in _ (by omega)]
  by_cases hn0 : 0 < n
  · skip
    have hnI : (0 : Int) < (n : Int) := by omega
    have d1 : decide ((0 : Int) < (n : Int)) = true := decide_eq_true hnI
    have d2 : decide (0 < n) = true := decide_eq_true hn0
    obtain ⟨ads, rfl, hs0⟩ := f3_3.2 0 hn0
    rw [stL_at n xs 600 n 0 hn0, HS0.out] at hs0
    have hs0b : w3.cell? ads = some (.int .i64 (600 - N)) := by simpa [Addr.add] using hs0
    clear hs0
    simp only []
    iterate 9 go_step
    (try rw [List.append_eq])
    (try rw [List.append_eq])
    (repeat rw [List.cons_append])
    (repeat rw [List.nil_append])
    refine wp_region_L (C := (fun w' => In w.heap.size w w' ∧ ReadsStep w' A n xs ∧ ReadsStep w' A2 m ys ∧ ReadsI w' (some ads) n (stL n xs 600 n) ∧ w'.cell? ads = some (.int .i64 (600 - N)))) ?_ ?_
    · exact ⟨f3_0, f3_1, f3_2, f3_3, hs0b⟩
    repeat (first | go_big_quiet_skip | (go_big_quiet_want; first | (refine quiet_ex ?_; apply Exists.intro; refine ⟨fun W hW => ?_, ?_⟩; (· (obtain ⟨f4_0, f4_1, f4_2, f4_3, f4_4⟩ := hW; go_simp; (first | done | with_reducible rfl | rfl))); simp only [Act.put, List.setIfInBounds_toArray, List.set_cons_zero, List.set_cons_succ]; go_big_quiet_on) | (refine quiet_ex ?_; apply Exists.intro; refine ⟨fun W hW => ?_, ?_⟩; (· (go_simp; first | (fail))); simp only [Act.put, List.setIfInBounds_toArray, List.set_cons_zero, List.set_cons_succ]; go_big_quiet_on)))
    refine wpQuiet_nil ?_
    rintro w' ⟨f4_0, f4_1, f4_2, f4_3, f4_4⟩
    clear f3_0 f3_1 f3_2 f3_3 hs0b
    obtain ⟨u0_, hx9⟩ : ∃ x, x = w' := ⟨_, rfl⟩
    subst hx9
    clear f4_4
    clear d0 d1 d2
    as_aux_lemma =>
     go_wp2
     go_loopw [8] (fun i wr => ∃ k : Nat, k ≤ n ∧ i = .int .i64 k ∧ (In w.heap.size w wr ∧ ReadsStep wr A n xs ∧ ReadsStep wr A2 m ys ∧ ReadsI wr (some ads) n (stL n xs 600 n))) (fun i _ => n - (intOf i).toNat)
     case atStart => exact ⟨0, Nat.zero_le _, rfl, f4_0, f4_1, f4_2, f4_3⟩
     case round =>
       obtain ⟨k, hk, rfl, f5_0, f5_1, f5_2, f5_3⟩ := hrel
       clear f4_0 f4_1 f4_2 f4_3
       by_cases hlt : k < n
       · skip
         obtain ⟨ad, rfl, hc0, hc1⟩ := f5_1.2 k hlt
         obtain ⟨_, ⟨⟩, hsk⟩ := f5_3.2 k hlt
         have hxk := HX.out k hlt
         (try simp only [] at hxk)
         have hp : -1000 ≤ stV n xs 600 k ∧ stV n xs 600 k ≤ 2000 := by have h1 := HSG.out k hk; have h2 := HSG.out n (Nat.le_refl _); unfold stV; omega
         rw [stL_at n xs 600 n k hlt] at hsk
         have hnx := stV_succ n xs 600 k
         have g3_ : (k : Int) < (n : Int) := by omega
         have g4_ : (0 : Int) ≤ (k : Int) := by omega
         obtain ⟨j, hj⟩ : ∃ j, k + 1 = j := ⟨_, rfl⟩
         have VJ : IntKind.i64.wrap ((k : Int) + 1) = (j : Int) := by rw [IntWalk.i64_in _ (by omega)]; omega
         by_cases hl1 : j < n
         · skip
           have g5_ : (j : Int) < (n : Int) := by omega
           have d3 : decide ((j : Int) < (n : Int)) = true := decide_eq_true g5_
           have g6_ : (0 : Int) ≤ (j : Int) := by omega
           obtain ⟨_, ⟨⟩, hsj⟩ := f5_3.2 j hl1
           rw [stL_at n xs 600 n j hl1, ← hj, hnx, hj] at hsj
           generalize (xs.getD k ⟨0, 0⟩).f0 = u0 at *
           generalize (xs.getD k ⟨0, 0⟩).f1 = u1 at *
           generalize stV n xs 600 k = p at *
           obtain ⟨nx, hnx2⟩ : ∃ y, p + u0 + u1 = y := ⟨_, rfl⟩
           rw [hnx2] at hsj
           have V2 : IntKind.i64.wrap (p + u0) = p + u0 := by rw [IntWalk.i64_in _ (by omega)]
           have V3 : IntKind.i64.wrap (p + u0 + u1) = nx := by rw [IntWalk.i64_in _ (by omega)]; omega
           clear hnx2 hnx
           go_wp2
           refine wp_region_S (C := (fun w' => In w.heap.size w w' ∧ ReadsStep w' (some ad) n xs ∧ ReadsStep w' A2 m ys ∧ ReadsI w' (some ads) n (stL n xs 600 n) ∧ w'.cell? (ad.add (k * 2)) = some (.int .i64 u0) ∧ w'.cell? ⟨(ad.add (k * 2)).block, (ad.add (k * 2)).off + 1, none⟩ = some (.int .i64 u1) ∧ w'.cell? (ads.add k) = some (.int .i64 p))) (by kernel_rfl) (by kernel_rfl) ?_ ?_
           · exact ⟨f5_0.drew, f5_1, f5_2, f5_3, hc0, hc1, hsk⟩
           repeat (first | go_big_quiet_skip | (go_big_quiet_want; first | (refine quiet_ex ?_; apply Exists.intro; refine ⟨fun W hW => ?_, ?_⟩; (· (obtain ⟨f6_0, f6_1, f6_2, f6_3, f6_4, f6_5, f6_6⟩ := hW; go_simp; (first | done | with_reducible rfl | rfl))); simp only [Act.put, List.setIfInBounds_toArray, List.set_cons_zero, List.set_cons_succ]; go_big_quiet_on) | (refine quiet_ex ?_; apply Exists.intro; refine ⟨fun W hW => ?_, ?_⟩; (· (go_simp; first | (fail))); simp only [Act.put, List.setIfInBounds_toArray, List.set_cons_zero, List.set_cons_succ]; go_big_quiet_on)))
           refine wpQuiet_nil ?_
           rintro w' ⟨f6_0, f6_1, f6_2, f6_3, f6_4, f6_5, f6_6⟩
           clear f5_0 f5_1 f5_2 f5_3 hc0 hc1 hsk
           obtain ⟨u1_, hx9⟩ : ∃ x, x = w' := ⟨_, rfl⟩
           subst hx9
           clear V2 V3
           go_wp2
           go_roundw
           case rel => exact ⟨k + 1, by omega, by go_num, f6_0, f6_1, f6_2, f6_3⟩
           case measure => simp [intOf]; omega
         · skip
           have hjn : j = n := by omega
           have d3 : decide ((j : Int) < (n : Int)) = false := decide_eq_false (by omega)
           have g5_ : ¬ ((j : Int) < (n : Int)) := by omega
           rw [hj, hjn, stV_end] at hnx
           generalize (xs.getD k ⟨0, 0⟩).f0 = u0 at *
           generalize (xs.getD k ⟨0, 0⟩).f1 = u1 at *
           generalize stV n xs 600 k = p at *
           have V2 : IntKind.i64.wrap (p + u0) = p + u0 := by rw [IntWalk.i64_in _ (by omega)]
           have V3 : IntKind.i64.wrap (p + u0 + u1) = 600 := by rw [IntWalk.i64_in _ (by omega)]; omega
           clear hnx hjn
           go_wp2
           refine wp_region_S (C := (fun w' => In w.heap.size w w' ∧ ReadsStep w' (some ad) n xs ∧ ReadsStep w' A2 m ys ∧ ReadsI w' (some ads) n (stL n xs 600 n) ∧ w'.cell? (ad.add (k * 2)) = some (.int .i64 u0) ∧ w'.cell? ⟨(ad.add (k * 2)).block, (ad.add (k * 2)).off + 1, none⟩ = some (.int .i64 u1) ∧ w'.cell? (ads.add k) = some (.int .i64 p))) (by kernel_rfl) (by kernel_rfl) ?_ ?_
           · exact ⟨f5_0.drew, f5_1, f5_2, f5_3, hc0, hc1, hsk⟩
           repeat (first | go_big_quiet_skip | (go_big_quiet_want; first | (refine quiet_ex ?_; apply Exists.intro; refine ⟨fun W hW => ?_, ?_⟩; (· (obtain ⟨f6_0, f6_1, f6_2, f6_3, f6_4, f6_5, f6_6⟩ := hW; go_simp; (first | done | with_reducible rfl | rfl))); simp only [Act.put, List.setIfInBounds_toArray, List.set_cons_zero, List.set_cons_succ]; go_big_quiet_on) | (refine quiet_ex ?_; apply Exists.intro; refine ⟨fun W hW => ?_, ?_⟩; (· (go_simp; first | (fail))); simp only [Act.put, List.setIfInBounds_toArray, List.set_cons_zero, List.set_cons_succ]; go_big_quiet_on)))
           refine wpQuiet_nil ?_
           rintro w' ⟨f6_0, f6_1, f6_2, f6_3, f6_4, f6_5, f6_6⟩
           clear f5_0 f5_1 f5_2 f5_3 hc0 hc1 hsk
           obtain ⟨u1_, hx9⟩ : ∃ x, x = w' := ⟨_, rfl⟩
           subst hx9
           clear V2 V3
           go_wp2
           go_roundw
           case rel => exact ⟨k + 1, by omega, by go_num, f6_0, f6_1, f6_2, f6_3⟩
           case measure => simp [intOf]; omega
       · skip
         obtain rfl : n = k := by omega
         go_wp2_with fail
         refine (HA0.out _ f5_0).mono ?_
         rintro e w' ⟨rfl, rfl⟩
         clear HA0
         go_wp2_with fail
         refine (HC1.out _ f5_1 f5_2).mono ?_
         rintro _ w6 ⟨rfl, hb6⟩
         have f6_0 : In w.heap.size w w6 := f5_0.step hb6
         have f6_1 : ReadsStep w6 A n xs := f5_1.step hb6
         have f6_2 : ReadsStep w6 A2 m ys := f5_2.step hb6
         have f6_3 : ReadsI w6 (some ads) n (stL n xs 600 n) := f5_3.step hb6
         clear f5_0 f5_1 f5_2 f5_3
         clear hb6
         clear HC1 VQ
         go_wp2_with fail
         refine (HLS.out _ f6_1 f6_2).mono ?_
         rintro _ w7 ⟨rfl, hb7⟩
         have f7_0 : In w.heap.size w w7 := f6_0.step hb7
         have f7_1 : ReadsStep w7 A n xs := f6_1.step hb7
         have f7_2 : ReadsStep w7 A2 m ys := f6_2.step hb7
         have f7_3 : ReadsI w7 (some ads) n (stL n xs 600 n) := f6_3.step hb7
         clear f6_0 f6_1 f6_2 f6_3
         clear hb7
         clear HLS
         clear f7_3
         go_wp2
         go_loopw [13, 14] (fun v i wr => ∃ k : Nat, k ≤ n ∧ i = .int .i64 k ∧ v = .int .i64 (sumTo (minF xs) k) ∧ (In w.heap.size w wr ∧ ReadsStep wr A n xs ∧ ReadsStep wr A2 m ys)) (fun _ i _ => n - (intOf i).toNat)
         case atStart => exact ⟨0, Nat.zero_le _, rfl, rfl, f7_0, f7_1, f7_2⟩
         case round =>
           obtain ⟨k, hk, rfl, rfl, f8_0, f8_1, f8_2⟩ := hrel
           clear f7_0 f7_1 f7_2
           by_cases hlt : k < n
           · skip
             obtain ⟨ad, rfl, hc0, hc1⟩ := f8_1.2 k hlt
             have hxk := HX.out k hlt
             (try simp only [] at hxk)
             have hmi := HMI.out k hk
             have HS1 := Lib.hid (show sumTo (minF xs) (k + 1) = sumTo (minF xs) k + (xs.getD k ⟨0, 0⟩).f0 from rfl)
             generalize (xs.getD k ⟨0, 0⟩).f0 = u0 at *
             generalize sumTo (minF xs) k = a9 at *
             have V2 : IntKind.i64.wrap (a9 + u0) = a9 + u0 := by rw [IntWalk.i64_in _ (by omega)]
             have V22 : wrap64 (a9 + u0) = a9 + u0 := w64 ⟨by omega, by omega⟩
             have g3_ : (k : Int) < (n : Int) := by omega
             have g4_ : (0 : Int) ≤ (k : Int) := by omega
             clear hc1
             go_wp2
             go_roundw
             case rel => exact ⟨k + 1, by omega, by go_num, by rw [HS1.out], f8_0, f8_1, f8_2⟩
             case measure => simp [intOf]; omega
           · skip
             skip
             obtain rfl : n = k := by omega
             skip
             rw [HEM.out]
             have d0 : decide (c < 0) = false := decide_eq_false (by omega)
             have d1 : decide (all < c) = false := decide_eq_false (by omega)
             have HCL := Lib.hid (show ∀ W', In w.heap.size w W' ∧ ReadsStep W' A n xs ∧ ReadsStep W' A2 m ys → ∀ W2, Below W'.heap.size W' W2 → In w.heap.size w W2 ∧ ReadsStep W2 A n xs ∧ ReadsStep W2 A2 m ys from fun W' h W2 hb => by
               obtain ⟨g0, g1, g2⟩ := h
               exact ⟨g0.step hb, g1.step hb, g2.step hb⟩)
             iterate 27 go_step
             (try rw [List.append_eq])
             (try rw [List.append_eq])
             (repeat rw [List.cons_append])
             (repeat rw [List.nil_append])
             refine wp_region_L (C := (fun w' => In w.heap.size w w' ∧ ReadsStep w' A n xs ∧ ReadsStep w' A2 m ys)) ?_ ?_
             · exact ⟨f8_0, f8_1, f8_2⟩
             repeat (first | go_big_quiet_skip | (go_big_quiet_want; first | (refine quiet_ex ?_; apply Exists.intro; refine ⟨fun W hW => ?_, ?_⟩; (· (obtain ⟨f9_0, f9_1, f9_2⟩ := hW; go_simp; (first | done | with_reducible rfl | rfl))); simp only [Act.put, List.setIfInBounds_toArray, List.set_cons_zero, List.set_cons_succ]; go_big_quiet_on) | (refine quiet_ex ?_; apply Exists.intro; refine ⟨fun W hW => ?_, ?_⟩; (· (go_simp; first | (go_at_call 23; (with_reducible refine (HC2.out _ hW.2.1 hW.2.2).mono ?_); rintro e w2 ⟨rfl, hb2⟩; exact ⟨rfl, HCL.out _ hW _ hb2⟩) | (go_at_call 23; (with_reducible refine (HC3.out _ hW.2.1).mono ?_); rintro e w2 ⟨rfl, hb2⟩; exact ⟨rfl, HCL.out _ hW _ hb2⟩))); simp only [Act.put, List.setIfInBounds_toArray, List.set_cons_zero, List.set_cons_succ]; go_big_quiet_on)))
             refine wpQuiet_nil ?_
             rintro w' ⟨f9_0, f9_1, f9_2⟩
             clear f8_0 f8_1 f8_2
             obtain ⟨u2_, hx9⟩ : ∃ x, x = w' := ⟨_, rfl⟩
             subst hx9
             clear HC2 HC3 HCL d0 d1
             as_aux_lemma =>
              rcases Int.lt_trichotomy l 0 with hl0 | hl0 | hl0
              · skip
                have d1 : decide (0 ≤ l) = false := decide_eq_false (by omega)
                obtain ⟨u9, eu, hu, _⟩ := HG2.out hl0
                have d2 : decide (0 < u9) = true := decide_eq_true hu
                have HCA := Lib.hid (fun W (h : ReadsStep W A n xs) (h2 : ReadsStep W A2 m ys) => iWorkClash A n cp xs A2 m c2 ys 600 0 W (by unfold maxLen; omega) h (by unfold maxLen; omega) h2)
                rw [eu] at HCA
                clear eu
                clear hl0 hu
                have HCL := Lib.hid (show ∀ W', In w.heap.size w W' ∧ ReadsStep W' A n xs ∧ ReadsStep W' A2 m ys → ∀ W2, Below W'.heap.size W' W2 → In w.heap.size w W2 ∧ ReadsStep W2 A n xs ∧ ReadsStep W2 A2 m ys from fun W' h W2 hb => by
                  obtain ⟨g0, g1, g2⟩ := h
                  exact ⟨g0.step hb, g1.step hb, g2.step hb⟩)
                iterate 8 go_step
                (try rw [List.append_eq])
                (try rw [List.append_eq])
                (repeat rw [List.cons_append])
                (repeat rw [List.nil_append])
                refine wp_region_L (C := (fun w' => In w.heap.size w w' ∧ ReadsStep w' A n xs ∧ ReadsStep w' A2 m ys)) ?_ ?_
                · exact ⟨f9_0, f9_1, f9_2⟩
                repeat (first | go_big_quiet_skip | (go_big_quiet_want; first | (refine quiet_ex ?_; apply Exists.intro; refine ⟨fun W hW => ?_, ?_⟩; (· (obtain ⟨f10_0, f10_1, f10_2⟩ := hW; go_simp; (first | done | with_reducible rfl | rfl))); simp only [Act.put, List.setIfInBounds_toArray, List.set_cons_zero, List.set_cons_succ]; go_big_quiet_on) | (refine quiet_ex ?_; apply Exists.intro; refine ⟨fun W hW => ?_, ?_⟩; (· (go_simp; first | (fail))); simp only [Act.put, List.setIfInBounds_toArray, List.set_cons_zero, List.set_cons_succ]; go_big_quiet_on)))
                refine wpQuiet_nil ?_
                rintro w' ⟨f10_0, f10_1, f10_2⟩
                clear f9_0 f9_1 f9_2
                obtain ⟨u3_, hx9⟩ : ∃ x, x = w' := ⟨_, rfl⟩
                subst hx9
                clear HCL
                as_aux_lemma =>
                 have HCL := Lib.hid (show ∀ W', In w.heap.size w W' ∧ ReadsStep W' A n xs ∧ ReadsStep W' A2 m ys → ∀ W2, Below W'.heap.size W' W2 → In w.heap.size w W2 ∧ ReadsStep W2 A n xs ∧ ReadsStep W2 A2 m ys from fun W' h W2 hb => by
                   obtain ⟨g0, g1, g2⟩ := h
                   exact ⟨g0.step hb, g1.step hb, g2.step hb⟩)
                 iterate 7 go_step
                 (try rw [List.append_eq])
                 (try rw [List.append_eq])
                 (repeat rw [List.cons_append])
                 (repeat rw [List.nil_append])
                 refine wp_region_L (C := (fun w' => In w.heap.size w w' ∧ ReadsStep w' A n xs ∧ ReadsStep w' A2 m ys)) ?_ ?_
                 · exact ⟨f10_0, f10_1, f10_2⟩
                 repeat (first | go_big_quiet_skip | (go_big_quiet_want; first | (refine quiet_ex ?_; apply Exists.intro; refine ⟨fun W hW => ?_, ?_⟩; (· (obtain ⟨f11_0, f11_1, f11_2⟩ := hW; go_simp; (first | done | with_reducible rfl | rfl))); simp only [Act.put, List.setIfInBounds_toArray, List.set_cons_zero, List.set_cons_succ]; go_big_quiet_on) | (refine quiet_ex ?_; apply Exists.intro; refine ⟨fun W hW => ?_, ?_⟩; (· (go_simp; first | (go_at_call 25; (with_reducible refine (HOK.out _ hW.2.1).mono ?_); rintro e w2 ⟨rfl, hb2⟩; exact ⟨rfl, HCL.out _ hW _ hb2⟩) | (go_at_call 23; (with_reducible refine (HCA.out _ hW.2.1 hW.2.2).mono ?_); rintro e w2 ⟨rfl, hb2⟩; exact ⟨rfl, HCL.out _ hW _ hb2⟩))); simp only [Act.put, List.setIfInBounds_toArray, List.set_cons_zero, List.set_cons_succ]; go_big_quiet_on)))
                 refine wpQuiet_nil ?_
                 rintro w' ⟨f11_0, f11_1, f11_2⟩
                 clear f10_0 f10_1 f10_2
                 go_wp2
                 go_ret
                 exact ⟨ret_bool rfl, f11_0.below⟩
              · skip
                have d1 : decide (0 ≤ l) = true := decide_eq_true (by omega)
                have d2 : decide (600 < l) = false := decide_eq_false (by omega)
                have e0 := HG0.out (by omega)
                have V1 : IntKind.i64.wrap (600 - l) = 600 - l := by rw [IntWalk.i64_in _ (by omega)]
                have d3 : decide (0 < l) = false := decide_eq_false (by omega)
                have HCA := Lib.hid (fun W (h : ReadsStep W A n xs) (h2 : ReadsStep W A2 m ys) => iWorkClash A n cp xs A2 m c2 ys 600 (600 - l) W (by unfold maxLen; omega) h (by unfold maxLen; omega) h2)
                rw [e0] at HCA
                clear e0
                clear hl0
                have HCL := Lib.hid (show ∀ W', In w.heap.size w W' ∧ ReadsStep W' A n xs ∧ ReadsStep W' A2 m ys → ∀ W2, Below W'.heap.size W' W2 → In w.heap.size w W2 ∧ ReadsStep W2 A n xs ∧ ReadsStep W2 A2 m ys from fun W' h W2 hb => by
                  obtain ⟨g0, g1, g2⟩ := h
                  exact ⟨g0.step hb, g1.step hb, g2.step hb⟩)
                iterate 8 go_step
                (try rw [List.append_eq])
                (try rw [List.append_eq])
                (repeat rw [List.cons_append])
                (repeat rw [List.nil_append])
                refine wp_region_L (C := (fun w' => In w.heap.size w w' ∧ ReadsStep w' A n xs ∧ ReadsStep w' A2 m ys)) ?_ ?_
                · exact ⟨f9_0, f9_1, f9_2⟩
                repeat (first | go_big_quiet_skip | (go_big_quiet_want; first | (refine quiet_ex ?_; apply Exists.intro; refine ⟨fun W hW => ?_, ?_⟩; (· (obtain ⟨f10_0, f10_1, f10_2⟩ := hW; go_simp; (first | done | with_reducible rfl | rfl))); simp only [Act.put, List.setIfInBounds_toArray, List.set_cons_zero, List.set_cons_succ]; go_big_quiet_on) | (refine quiet_ex ?_; apply Exists.intro; refine ⟨fun W hW => ?_, ?_⟩; (· (go_simp; first | (go_at_call 23; (with_reducible refine (HCA.out _ hW.2.1 hW.2.2).mono ?_); rintro e w2 ⟨rfl, hb2⟩; exact ⟨rfl, HCL.out _ hW _ hb2⟩))); simp only [Act.put, List.setIfInBounds_toArray, List.set_cons_zero, List.set_cons_succ]; go_big_quiet_on)))
                refine wpQuiet_nil ?_
                rintro w' ⟨f10_0, f10_1, f10_2⟩
                clear f9_0 f9_1 f9_2
                obtain ⟨u3_, hx9⟩ : ∃ x, x = w' := ⟨_, rfl⟩
                subst hx9
                clear HCL
                as_aux_lemma =>
                 have HCL := Lib.hid (show ∀ W', In w.heap.size w W' ∧ ReadsStep W' A n xs ∧ ReadsStep W' A2 m ys → ∀ W2, Below W'.heap.size W' W2 → In w.heap.size w W2 ∧ ReadsStep W2 A n xs ∧ ReadsStep W2 A2 m ys from fun W' h W2 hb => by
                   obtain ⟨g0, g1, g2⟩ := h
                   exact ⟨g0.step hb, g1.step hb, g2.step hb⟩)
                 iterate 7 go_step
                 (try rw [List.append_eq])
                 (try rw [List.append_eq])
                 (repeat rw [List.cons_append])
                 (repeat rw [List.nil_append])
                 refine wp_region_L (C := (fun w' => In w.heap.size w w' ∧ ReadsStep w' A n xs ∧ ReadsStep w' A2 m ys)) ?_ ?_
                 · exact ⟨f10_0, f10_1, f10_2⟩
                 repeat (first | go_big_quiet_skip | (go_big_quiet_want; first | (refine quiet_ex ?_; apply Exists.intro; refine ⟨fun W hW => ?_, ?_⟩; (· (obtain ⟨f11_0, f11_1, f11_2⟩ := hW; go_simp; (first | done | with_reducible rfl | rfl))); simp only [Act.put, List.setIfInBounds_toArray, List.set_cons_zero, List.set_cons_succ]; go_big_quiet_on) | (refine quiet_ex ?_; apply Exists.intro; refine ⟨fun W hW => ?_, ?_⟩; (· (go_simp; first | (go_at_call 25; (with_reducible refine (HOK.out _ hW.2.1).mono ?_); rintro e w2 ⟨rfl, hb2⟩; exact ⟨rfl, HCL.out _ hW _ hb2⟩))); simp only [Act.put, List.setIfInBounds_toArray, List.set_cons_zero, List.set_cons_succ]; go_big_quiet_on)))
                 refine wpQuiet_nil ?_
                 rintro w' ⟨f11_0, f11_1, f11_2⟩
                 clear f10_0 f10_1 f10_2
                 go_wp2
                 go_ret
                 exact ⟨ret_bool rfl, f11_0.below⟩
              · skip
                have d1 : decide (0 ≤ l) = true := decide_eq_true (by omega)
                have d2 : decide (600 < l) = false := decide_eq_false (by omega)
                have e0 := HG0.out (by omega)
                have V1 : IntKind.i64.wrap (600 - l) = 600 - l := by rw [IntWalk.i64_in _ (by omega)]
                have d3 : decide (0 < l) = true := decide_eq_true hl0
                obtain ⟨u9, eu, hu, _⟩ := HG1.out hl0
                have V2 : IntKind.i64.wrap (600 - l + 1) = 600 - l + 1 := by rw [IntWalk.i64_in _ (by omega)]
                have d4 : ¬ (u9 = 0) := by omega
                have d5 : (u9 == 0) = false := by simpa using d4
                have HCA := Lib.hid (fun W (h : ReadsStep W A n xs) (h2 : ReadsStep W A2 m ys) => iWorkClash A n cp xs A2 m c2 ys 600 (600 - l) W (by unfold maxLen; omega) h (by unfold maxLen; omega) h2)
                rw [e0] at HCA
                clear e0
                have HCB := Lib.hid (fun W (h : ReadsStep W A n xs) (h2 : ReadsStep W A2 m ys) => iWorkClash A n cp xs A2 m c2 ys 600 (600 - l + 1) W (by unfold maxLen; omega) h (by unfold maxLen; omega) h2)
                rw [eu] at HCB
                clear eu
                clear hl0 hu
                have HCL := Lib.hid (show ∀ W', In w.heap.size w W' ∧ ReadsStep W' A n xs ∧ ReadsStep W' A2 m ys → ∀ W2, Below W'.heap.size W' W2 → In w.heap.size w W2 ∧ ReadsStep W2 A n xs ∧ ReadsStep W2 A2 m ys from fun W' h W2 hb => by
                  obtain ⟨g0, g1, g2⟩ := h
                  exact ⟨g0.step hb, g1.step hb, g2.step hb⟩)
                iterate 8 go_step
                (try rw [List.append_eq])
                (try rw [List.append_eq])
                (repeat rw [List.cons_append])
                (repeat rw [List.nil_append])
                refine wp_region_L (C := (fun w' => In w.heap.size w w' ∧ ReadsStep w' A n xs ∧ ReadsStep w' A2 m ys)) ?_ ?_
                · exact ⟨f9_0, f9_1, f9_2⟩
                repeat (first | go_big_quiet_skip | (go_big_quiet_want; first | (refine quiet_ex ?_; apply Exists.intro; refine ⟨fun W hW => ?_, ?_⟩; (· (obtain ⟨f10_0, f10_1, f10_2⟩ := hW; go_simp; (first | done | with_reducible rfl | rfl))); simp only [Act.put, List.setIfInBounds_toArray, List.set_cons_zero, List.set_cons_succ]; go_big_quiet_on) | (refine quiet_ex ?_; apply Exists.intro; refine ⟨fun W hW => ?_, ?_⟩; (· (go_simp; first | (go_at_call 23; (with_reducible refine (HCA.out _ hW.2.1 hW.2.2).mono ?_); rintro e w2 ⟨rfl, hb2⟩; exact ⟨rfl, HCL.out _ hW _ hb2⟩) | (go_at_call 23; (with_reducible refine (HCB.out _ hW.2.1 hW.2.2).mono ?_); rintro e w2 ⟨rfl, hb2⟩; exact ⟨rfl, HCL.out _ hW _ hb2⟩))); simp only [Act.put, List.setIfInBounds_toArray, List.set_cons_zero, List.set_cons_succ]; go_big_quiet_on)))
                refine wpQuiet_nil ?_
                rintro w' ⟨f10_0, f10_1, f10_2⟩
                clear f9_0 f9_1 f9_2
                obtain ⟨u3_, hx9⟩ : ∃ x, x = w' := ⟨_, rfl⟩
                subst hx9
                clear HCL
                as_aux_lemma =>
                 have HCL := Lib.hid (show ∀ W', In w.heap.size w W' ∧ ReadsStep W' A n xs ∧ ReadsStep W' A2 m ys → ∀ W2, Below W'.heap.size W' W2 → In w.heap.size w W2 ∧ ReadsStep W2 A n xs ∧ ReadsStep W2 A2 m ys from fun W' h W2 hb => by
                   obtain ⟨g0, g1, g2⟩ := h
                   exact ⟨g0.step hb, g1.step hb, g2.step hb⟩)
                 iterate 7 go_step
                 (try rw [List.append_eq])
                 (try rw [List.append_eq])
                 (repeat rw [List.cons_append])
                 (repeat rw [List.nil_append])
                 refine wp_region_L (C := (fun w' => In w.heap.size w w' ∧ ReadsStep w' A n xs ∧ ReadsStep w' A2 m ys)) ?_ ?_
                 · exact ⟨f10_0, f10_1, f10_2⟩
                 repeat (first | go_big_quiet_skip | (go_big_quiet_want; first | (refine quiet_ex ?_; apply Exists.intro; refine ⟨fun W hW => ?_, ?_⟩; (· (obtain ⟨f11_0, f11_1, f11_2⟩ := hW; go_simp; (first | done | with_reducible rfl | rfl))); simp only [Act.put, List.setIfInBounds_toArray, List.set_cons_zero, List.set_cons_succ]; go_big_quiet_on) | (refine quiet_ex ?_; apply Exists.intro; refine ⟨fun W hW => ?_, ?_⟩; (· (go_simp; first | (go_at_call 25; (with_reducible refine (HOK.out _ hW.2.1).mono ?_); rintro e w2 ⟨rfl, hb2⟩; exact ⟨rfl, HCL.out _ hW _ hb2⟩))); simp only [Act.put, List.setIfInBounds_toArray, List.set_cons_zero, List.set_cons_succ]; go_big_quiet_on)))
                 refine wpQuiet_nil ?_
                 rintro w' ⟨f11_0, f11_1, f11_2⟩
                 clear f10_0 f10_1 f10_2
                 go_wp2
                 go_ret
                 exact ⟨ret_bool rfl, f11_0.below⟩
  · skip
    have hn00 : n = 0 := by omega
    have d1 : decide ((0 : Int) < (n : Int)) = false := decide_eq_false (by omega)
    have d2 : decide (0 < n) = false := decide_eq_false (by omega)
    have HN0 := Lib.hid hn00
    clear hn00 hn0
    simp only []
    iterate 9 go_step
    (try rw [List.append_eq])
    (try rw [List.append_eq])
    (repeat rw [List.cons_append])
    (repeat rw [List.nil_append])
    refine wp_region_L (C := (fun w' => In w.heap.size w w' ∧ ReadsStep w' A n xs ∧ ReadsStep w' A2 m ys ∧ ReadsI w' As n (stL n xs 600 n))) ?_ ?_
    · exact ⟨f3_0, f3_1, f3_2, f3_3⟩
    repeat (first | go_big_quiet_skip | (go_big_quiet_want; first | (refine quiet_ex ?_; apply Exists.intro; refine ⟨fun W hW => ?_, ?_⟩; (· (obtain ⟨f4_0, f4_1, f4_2, f4_3⟩ := hW; go_simp; (first | done | with_reducible rfl | rfl))); simp only [Act.put, List.setIfInBounds_toArray, List.set_cons_zero, List.set_cons_succ]; go_big_quiet_on) | (refine quiet_ex ?_; apply Exists.intro; refine ⟨fun W hW => ?_, ?_⟩; (· (go_simp; first | (fail))); simp only [Act.put, List.setIfInBounds_toArray, List.set_cons_zero, List.set_cons_succ]; go_big_quiet_on)))
    refine wpQuiet_nil ?_
    rintro w' ⟨f4_0, f4_1, f4_2, f4_3⟩
    clear f3_0 f3_1 f3_2 f3_3
    obtain ⟨u0_, hx9⟩ : ∃ x, x = w' := ⟨_, rfl⟩
    subst hx9
    clear d0 d1 d2
    as_aux_lemma =>
     go_wp2
     go_loopw [8] (fun i wr => ∃ k : Nat, k ≤ n ∧ i = .int .i64 k ∧ (In w.heap.size w wr ∧ ReadsStep wr A n xs ∧ ReadsStep wr A2 m ys ∧ ReadsI wr As n (stL n xs 600 n))) (fun i _ => n - (intOf i).toNat)
     case atStart => exact ⟨0, Nat.zero_le _, rfl, f4_0, f4_1, f4_2, f4_3⟩
     case round =>
       obtain ⟨k, hk, rfl, f5_0, f5_1, f5_2, f5_3⟩ := hrel
       clear f4_0 f4_1 f4_2 f4_3
       have hn9 := HN0.out
       obtain rfl : n = k := by omega
       clear hn9
       go_wp2_with fail
       refine (HA0.out _ f5_0).mono ?_
       rintro e w' ⟨rfl, rfl⟩
       clear HA0
       go_wp2_with fail
       refine (HC1.out _ f5_1 f5_2).mono ?_
       rintro _ w6 ⟨rfl, hb6⟩
       have f6_0 : In w.heap.size w w6 := f5_0.step hb6
       have f6_1 : ReadsStep w6 A n xs := f5_1.step hb6
       have f6_2 : ReadsStep w6 A2 m ys := f5_2.step hb6
       have f6_3 : ReadsI w6 As n (stL n xs 600 n) := f5_3.step hb6
       clear f5_0 f5_1 f5_2 f5_3
       clear hb6
       clear HC1 VQ
       go_wp2_with fail
       refine (HLS.out _ f6_1 f6_2).mono ?_
       rintro _ w7 ⟨rfl, hb7⟩
       have f7_0 : In w.heap.size w w7 := f6_0.step hb7
       have f7_1 : ReadsStep w7 A n xs := f6_1.step hb7
       have f7_2 : ReadsStep w7 A2 m ys := f6_2.step hb7
       have f7_3 : ReadsI w7 As n (stL n xs 600 n) := f6_3.step hb7
       clear f6_0 f6_1 f6_2 f6_3
       clear hb7
       clear HLS
       clear f7_3
       go_wp2
       go_loopw [13, 14] (fun v i wr => ∃ k : Nat, k ≤ n ∧ i = .int .i64 k ∧ v = .int .i64 (sumTo (minF xs) k) ∧ (In w.heap.size w wr ∧ ReadsStep wr A n xs ∧ ReadsStep wr A2 m ys)) (fun _ i _ => n - (intOf i).toNat)
       case atStart => exact ⟨0, Nat.zero_le _, rfl, rfl, f7_0, f7_1, f7_2⟩
       case round =>
         obtain ⟨k, hk, rfl, rfl, f8_0, f8_1, f8_2⟩ := hrel
         clear f7_0 f7_1 f7_2
         have hn9 := HN0.out
         obtain rfl : n = k := by omega
         clear hn9
         rw [HEM.out]
         have d0 : decide (c < 0) = false := decide_eq_false (by omega)
         have d1 : decide (all < c) = false := decide_eq_false (by omega)
         have HCL := Lib.hid (show ∀ W', In w.heap.size w W' ∧ ReadsStep W' A n xs ∧ ReadsStep W' A2 m ys → ∀ W2, Below W'.heap.size W' W2 → In w.heap.size w W2 ∧ ReadsStep W2 A n xs ∧ ReadsStep W2 A2 m ys from fun W' h W2 hb => by
           obtain ⟨g0, g1, g2⟩ := h
           exact ⟨g0.step hb, g1.step hb, g2.step hb⟩)
         iterate 27 go_step
         (try rw [List.append_eq])
         (try rw [List.append_eq])
         (repeat rw [List.cons_append])
         (repeat rw [List.nil_append])
         refine wp_region_L (C := (fun w' => In w.heap.size w w' ∧ ReadsStep w' A n xs ∧ ReadsStep w' A2 m ys)) ?_ ?_
         · exact ⟨f8_0, f8_1, f8_2⟩
         repeat (first | go_big_quiet_skip | (go_big_quiet_want; first | (refine quiet_ex ?_; apply Exists.intro; refine ⟨fun W hW => ?_, ?_⟩; (· (obtain ⟨f9_0, f9_1, f9_2⟩ := hW; go_simp; (first | done | with_reducible rfl | rfl))); simp only [Act.put, List.setIfInBounds_toArray, List.set_cons_zero, List.set_cons_succ]; go_big_quiet_on) | (refine quiet_ex ?_; apply Exists.intro; refine ⟨fun W hW => ?_, ?_⟩; (· (go_simp; first | (go_at_call 23; (with_reducible refine (HC2.out _ hW.2.1 hW.2.2).mono ?_); rintro e w2 ⟨rfl, hb2⟩; exact ⟨rfl, HCL.out _ hW _ hb2⟩) | (go_at_call 23; (with_reducible refine (HC3.out _ hW.2.1).mono ?_); rintro e w2 ⟨rfl, hb2⟩; exact ⟨rfl, HCL.out _ hW _ hb2⟩))); simp only [Act.put, List.setIfInBounds_toArray, List.set_cons_zero, List.set_cons_succ]; go_big_quiet_on)))
         refine wpQuiet_nil ?_
         rintro w' ⟨f9_0, f9_1, f9_2⟩
         clear f8_0 f8_1 f8_2
         obtain ⟨u2_, hx9⟩ : ∃ x, x = w' := ⟨_, rfl⟩
         subst hx9
         clear HC2 HC3 HCL d0 d1
         as_aux_lemma =>
          rcases Int.lt_trichotomy l 0 with hl0 | hl0 | hl0
          · skip
            have d1 : decide (0 ≤ l) = false := decide_eq_false (by omega)
            obtain ⟨u9, eu, hu, _⟩ := HG2.out hl0
            have d2 : decide (0 < u9) = true := decide_eq_true hu
            have HCA := Lib.hid (fun W (h : ReadsStep W A n xs) (h2 : ReadsStep W A2 m ys) => iWorkClash A n cp xs A2 m c2 ys 600 0 W (by unfold maxLen; omega) h (by unfold maxLen; omega) h2)
            rw [eu] at HCA
            clear eu
            clear hl0 hu
            have HCL := Lib.hid (show ∀ W', In w.heap.size w W' ∧ ReadsStep W' A n xs ∧ ReadsStep W' A2 m ys → ∀ W2, Below W'.heap.size W' W2 → In w.heap.size w W2 ∧ ReadsStep W2 A n xs ∧ ReadsStep W2 A2 m ys from fun W' h W2 hb => by
              obtain ⟨g0, g1, g2⟩ := h
              exact ⟨g0.step hb, g1.step hb, g2.step hb⟩)
            iterate 8 go_step
            (try rw [List.append_eq])
            (try rw [List.append_eq])
            (repeat rw [List.cons_append])
            (repeat rw [List.nil_append])
            refine wp_region_L (C := (fun w' => In w.heap.size w w' ∧ ReadsStep w' A n xs ∧ ReadsStep w' A2 m ys)) ?_ ?_
            · exact ⟨f9_0, f9_1, f9_2⟩
            repeat (first | go_big_quiet_skip | (go_big_quiet_want; first | (refine quiet_ex ?_; apply Exists.intro; refine ⟨fun W hW => ?_, ?_⟩; (· (obtain ⟨f10_0, f10_1, f10_2⟩ := hW; go_simp; (first | done | with_reducible rfl | rfl))); simp only [Act.put, List.setIfInBounds_toArray, List.set_cons_zero, List.set_cons_succ]; go_big_quiet_on) | (refine quiet_ex ?_; apply Exists.intro; refine ⟨fun W hW => ?_, ?_⟩; (· (go_simp; first | (fail))); simp only [Act.put, List.setIfInBounds_toArray, List.set_cons_zero, List.set_cons_succ]; go_big_quiet_on)))
            refine wpQuiet_nil ?_
            rintro w' ⟨f10_0, f10_1, f10_2⟩
            clear f9_0 f9_1 f9_2
            obtain ⟨u3_, hx9⟩ : ∃ x, x = w' := ⟨_, rfl⟩
            subst hx9
            clear HCL
            as_aux_lemma =>
             have HCL := Lib.hid (show ∀ W', In w.heap.size w W' ∧ ReadsStep W' A n xs ∧ ReadsStep W' A2 m ys → ∀ W2, Below W'.heap.size W' W2 → In w.heap.size w W2 ∧ ReadsStep W2 A n xs ∧ ReadsStep W2 A2 m ys from fun W' h W2 hb => by
               obtain ⟨g0, g1, g2⟩ := h
               exact ⟨g0.step hb, g1.step hb, g2.step hb⟩)
             iterate 7 go_step
             (try rw [List.append_eq])
             (try rw [List.append_eq])
             (repeat rw [List.cons_append])
             (repeat rw [List.nil_append])
             refine wp_region_L (C := (fun w' => In w.heap.size w w' ∧ ReadsStep w' A n xs ∧ ReadsStep w' A2 m ys)) ?_ ?_
             · exact ⟨f10_0, f10_1, f10_2⟩
             repeat (first | go_big_quiet_skip | (go_big_quiet_want; first | (refine quiet_ex ?_; apply Exists.intro; refine ⟨fun W hW => ?_, ?_⟩; (· (obtain ⟨f11_0, f11_1, f11_2⟩ := hW; go_simp; (first | done | with_reducible rfl | rfl))); simp only [Act.put, List.setIfInBounds_toArray, List.set_cons_zero, List.set_cons_succ]; go_big_quiet_on) | (refine quiet_ex ?_; apply Exists.intro; refine ⟨fun W hW => ?_, ?_⟩; (· (go_simp; first | (go_at_call 25; (with_reducible refine (HOK.out _ hW.2.1).mono ?_); rintro e w2 ⟨rfl, hb2⟩; exact ⟨rfl, HCL.out _ hW _ hb2⟩) | (go_at_call 23; (with_reducible refine (HCA.out _ hW.2.1 hW.2.2).mono ?_); rintro e w2 ⟨rfl, hb2⟩; exact ⟨rfl, HCL.out _ hW _ hb2⟩))); simp only [Act.put, List.setIfInBounds_toArray, List.set_cons_zero, List.set_cons_succ]; go_big_quiet_on)))
             refine wpQuiet_nil ?_
             rintro w' ⟨f11_0, f11_1, f11_2⟩
             clear f10_0 f10_1 f10_2
             go_wp2
             go_ret
             exact ⟨ret_bool rfl, f11_0.below⟩
          · skip
            have d1 : decide (0 ≤ l) = true := decide_eq_true (by omega)
            have d2 : decide (600 < l) = false := decide_eq_false (by omega)
            have e0 := HG0.out (by omega)
            have V1 : IntKind.i64.wrap (600 - l) = 600 - l := by rw [IntWalk.i64_in _ (by omega)]
            have d3 : decide (0 < l) = false := decide_eq_false (by omega)
            have HCA := Lib.hid (fun W (h : ReadsStep W A n xs) (h2 : ReadsStep W A2 m ys) => iWorkClash A n cp xs A2 m c2 ys 600 (600 - l) W (by unfold maxLen; omega) h (by unfold maxLen; omega) h2)
            rw [e0] at HCA
            clear e0
            clear hl0
            have HCL := Lib.hid (show ∀ W', In w.heap.size w W' ∧ ReadsStep W' A n xs ∧ ReadsStep W' A2 m ys → ∀ W2, Below W'.heap.size W' W2 → In w.heap.size w W2 ∧ ReadsStep W2 A n xs ∧ ReadsStep W2 A2 m ys from fun W' h W2 hb => by
              obtain ⟨g0, g1, g2⟩ := h
              exact ⟨g0.step hb, g1.step hb, g2.step hb⟩)
            iterate 8 go_step
            (try rw [List.append_eq])
            (try rw [List.append_eq])
            (repeat rw [List.cons_append])
            (repeat rw [List.nil_append])
            refine wp_region_L (C := (fun w' => In w.heap.size w w' ∧ ReadsStep w' A n xs ∧ ReadsStep w' A2 m ys)) ?_ ?_
            · exact ⟨f9_0, f9_1, f9_2⟩
            repeat (first | go_big_quiet_skip | (go_big_quiet_want; first | (refine quiet_ex ?_; apply Exists.intro; refine ⟨fun W hW => ?_, ?_⟩; (· (obtain ⟨f10_0, f10_1, f10_2⟩ := hW; go_simp; (first | done | with_reducible rfl | rfl))); simp only [Act.put, List.setIfInBounds_toArray, List.set_cons_zero, List.set_cons_succ]; go_big_quiet_on) | (refine quiet_ex ?_; apply Exists.intro; refine ⟨fun W hW => ?_, ?_⟩; (· (go_simp; first | (go_at_call 23; (with_reducible refine (HCA.out _ hW.2.1 hW.2.2).mono ?_); rintro e w2 ⟨rfl, hb2⟩; exact ⟨rfl, HCL.out _ hW _ hb2⟩))); simp only [Act.put, List.setIfInBounds_toArray, List.set_cons_zero, List.set_cons_succ]; go_big_quiet_on)))
            refine wpQuiet_nil ?_
            rintro w' ⟨f10_0, f10_1, f10_2⟩
            clear f9_0 f9_1 f9_2
            obtain ⟨u3_, hx9⟩ : ∃ x, x = w' := ⟨_, rfl⟩
            subst hx9
            clear HCL
            as_aux_lemma =>
             have HCL := Lib.hid (show ∀ W', In w.heap.size w W' ∧ ReadsStep W' A n xs ∧ ReadsStep W' A2 m ys → ∀ W2, Below W'.heap.size W' W2 → In w.heap.size w W2 ∧ ReadsStep W2 A n xs ∧ ReadsStep W2 A2 m ys from fun W' h W2 hb => by
               obtain ⟨g0, g1, g2⟩ := h
               exact ⟨g0.step hb, g1.step hb, g2.step hb⟩)
             iterate 7 go_step
             (try rw [List.append_eq])
             (try rw [List.append_eq])
             (repeat rw [List.cons_append])
             (repeat rw [List.nil_append])
             refine wp_region_L (C := (fun w' => In w.heap.size w w' ∧ ReadsStep w' A n xs ∧ ReadsStep w' A2 m ys)) ?_ ?_
             · exact ⟨f10_0, f10_1, f10_2⟩
             repeat (first | go_big_quiet_skip | (go_big_quiet_want; first | (refine quiet_ex ?_; apply Exists.intro; refine ⟨fun W hW => ?_, ?_⟩; (· (obtain ⟨f11_0, f11_1, f11_2⟩ := hW; go_simp; (first | done | with_reducible rfl | rfl))); simp only [Act.put, List.setIfInBounds_toArray, List.set_cons_zero, List.set_cons_succ]; go_big_quiet_on) | (refine quiet_ex ?_; apply Exists.intro; refine ⟨fun W hW => ?_, ?_⟩; (· (go_simp; first | (go_at_call 25; (with_reducible refine (HOK.out _ hW.2.1).mono ?_); rintro e w2 ⟨rfl, hb2⟩; exact ⟨rfl, HCL.out _ hW _ hb2⟩))); simp only [Act.put, List.setIfInBounds_toArray, List.set_cons_zero, List.set_cons_succ]; go_big_quiet_on)))
             refine wpQuiet_nil ?_
             rintro w' ⟨f11_0, f11_1, f11_2⟩
             clear f10_0 f10_1 f10_2
             go_wp2
             go_ret
             exact ⟨ret_bool rfl, f11_0.below⟩
          · skip
            have d1 : decide (0 ≤ l) = true := decide_eq_true (by omega)
            have d2 : decide (600 < l) = false := decide_eq_false (by omega)
            have e0 := HG0.out (by omega)
            have V1 : IntKind.i64.wrap (600 - l) = 600 - l := by rw [IntWalk.i64_in _ (by omega)]
            have d3 : decide (0 < l) = true := decide_eq_true hl0
            obtain ⟨u9, eu, hu, _⟩ := HG1.out hl0
            have V2 : IntKind.i64.wrap (600 - l + 1) = 600 - l + 1 := by rw [IntWalk.i64_in _ (by omega)]
            have d4 : ¬ (u9 = 0) := by omega
            have d5 : (u9 == 0) = false := by simpa using d4
            have HCA := Lib.hid (fun W (h : ReadsStep W A n xs) (h2 : ReadsStep W A2 m ys) => iWorkClash A n cp xs A2 m c2 ys 600 (600 - l) W (by unfold maxLen; omega) h (by unfold maxLen; omega) h2)
            rw [e0] at HCA
            clear e0
            have HCB := Lib.hid (fun W (h : ReadsStep W A n xs) (h2 : ReadsStep W A2 m ys) => iWorkClash A n cp xs A2 m c2 ys 600 (600 - l + 1) W (by unfold maxLen; omega) h (by unfold maxLen; omega) h2)
            rw [eu] at HCB
            clear eu
            clear hl0 hu
            have HCL := Lib.hid (show ∀ W', In w.heap.size w W' ∧ ReadsStep W' A n xs ∧ ReadsStep W' A2 m ys → ∀ W2, Below W'.heap.size W' W2 → In w.heap.size w W2 ∧ ReadsStep W2 A n xs ∧ ReadsStep W2 A2 m ys from fun W' h W2 hb => by
              obtain ⟨g0, g1, g2⟩ := h
              exact ⟨g0.step hb, g1.step hb, g2.step hb⟩)
            iterate 8 go_step
            (try rw [List.append_eq])
            (try rw [List.append_eq])
            (repeat rw [List.cons_append])
            (repeat rw [List.nil_append])
            refine wp_region_L (C := (fun w' => In w.heap.size w w' ∧ ReadsStep w' A n xs ∧ ReadsStep w' A2 m ys)) ?_ ?_
            · exact ⟨f9_0, f9_1, f9_2⟩
            repeat (first | go_big_quiet_skip | (go_big_quiet_want; first | (refine quiet_ex ?_; apply Exists.intro; refine ⟨fun W hW => ?_, ?_⟩; (· (obtain ⟨f10_0, f10_1, f10_2⟩ := hW; go_simp; (first | done | with_reducible rfl | rfl))); simp only [Act.put, List.setIfInBounds_toArray, List.set_cons_zero, List.set_cons_succ]; go_big_quiet_on) | (refine quiet_ex ?_; apply Exists.intro; refine ⟨fun W hW => ?_, ?_⟩; (· (go_simp; first | (go_at_call 23; (with_reducible refine (HCA.out _ hW.2.1 hW.2.2).mono ?_); rintro e w2 ⟨rfl, hb2⟩; exact ⟨rfl, HCL.out _ hW _ hb2⟩) | (go_at_call 23; (with_reducible refine (HCB.out _ hW.2.1 hW.2.2).mono ?_); rintro e w2 ⟨rfl, hb2⟩; exact ⟨rfl, HCL.out _ hW _ hb2⟩))); simp only [Act.put, List.setIfInBounds_toArray, List.set_cons_zero, List.set_cons_succ]; go_big_quiet_on)))
            refine wpQuiet_nil ?_
            rintro w' ⟨f10_0, f10_1, f10_2⟩
            clear f9_0 f9_1 f9_2
            obtain ⟨u3_, hx9⟩ : ∃ x, x = w' := ⟨_, rfl⟩
            subst hx9
            clear HCL
            as_aux_lemma =>
             have HCL := Lib.hid (show ∀ W', In w.heap.size w W' ∧ ReadsStep W' A n xs ∧ ReadsStep W' A2 m ys → ∀ W2, Below W'.heap.size W' W2 → In w.heap.size w W2 ∧ ReadsStep W2 A n xs ∧ ReadsStep W2 A2 m ys from fun W' h W2 hb => by
               obtain ⟨g0, g1, g2⟩ := h
               exact ⟨g0.step hb, g1.step hb, g2.step hb⟩)
             iterate 7 go_step
             (try rw [List.append_eq])
             (try rw [List.append_eq])
             (repeat rw [List.cons_append])
             (repeat rw [List.nil_append])
             refine wp_region_L (C := (fun w' => In w.heap.size w w' ∧ ReadsStep w' A n xs ∧ ReadsStep w' A2 m ys)) ?_ ?_
             · exact ⟨f10_0, f10_1, f10_2⟩
             repeat (first | go_big_quiet_skip | (go_big_quiet_want; first | (refine quiet_ex ?_; apply Exists.intro; refine ⟨fun W hW => ?_, ?_⟩; (· (obtain ⟨f11_0, f11_1, f11_2⟩ := hW; go_simp; (first | done | with_reducible rfl | rfl))); simp only [Act.put, List.setIfInBounds_toArray, List.set_cons_zero, List.set_cons_succ]; go_big_quiet_on) | (refine quiet_ex ?_; apply Exists.intro; refine ⟨fun W hW => ?_, ?_⟩; (· (go_simp; first | (go_at_call 25; (with_reducible refine (HOK.out _ hW.2.1).mono ?_); rintro e w2 ⟨rfl, hb2⟩; exact ⟨rfl, HCL.out _ hW _ hb2⟩))); simp only [Act.put, List.setIfInBounds_toArray, List.set_cons_zero, List.set_cons_succ]; go_big_quiet_on)))
             refine wpQuiet_nil ?_
             rintro w' ⟨f11_0, f11_1, f11_2⟩
             clear f10_0 f10_1 f10_2
             go_wp2
             go_ret
             exact ⟨ret_bool rfl, f11_0.below⟩
   end Go.Proofs.Ytgjbbidcpmglbaa
