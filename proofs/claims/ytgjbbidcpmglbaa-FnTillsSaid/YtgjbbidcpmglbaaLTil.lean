/- The law FnTills. -/
import Derived.Test.YtgjbbidcpmglbaaTilP
import Derived.Test.YtgjbbidcpmglbaaQuietL
import Derived.BigQuiet
import Derived.Deep.QuietTactic
namespace Go.Proofs.Ytgjbbidcpmglbaa
open Go.ChangeShapes Go.WideShapes Go.ChangeAt Go.RowKit
set_option linter.unusedVariables false
set_option linter.unusedSimpArgs false
set_option maxHeartbeats 2000000

set_option maxHeartbeats 40000000 in
set_option maxRecDepth 20000 in
theorem walk_FnTills (a0 : Option Addr) (len0 cap0 : Nat) (z0 : List Int) (w : World) (w0 : IsRow .u8 w a0 len0 cap0 z0) :
    Calls Try.prog 3 #[.slice a0 len0 cap0] w fun e w' => e = .returned (.bool true) ∧ Below w.heap.size w w' := by
  have hb := ReadsU.of_row w0
  have hm := hb.1
  clear w0
  by_cases hbig : (1048576 : Int) < (len0 : Int)
  · go_enter Try.func3, Try.ntmps3
    go_wp2_with fail
    refine (bigU _ _ _ _ hm true (by simpa using hbig)).mono ?_
    rintro e w' ⟨rfl, rfl⟩
    go_wp2_with fail
    go_ret
    exact ⟨rfl, Below.refl _ _⟩
  have HB := Lib.hid hb
  obtain ⟨x0, h0, A0⟩ := at_all a0 len0 cap0 0 w (by omega) (by omega) hb
  have HA0 := Lib.hid A0
  clear A0
  go_enter Try.func3, Try.ntmps3
  go_wp2_with fail
  refine (bigU _ _ _ _ hm false (by simpa using hbig)).mono ?_
  rintro e w' ⟨rfl, rfl⟩
  clear hbig hm hb
  have f0_0 : In w.heap.size w w := In.refl w
  have f0_1 := HB.out
  go_wp2_with fail
  refine (DrawSlips_c _ _ _ _ (bytes_of f0_1)).mono ?_
  rintro _ w1 ⟨A, cp, n, xs, rfl, hn, hx, hrd, hnc, hb1⟩
  have f1_0 : In w.heap.size w w1 := f0_0.step hb1
  have f1_1 : ReadsSlip w1 A n xs := hrd
  clear f0_0 f0_1
  clear hb1 hrd
  obtain ⟨s, e, lo, es, hs, els, els1, el5, g1, g2, et, he, et1, ems, ee, eempty, ew⟩ := till_law hn.2 hx
  have HLS := Lib.hid (fun W (h : ReadsSlip W A n xs) => iLeastStart A n cp xs  W (by unfold maxLen; omega) h)
  rw [es] at HLS
  have HTA := Lib.hid (fun W (h : ReadsSlip W A n xs) => iTillAfter A n cp xs 500 W (by unfold maxLen; omega) h)
  rw [et] at HTA
  have HTB := Lib.hid (fun W (h : ReadsSlip W A n xs) => iTillAfter A n cp xs 501 W (by unfold maxLen; omega) h)
  rw [et1] at HTB
  have HLO := Lib.hid (fun W (h : ReadsSlip W A n xs) => iLowestTill A n cp xs s W (by unfold maxLen; omega) h)
  rw [els] at HLO
  have HL5 := Lib.hid (fun W (h : ReadsSlip W A n xs) => iLowestTill A n cp xs 500 W (by unfold maxLen; omega) h)
  rw [el5] at HL5
  have HMS := Lib.hid (fun W (h : ReadsSlip W A n xs) => iMissingMoney A n cp xs 500 (x0 * 4) W (by unfold maxLen; omega) h)
  rw [ems (x0 * 4) (by omega) (by omega)] at HMS
  have HWS := Lib.hid (fun W (h : ReadsSlip W A n xs) => iWrongSlips A n cp xs W (by unfold maxLen; omega) h)
  rw [ew] at HWS
  obtain ⟨ws, hws⟩ : ∃ ws, idxTo (wrP xs) n = ws := ⟨_, rfl⟩
  have hwl := idxTo_len (wrP xs) n
  rw [hws] at HWS eempty hwl
  have HHB := Lib.hid (fun (k : Nat) (hk : k < n) => by have := has_idx (wrP xs) n k hk; rw [hws] at this; exact this)
  have HEE := Lib.hid ee
  have HEM := Lib.hid eempty
  have HX := Lib.hid hx
  have HSI := Lib.hid (fun k (hk : k ≤ n) => sold_in (xs := xs) k fun i hi => hx i (by omega))
  clear es els el5 et et1 ems ee eempty ew hws hx
  go_wp2_with fail
  refine (HLS.out _ f1_1).mono ?_
  rintro _ w2 ⟨rfl, hb2⟩
  have f2_0 : In w.heap.size w w2 := f1_0.step hb2
  have f2_1 : ReadsSlip w2 A n xs := f1_1.step hb2
  clear f1_0 f1_1
  clear hb2
  clear HLS
  go_wp2_with fail
  refine (HWS.out _ f2_1).mono ?_
  rintro _ w3 ⟨Aw, cw, rfl, hown, hb3⟩
  have hrw : ReadsI w3 Aw ws.length ws := reads_own_i hown
  have f3_0 : In w.heap.size w w3 := f2_0.step hb3
  have f3_1 : ReadsSlip w3 A n xs := f2_1.step hb3
  have f3_2 : ReadsI w3 Aw ws.length ws := hrw
  clear f2_0 f2_1
  clear hb3 hrw hown HWS
  go_wp2_with fail
  refine (HTA.out _ f3_1).mono ?_
  rintro _ w4 ⟨rfl, hb4⟩
  have f4_0 : In w.heap.size w w4 := f3_0.step hb4
  have f4_1 : ReadsSlip w4 A n xs := f3_1.step hb4
  have f4_2 : ReadsI w4 Aw ws.length ws := f3_2.step hb4
  clear f3_0 f3_1 f3_2
  clear hb4
  clear HTA
  have HCL := Lib.hid (show ∀ W', In w.heap.size w W' ∧ ReadsSlip W' A n xs ∧ ReadsI W' Aw ws.length ws → ∀ W2, Below W'.heap.size W' W2 → In w.heap.size w W2 ∧ ReadsSlip W2 A n xs ∧ ReadsI W2 Aw ws.length ws from fun W' h W2 hb => by
    obtain ⟨g0, g1, g2⟩ := h
    exact ⟨g0.step hb, g1.step hb, g2.step hb⟩)
  have d0 : decide (s < 0) = false := decide_eq_false (by omega)
  have d1 : decide (e < lo) = false := decide_eq_false (by omega)
  have d2 : decide ((500 : Int) < lo) = false := decide_eq_false (by omega)
  by_cases hbp : 0 < s
  · skip
    have d3 : decide (0 < s) = true := decide_eq_true hbp
    have HL1 := Lib.hid (fun W (h : ReadsSlip W A n xs) => iLowestTill A n cp xs (s - 1) W (by unfold maxLen; omega) h)
    rw [els1 hbp] at HL1
    have V1 : IntKind.i64.wrap (s - 1) = s - 1 := by rw [IntWalk.i64_in _ (by omega)]
    simp only []
    iterate 9 go_step
    (try rw [List.append_eq])
    (try rw [List.append_eq])
    (repeat rw [List.cons_append])
    (repeat rw [List.nil_append])
    refine wp_region_L (C := (fun w' => In w.heap.size w w' ∧ ReadsSlip w' A n xs ∧ ReadsI w' Aw ws.length ws)) ?_ ?_
    · exact ⟨f4_0, f4_1, f4_2⟩
    repeat (first | go_big_quiet_skip | (go_big_quiet_want; first | (refine quiet_ex ?_; apply Exists.intro; refine ⟨fun W hW => ?_, ?_⟩; (· (obtain ⟨f5_0, f5_1, f5_2⟩ := hW; go_simp; (first | done | with_reducible rfl | rfl))); simp only [Act.put, List.setIfInBounds_toArray, List.set_cons_zero, List.set_cons_succ]; go_big_quiet_on) | (refine quiet_ex ?_; apply Exists.intro; refine ⟨fun W hW => ?_, ?_⟩; (· (go_simp; first | (go_at_call 15; (with_reducible refine (HLO.out _ hW.2.1).mono ?_); rintro e w2 ⟨rfl, hb2⟩; exact ⟨rfl, HCL.out _ hW _ hb2⟩) | (go_at_call 15; (with_reducible refine (HL5.out _ hW.2.1).mono ?_); rintro e w2 ⟨rfl, hb2⟩; exact ⟨rfl, HCL.out _ hW _ hb2⟩) | (go_at_call 15; (with_reducible refine (HL1.out _ hW.2.1).mono ?_); rintro e w2 ⟨rfl, hb2⟩; exact ⟨rfl, HCL.out _ hW _ hb2⟩))); simp only [Act.put, List.setIfInBounds_toArray, List.set_cons_zero, List.set_cons_succ]; go_big_quiet_on)))
    refine wpQuiet_nil ?_
    rintro w' ⟨f5_0, f5_1, f5_2⟩
    clear f4_0 f4_1 f4_2
    obtain ⟨u0_, hx9⟩ : ∃ x, x = w' := ⟨_, rfl⟩
    subst hx9
    clear d0 d1 d2 d3 HCL HLO HL5 els1 V1 HL1
    as_aux_lemma =>
     go_wp2
     go_loopw [7, 8, 9] (fun a v i wr => ∃ k : Nat, k ≤ n ∧ i = .int .i64 k ∧ a = .int .i64 (sumTo (soldF xs) k) ∧ v = .int .i64 (sumTo (difF xs) k) ∧ (In w.heap.size w wr ∧ ReadsSlip wr A n xs ∧ ReadsI wr Aw ws.length ws)) (fun _ _ i _ => n - (intOf i).toNat)
     case atStart => exact ⟨0, Nat.zero_le _, rfl, rfl, rfl, f5_0, f5_1, f5_2⟩
     case round =>
       obtain ⟨k, hk, rfl, rfl, rfl, f6_0, f6_1, f6_2⟩ := hrel
       clear f5_0 f5_1 f5_2
       by_cases hlt : k < n
       · skip
         obtain ⟨ad, rfl, hc0, hc1, hc2⟩ := f6_1.2 k hlt
         have hxk := HX.out k hlt
         (try simp only [] at hxk)
         have hsi := HSI.out k hk
         have HH := Lib.hid (fun W (h : ReadsI W Aw ws.length ws) => has_c Aw ws.length cw ws k W (by omega) h)
         rw [HHB.out k hlt] at HH
         have HS1 := Lib.hid (show sumTo (soldF xs) (k + 1) = sumTo (soldF xs) k + (xs.getD k ⟨0, 0, 0⟩).f0 from rfl)
         have HS2 := Lib.hid (show sumTo (difF xs) (k + 1) = sumTo (difF xs) k + ((xs.getD k ⟨0, 0, 0⟩).f1 - (xs.getD k ⟨0, 0, 0⟩).f2 - (xs.getD k ⟨0, 0, 0⟩).f0) from rfl)
         have HSO := Lib.hid (fun W => iSlipOk (xs.getD k ⟨0, 0, 0⟩).f0 (xs.getD k ⟨0, 0, 0⟩).f1 (xs.getD k ⟨0, 0, 0⟩).f2 W)
         rw [show wrP xs k = !slipB (xs.getD k ⟨0, 0, 0⟩).f0 (xs.getD k ⟨0, 0, 0⟩).f1 (xs.getD k ⟨0, 0, 0⟩).f2 from rfl] at HH
         generalize slipB (xs.getD k ⟨0, 0, 0⟩).f0 (xs.getD k ⟨0, 0, 0⟩).f1 (xs.getD k ⟨0, 0, 0⟩).f2 = ok at *
         generalize (xs.getD k ⟨0, 0, 0⟩).f0 = v0 at *
         generalize (xs.getD k ⟨0, 0, 0⟩).f1 = v1 at *
         generalize (xs.getD k ⟨0, 0, 0⟩).f2 = v2 at *
         generalize sumTo (soldF xs) k = a9 at *
         generalize sumTo (difF xs) k = b9 at *
         have V1 : IntKind.i64.wrap (a9 + v0) = a9 + v0 := by rw [IntWalk.i64_in _ (by omega)]
         have V2 : IntKind.i64.wrap (b9 + v1) = b9 + v1 := by rw [IntWalk.i64_in _ (by omega)]
         have V3 : IntKind.i64.wrap (b9 + v1 - v2) = b9 + v1 - v2 := by rw [IntWalk.i64_in _ (by omega)]
         have V4 : IntKind.i64.wrap (b9 + v1 - v2 - v0) = b9 + v1 - v2 - v0 := by rw [IntWalk.i64_in _ (by omega)]
         have g3_ : (k : Int) < (n : Int) := by omega
         have g4_ : (0 : Int) ≤ (k : Int) := by omega
         go_wp2_with fail
         have HCL := Lib.hid (show ∀ W', In w.heap.size w W' ∧ ReadsSlip W' (some ad) n xs ∧ ReadsI W' Aw ws.length ws ∧ W'.cell? (ad.add (k * 3)) = some (.int .i64 v0) ∧ W'.cell? ⟨(ad.add (k * 3)).block, (ad.add (k * 3)).off + 1, none⟩ = some (.int .i64 v1) ∧ W'.cell? ⟨(ad.add (k * 3)).block, (ad.add (k * 3)).off + 2, none⟩ = some (.int .i64 v2) → ∀ W2, Below W'.heap.size W' W2 → In w.heap.size w W2 ∧ ReadsSlip W2 (some ad) n xs ∧ ReadsI W2 Aw ws.length ws ∧ W2.cell? (ad.add (k * 3)) = some (.int .i64 v0) ∧ W2.cell? ⟨(ad.add (k * 3)).block, (ad.add (k * 3)).off + 1, none⟩ = some (.int .i64 v1) ∧ W2.cell? ⟨(ad.add (k * 3)).block, (ad.add (k * 3)).off + 2, none⟩ = some (.int .i64 v2) from fun W' h W2 hb => by
           obtain ⟨g0, g1, g2, g3, g4, g5⟩ := h
           exact ⟨g0.step hb, g1.step hb, g2.step hb, cell_in g3 ⟨hb, hb.size⟩, cell_in g4 ⟨hb, hb.size⟩, cell_in g5 ⟨hb, hb.size⟩⟩)
         refine wp_region_S (C := (fun w' => In w.heap.size w w' ∧ ReadsSlip w' (some ad) n xs ∧ ReadsI w' Aw ws.length ws ∧ w'.cell? (ad.add (k * 3)) = some (.int .i64 v0) ∧ w'.cell? ⟨(ad.add (k * 3)).block, (ad.add (k * 3)).off + 1, none⟩ = some (.int .i64 v1) ∧ w'.cell? ⟨(ad.add (k * 3)).block, (ad.add (k * 3)).off + 2, none⟩ = some (.int .i64 v2))) (by kernel_rfl) (by kernel_rfl) ?_ ?_
         · exact ⟨f6_0.drew, f6_1, f6_2, hc0, hc1, hc2⟩
         repeat (first | go_big_quiet_skip | (go_big_quiet_want; first | (refine quiet_ex ?_; apply Exists.intro; refine ⟨fun W hW => ?_, ?_⟩; (· (obtain ⟨f7_0, f7_1, f7_2, f7_3, f7_4, f7_5⟩ := hW; go_simp; (first | done | with_reducible rfl | rfl))); simp only [Act.put, List.setIfInBounds_toArray, List.set_cons_zero, List.set_cons_succ]; go_big_quiet_on) | (refine quiet_ex ?_; apply Exists.intro; refine ⟨fun W hW => ?_, ?_⟩; (· (go_simp; first | (go_at_call 16; (with_reducible refine (HH.out _ hW.2.2.1).mono ?_); rintro e w2 ⟨rfl, rfl⟩; exact ⟨rfl, hW⟩) | (go_at_call 17; (with_reducible refine (HSO.out _).mono ?_); rintro e w2 ⟨rfl, hb2⟩; exact ⟨rfl, HCL.out _ hW _ hb2⟩))); simp only [Act.put, List.setIfInBounds_toArray, List.set_cons_zero, List.set_cons_succ]; go_big_quiet_on)))
         refine wpQuiet_nil ?_
         rintro w' ⟨f7_0, f7_1, f7_2, f7_3, f7_4, f7_5⟩
         clear f6_0 f6_1 f6_2 hc0 hc1 hc2
         obtain ⟨u1_, hx9⟩ : ∃ x, x = w' := ⟨_, rfl⟩
         subst hx9
         clear HCL HH HSO
         go_wp2
         refine wp_region_S (C := (fun w' => In w.heap.size w w' ∧ ReadsSlip w' (some ad) n xs ∧ ReadsI w' Aw ws.length ws ∧ w'.cell? (ad.add (k * 3)) = some (.int .i64 v0) ∧ w'.cell? ⟨(ad.add (k * 3)).block, (ad.add (k * 3)).off + 1, none⟩ = some (.int .i64 v1) ∧ w'.cell? ⟨(ad.add (k * 3)).block, (ad.add (k * 3)).off + 2, none⟩ = some (.int .i64 v2))) (by kernel_rfl) (by kernel_rfl) ?_ ?_
         · exact ⟨f7_0.drew, f7_1, f7_2, f7_3, f7_4, f7_5⟩
         repeat (first | go_big_quiet_skip | (go_big_quiet_want; first | (refine quiet_ex ?_; apply Exists.intro; refine ⟨fun W hW => ?_, ?_⟩; (· (obtain ⟨f8_0, f8_1, f8_2, f8_3, f8_4, f8_5⟩ := hW; go_simp; (first | done | with_reducible rfl | rfl))); simp only [Act.put, List.setIfInBounds_toArray, List.set_cons_zero, List.set_cons_succ]; go_big_quiet_on) | (refine quiet_ex ?_; apply Exists.intro; refine ⟨fun W hW => ?_, ?_⟩; (· (go_simp; first | (fail))); simp only [Act.put, List.setIfInBounds_toArray, List.set_cons_zero, List.set_cons_succ]; go_big_quiet_on)))
         refine wpQuiet_nil ?_
         rintro w' ⟨f8_0, f8_1, f8_2, f8_3, f8_4, f8_5⟩
         clear f7_0 f7_1 f7_2 f7_3 f7_4 f7_5
         obtain ⟨u2_, hx9⟩ : ∃ x, x = w' := ⟨_, rfl⟩
         subst hx9
         go_wp2
         go_roundw
         case rel => exact ⟨k + 1, by omega, by go_num, by rw [HS1.out], by rw [HS2.out]; congr 1; omega, f8_0, f8_1, f8_2⟩
         case measure => simp [intOf]; omega
       · skip
         obtain rfl : n = k := by omega
         have hsi := HSI.out n (Nat.le_refl _)
         have hee := HEE.out
         have hem := HEM.out
         generalize sumTo (soldF xs) n = a9 at *
         generalize sumTo (difF xs) n = b9 at *
         have V1 : IntKind.i64.wrap (500 + a9) = 500 + a9 := by rw [IntWalk.i64_in _ (by omega)]
         have V2 : IntKind.i64.wrap (500 + a9 + b9) = e := by rw [IntWalk.i64_in _ (by omega)]; omega
         have V3 : IntKind.i64.wrap (x0 * 4) = x0 * 4 := by rw [IntWalk.i64_in _ (by omega)]
         have V4 : IntKind.i64.wrap (e - x0 * 4) = e - x0 * 4 := by rw [IntWalk.i64_in _ (by omega)]
         have V5 : IntKind.i64.wrap (e + 1) = e + 1 := by rw [IntWalk.i64_in _ (by omega)]
         clear hee hlt hk HEE HEM HSI HX HHB
         have HSO := Lib.hid (fun W => iSlipOk 7 10 3 W)
         rw [show slipB 7 10 3 = true by decide] at HSO
         go_wp2_with fail
         refine (HA0.out _ f6_0).mono ?_
         rintro e w' ⟨rfl, rfl⟩
         clear HA0
         clear f6_2
         generalize ws.length = m9 at *
         have HCL := Lib.hid (show ∀ W', In w.heap.size w W' ∧ ReadsSlip W' A n xs → ∀ W2, Below W'.heap.size W' W2 → In w.heap.size w W2 ∧ ReadsSlip W2 A n xs from fun W' h W2 hb => by
           obtain ⟨g0, g1⟩ := h
           exact ⟨g0.step hb, g1.step hb⟩)
         by_cases hz : m9 = 0
         · skip
           have hb0 : b9 = 0 := hem hz
           have d1 : decide (0 < (m9 : Int)) = false := decide_eq_false (by omega)
           have d2 : decide (0 < m9) = false := decide_eq_false (by omega)
           clear hem hz
           subst hb0
           rw [Int.add_zero] at V2
           clear V1
           have V6 : IntKind.i64.wrap (e) = e := by rw [IntWalk.i64_in _ (by omega)]
           simp only []
           iterate 11 go_step
           (try rw [List.append_eq])
           (try rw [List.append_eq])
           (repeat rw [List.cons_append])
           (repeat rw [List.nil_append])
           refine wp_region_L (C := (fun w' => In w.heap.size w w' ∧ ReadsSlip w' A n xs)) ?_ ?_
           · exact ⟨f6_0, f6_1⟩
           repeat (first | go_big_quiet_skip | (go_big_quiet_want; first | (refine quiet_ex ?_; apply Exists.intro; refine ⟨fun W hW => ?_, ?_⟩; (· (obtain ⟨f7_0, f7_1⟩ := hW; go_simp; (first | done | with_reducible rfl | rfl))); simp only [Act.put, List.setIfInBounds_toArray, List.set_cons_zero, List.set_cons_succ]; go_big_quiet_on) | (refine quiet_ex ?_; apply Exists.intro; refine ⟨fun W hW => ?_, ?_⟩; (· (go_simp; first | (go_at_call 19; (with_reducible refine (HMS.out _ hW.2).mono ?_); rintro e w2 ⟨rfl, hb2⟩; exact ⟨rfl, HCL.out _ hW _ hb2⟩) | (go_at_call 14; (with_reducible refine (HTB.out _ hW.2).mono ?_); rintro e w2 ⟨rfl, hb2⟩; exact ⟨rfl, HCL.out _ hW _ hb2⟩) | (go_at_call 17; (with_reducible refine (HSO.out _).mono ?_); rintro e w2 ⟨rfl, hb2⟩; exact ⟨rfl, HCL.out _ hW _ hb2⟩))); simp only [Act.put, List.setIfInBounds_toArray, List.set_cons_zero, List.set_cons_succ]; go_big_quiet_on)))
           refine wpQuiet_nil ?_
           rintro w' ⟨f7_0, f7_1⟩
           clear f6_0 f6_1
           go_wp2
           go_ret
           exact ⟨ret_bool rfl, f7_0.below⟩
         · skip
           have d1 : decide (0 < (m9 : Int)) = true := decide_eq_true (by omega)
           have d2 : decide (0 < m9) = true := decide_eq_true (by omega)
           have d3 : 0 < m9 := by omega
           clear hem hz
           simp only []
           iterate 11 go_step
           (try rw [List.append_eq])
           (try rw [List.append_eq])
           (repeat rw [List.cons_append])
           (repeat rw [List.nil_append])
           refine wp_region_L (C := (fun w' => In w.heap.size w w' ∧ ReadsSlip w' A n xs)) ?_ ?_
           · exact ⟨f6_0, f6_1⟩
           repeat (first | go_big_quiet_skip | (go_big_quiet_want; first | (refine quiet_ex ?_; apply Exists.intro; refine ⟨fun W hW => ?_, ?_⟩; (· (obtain ⟨f7_0, f7_1⟩ := hW; go_simp; (first | done | with_reducible rfl | rfl))); simp only [Act.put, List.setIfInBounds_toArray, List.set_cons_zero, List.set_cons_succ]; go_big_quiet_on) | (refine quiet_ex ?_; apply Exists.intro; refine ⟨fun W hW => ?_, ?_⟩; (· (go_simp; first | (go_at_call 19; (with_reducible refine (HMS.out _ hW.2).mono ?_); rintro e w2 ⟨rfl, hb2⟩; exact ⟨rfl, HCL.out _ hW _ hb2⟩) | (go_at_call 14; (with_reducible refine (HTB.out _ hW.2).mono ?_); rintro e w2 ⟨rfl, hb2⟩; exact ⟨rfl, HCL.out _ hW _ hb2⟩) | (go_at_call 17; (with_reducible refine (HSO.out _).mono ?_); rintro e w2 ⟨rfl, hb2⟩; exact ⟨rfl, HCL.out _ hW _ hb2⟩))); simp only [Act.put, List.setIfInBounds_toArray, List.set_cons_zero, List.set_cons_succ]; go_big_quiet_on)))
           refine wpQuiet_nil ?_
           rintro w' ⟨f7_0, f7_1⟩
           clear f6_0 f6_1
           go_wp2
           go_ret
           exact ⟨ret_bool rfl, f7_0.below⟩
  · skip
    have d3 : decide (0 < s) = false := decide_eq_false (by omega)
    simp only []
    iterate 9 go_step
    (try rw [List.append_eq])
    (try rw [List.append_eq])
    (repeat rw [List.cons_append])
    (repeat rw [List.nil_append])
    refine wp_region_L (C := (fun w' => In w.heap.size w w' ∧ ReadsSlip w' A n xs ∧ ReadsI w' Aw ws.length ws)) ?_ ?_
    · exact ⟨f4_0, f4_1, f4_2⟩
    repeat (first | go_big_quiet_skip | (go_big_quiet_want; first | (refine quiet_ex ?_; apply Exists.intro; refine ⟨fun W hW => ?_, ?_⟩; (· (obtain ⟨f5_0, f5_1, f5_2⟩ := hW; go_simp; (first | done | with_reducible rfl | rfl))); simp only [Act.put, List.setIfInBounds_toArray, List.set_cons_zero, List.set_cons_succ]; go_big_quiet_on) | (refine quiet_ex ?_; apply Exists.intro; refine ⟨fun W hW => ?_, ?_⟩; (· (go_simp; first | (go_at_call 15; (with_reducible refine (HLO.out _ hW.2.1).mono ?_); rintro e w2 ⟨rfl, hb2⟩; exact ⟨rfl, HCL.out _ hW _ hb2⟩) | (go_at_call 15; (with_reducible refine (HL5.out _ hW.2.1).mono ?_); rintro e w2 ⟨rfl, hb2⟩; exact ⟨rfl, HCL.out _ hW _ hb2⟩))); simp only [Act.put, List.setIfInBounds_toArray, List.set_cons_zero, List.set_cons_succ]; go_big_quiet_on)))
    refine wpQuiet_nil ?_
    rintro w' ⟨f5_0, f5_1, f5_2⟩
    clear f4_0 f4_1 f4_2
    obtain ⟨u0_, hx9⟩ : ∃ x, x = w' := ⟨_, rfl⟩
    subst hx9
    clear d0 d1 d2 d3 HCL HLO HL5 els1
    as_aux_lemma =>
     go_wp2
     go_loopw [7, 8, 9] (fun a v i wr => ∃ k : Nat, k ≤ n ∧ i = .int .i64 k ∧ a = .int .i64 (sumTo (soldF xs) k) ∧ v = .int .i64 (sumTo (difF xs) k) ∧ (In w.heap.size w wr ∧ ReadsSlip wr A n xs ∧ ReadsI wr Aw ws.length ws)) (fun _ _ i _ => n - (intOf i).toNat)
     case atStart => exact ⟨0, Nat.zero_le _, rfl, rfl, rfl, f5_0, f5_1, f5_2⟩
     case round =>
       obtain ⟨k, hk, rfl, rfl, rfl, f6_0, f6_1, f6_2⟩ := hrel
       clear f5_0 f5_1 f5_2
       by_cases hlt : k < n
       · skip
         obtain ⟨ad, rfl, hc0, hc1, hc2⟩ := f6_1.2 k hlt
         have hxk := HX.out k hlt
         (try simp only [] at hxk)
         have hsi := HSI.out k hk
         have HH := Lib.hid (fun W (h : ReadsI W Aw ws.length ws) => has_c Aw ws.length cw ws k W (by omega) h)
         rw [HHB.out k hlt] at HH
         have HS1 := Lib.hid (show sumTo (soldF xs) (k + 1) = sumTo (soldF xs) k + (xs.getD k ⟨0, 0, 0⟩).f0 from rfl)
         have HS2 := Lib.hid (show sumTo (difF xs) (k + 1) = sumTo (difF xs) k + ((xs.getD k ⟨0, 0, 0⟩).f1 - (xs.getD k ⟨0, 0, 0⟩).f2 - (xs.getD k ⟨0, 0, 0⟩).f0) from rfl)
         have HSO := Lib.hid (fun W => iSlipOk (xs.getD k ⟨0, 0, 0⟩).f0 (xs.getD k ⟨0, 0, 0⟩).f1 (xs.getD k ⟨0, 0, 0⟩).f2 W)
         rw [show wrP xs k = !slipB (xs.getD k ⟨0, 0, 0⟩).f0 (xs.getD k ⟨0, 0, 0⟩).f1 (xs.getD k ⟨0, 0, 0⟩).f2 from rfl] at HH
         generalize slipB (xs.getD k ⟨0, 0, 0⟩).f0 (xs.getD k ⟨0, 0, 0⟩).f1 (xs.getD k ⟨0, 0, 0⟩).f2 = ok at *
         generalize (xs.getD k ⟨0, 0, 0⟩).f0 = v0 at *
         generalize (xs.getD k ⟨0, 0, 0⟩).f1 = v1 at *
         generalize (xs.getD k ⟨0, 0, 0⟩).f2 = v2 at *
         generalize sumTo (soldF xs) k = a9 at *
         generalize sumTo (difF xs) k = b9 at *
         have V1 : IntKind.i64.wrap (a9 + v0) = a9 + v0 := by rw [IntWalk.i64_in _ (by omega)]
         have V2 : IntKind.i64.wrap (b9 + v1) = b9 + v1 := by rw [IntWalk.i64_in _ (by omega)]
         have V3 : IntKind.i64.wrap (b9 + v1 - v2) = b9 + v1 - v2 := by rw [IntWalk.i64_in _ (by omega)]
         have V4 : IntKind.i64.wrap (b9 + v1 - v2 - v0) = b9 + v1 - v2 - v0 := by rw [IntWalk.i64_in _ (by omega)]
         have g3_ : (k : Int) < (n : Int) := by omega
         have g4_ : (0 : Int) ≤ (k : Int) := by omega
         go_wp2_with fail
         have HCL := Lib.hid (show ∀ W', In w.heap.size w W' ∧ ReadsSlip W' (some ad) n xs ∧ ReadsI W' Aw ws.length ws ∧ W'.cell? (ad.add (k * 3)) = some (.int .i64 v0) ∧ W'.cell? ⟨(ad.add (k * 3)).block, (ad.add (k * 3)).off + 1, none⟩ = some (.int .i64 v1) ∧ W'.cell? ⟨(ad.add (k * 3)).block, (ad.add (k * 3)).off + 2, none⟩ = some (.int .i64 v2) → ∀ W2, Below W'.heap.size W' W2 → In w.heap.size w W2 ∧ ReadsSlip W2 (some ad) n xs ∧ ReadsI W2 Aw ws.length ws ∧ W2.cell? (ad.add (k * 3)) = some (.int .i64 v0) ∧ W2.cell? ⟨(ad.add (k * 3)).block, (ad.add (k * 3)).off + 1, none⟩ = some (.int .i64 v1) ∧ W2.cell? ⟨(ad.add (k * 3)).block, (ad.add (k * 3)).off + 2, none⟩ = some (.int .i64 v2) from fun W' h W2 hb => by
           obtain ⟨g0, g1, g2, g3, g4, g5⟩ := h
           exact ⟨g0.step hb, g1.step hb, g2.step hb, cell_in g3 ⟨hb, hb.size⟩, cell_in g4 ⟨hb, hb.size⟩, cell_in g5 ⟨hb, hb.size⟩⟩)
         refine wp_region_S (C := (fun w' => In w.heap.size w w' ∧ ReadsSlip w' (some ad) n xs ∧ ReadsI w' Aw ws.length ws ∧ w'.cell? (ad.add (k * 3)) = some (.int .i64 v0) ∧ w'.cell? ⟨(ad.add (k * 3)).block, (ad.add (k * 3)).off + 1, none⟩ = some (.int .i64 v1) ∧ w'.cell? ⟨(ad.add (k * 3)).block, (ad.add (k * 3)).off + 2, none⟩ = some (.int .i64 v2))) (by kernel_rfl) (by kernel_rfl) ?_ ?_
         · exact ⟨f6_0.drew, f6_1, f6_2, hc0, hc1, hc2⟩
         repeat (first | go_big_quiet_skip | (go_big_quiet_want; first | (refine quiet_ex ?_; apply Exists.intro; refine ⟨fun W hW => ?_, ?_⟩; (· (obtain ⟨f7_0, f7_1, f7_2, f7_3, f7_4, f7_5⟩ := hW; go_simp; (first | done | with_reducible rfl | rfl))); simp only [Act.put, List.setIfInBounds_toArray, List.set_cons_zero, List.set_cons_succ]; go_big_quiet_on) | (refine quiet_ex ?_; apply Exists.intro; refine ⟨fun W hW => ?_, ?_⟩; (· (go_simp; first | (go_at_call 16; (with_reducible refine (HH.out _ hW.2.2.1).mono ?_); rintro e w2 ⟨rfl, rfl⟩; exact ⟨rfl, hW⟩) | (go_at_call 17; (with_reducible refine (HSO.out _).mono ?_); rintro e w2 ⟨rfl, hb2⟩; exact ⟨rfl, HCL.out _ hW _ hb2⟩))); simp only [Act.put, List.setIfInBounds_toArray, List.set_cons_zero, List.set_cons_succ]; go_big_quiet_on)))
         refine wpQuiet_nil ?_
         rintro w' ⟨f7_0, f7_1, f7_2, f7_3, f7_4, f7_5⟩
         clear f6_0 f6_1 f6_2 hc0 hc1 hc2
         obtain ⟨u1_, hx9⟩ : ∃ x, x = w' := ⟨_, rfl⟩
         subst hx9
         clear HCL HH HSO
         go_wp2
         refine wp_region_S (C := (fun w' => In w.heap.size w w' ∧ ReadsSlip w' (some ad) n xs ∧ ReadsI w' Aw ws.length ws ∧ w'.cell? (ad.add (k * 3)) = some (.int .i64 v0) ∧ w'.cell? ⟨(ad.add (k * 3)).block, (ad.add (k * 3)).off + 1, none⟩ = some (.int .i64 v1) ∧ w'.cell? ⟨(ad.add (k * 3)).block, (ad.add (k * 3)).off + 2, none⟩ = some (.int .i64 v2))) (by kernel_rfl) (by kernel_rfl) ?_ ?_
         · exact ⟨f7_0.drew, f7_1, f7_2, f7_3, f7_4, f7_5⟩
         repeat (first | go_big_quiet_skip | (go_big_quiet_want; first | (refine quiet_ex ?_; apply Exists.intro; refine ⟨fun W hW => ?_, ?_⟩; (· (obtain ⟨f8_0, f8_1, f8_2, f8_3, f8_4, f8_5⟩ := hW; go_simp; (first | done | with_reducible rfl | rfl))); simp only [Act.put, List.setIfInBounds_toArray, List.set_cons_zero, List.set_cons_succ]; go_big_quiet_on) | (refine quiet_ex ?_; apply Exists.intro; refine ⟨fun W hW => ?_, ?_⟩; (· (go_simp; first | (fail))); simp only [Act.put, List.setIfInBounds_toArray, List.set_cons_zero, List.set_cons_succ]; go_big_quiet_on)))
         refine wpQuiet_nil ?_
         rintro w' ⟨f8_0, f8_1, f8_2, f8_3, f8_4, f8_5⟩
         clear f7_0 f7_1 f7_2 f7_3 f7_4 f7_5
         obtain ⟨u2_, hx9⟩ : ∃ x, x = w' := ⟨_, rfl⟩
         subst hx9
         go_wp2
         go_roundw
         case rel => exact ⟨k + 1, by omega, by go_num, by rw [HS1.out], by rw [HS2.out]; congr 1; omega, f8_0, f8_1, f8_2⟩
         case measure => simp [intOf]; omega
       · skip
         obtain rfl : n = k := by omega
         have hsi := HSI.out n (Nat.le_refl _)
         have hee := HEE.out
         have hem := HEM.out
         generalize sumTo (soldF xs) n = a9 at *
         generalize sumTo (difF xs) n = b9 at *
         have V1 : IntKind.i64.wrap (500 + a9) = 500 + a9 := by rw [IntWalk.i64_in _ (by omega)]
         have V2 : IntKind.i64.wrap (500 + a9 + b9) = e := by rw [IntWalk.i64_in _ (by omega)]; omega
         have V3 : IntKind.i64.wrap (x0 * 4) = x0 * 4 := by rw [IntWalk.i64_in _ (by omega)]
         have V4 : IntKind.i64.wrap (e - x0 * 4) = e - x0 * 4 := by rw [IntWalk.i64_in _ (by omega)]
         have V5 : IntKind.i64.wrap (e + 1) = e + 1 := by rw [IntWalk.i64_in _ (by omega)]
         clear hee hlt hk HEE HEM HSI HX HHB
         have HSO := Lib.hid (fun W => iSlipOk 7 10 3 W)
         rw [show slipB 7 10 3 = true by decide] at HSO
         go_wp2_with fail
         refine (HA0.out _ f6_0).mono ?_
         rintro e w' ⟨rfl, rfl⟩
         clear HA0
         clear f6_2
         generalize ws.length = m9 at *
         have HCL := Lib.hid (show ∀ W', In w.heap.size w W' ∧ ReadsSlip W' A n xs → ∀ W2, Below W'.heap.size W' W2 → In w.heap.size w W2 ∧ ReadsSlip W2 A n xs from fun W' h W2 hb => by
           obtain ⟨g0, g1⟩ := h
           exact ⟨g0.step hb, g1.step hb⟩)
         by_cases hz : m9 = 0
         · skip
           have hb0 : b9 = 0 := hem hz
           have d1 : decide (0 < (m9 : Int)) = false := decide_eq_false (by omega)
           have d2 : decide (0 < m9) = false := decide_eq_false (by omega)
           clear hem hz
           subst hb0
           rw [Int.add_zero] at V2
           clear V1
           have V6 : IntKind.i64.wrap (e) = e := by rw [IntWalk.i64_in _ (by omega)]
           simp only []
           iterate 11 go_step
           (try rw [List.append_eq])
           (try rw [List.append_eq])
           (repeat rw [List.cons_append])
           (repeat rw [List.nil_append])
           refine wp_region_L (C := (fun w' => In w.heap.size w w' ∧ ReadsSlip w' A n xs)) ?_ ?_
           · exact ⟨f6_0, f6_1⟩
           repeat (first | go_big_quiet_skip | (go_big_quiet_want; first | (refine quiet_ex ?_; apply Exists.intro; refine ⟨fun W hW => ?_, ?_⟩; (· (obtain ⟨f7_0, f7_1⟩ := hW; go_simp; (first | done | with_reducible rfl | rfl))); simp only [Act.put, List.setIfInBounds_toArray, List.set_cons_zero, List.set_cons_succ]; go_big_quiet_on) | (refine quiet_ex ?_; apply Exists.intro; refine ⟨fun W hW => ?_, ?_⟩; (· (go_simp; first | (go_at_call 19; (with_reducible refine (HMS.out _ hW.2).mono ?_); rintro e w2 ⟨rfl, hb2⟩; exact ⟨rfl, HCL.out _ hW _ hb2⟩) | (go_at_call 14; (with_reducible refine (HTB.out _ hW.2).mono ?_); rintro e w2 ⟨rfl, hb2⟩; exact ⟨rfl, HCL.out _ hW _ hb2⟩) | (go_at_call 17; (with_reducible refine (HSO.out _).mono ?_); rintro e w2 ⟨rfl, hb2⟩; exact ⟨rfl, HCL.out _ hW _ hb2⟩))); simp only [Act.put, List.setIfInBounds_toArray, List.set_cons_zero, List.set_cons_succ]; go_big_quiet_on)))
           refine wpQuiet_nil ?_
           rintro w' ⟨f7_0, f7_1⟩
           clear f6_0 f6_1
           go_wp2
           go_ret
           exact ⟨ret_bool rfl, f7_0.below⟩
         · skip
           have d1 : decide (0 < (m9 : Int)) = true := decide_eq_true (by omega)
           have d2 : decide (0 < m9) = true := decide_eq_true (by omega)
           have d3 : 0 < m9 := by omega
           clear hem hz
           simp only []
           iterate 11 go_step
           (try rw [List.append_eq])
           (try rw [List.append_eq])
           (repeat rw [List.cons_append])
           (repeat rw [List.nil_append])
           refine wp_region_L (C := (fun w' => In w.heap.size w w' ∧ ReadsSlip w' A n xs)) ?_ ?_
           · exact ⟨f6_0, f6_1⟩
           repeat (first | go_big_quiet_skip | (go_big_quiet_want; first | (refine quiet_ex ?_; apply Exists.intro; refine ⟨fun W hW => ?_, ?_⟩; (· (obtain ⟨f7_0, f7_1⟩ := hW; go_simp; (first | done | with_reducible rfl | rfl))); simp only [Act.put, List.setIfInBounds_toArray, List.set_cons_zero, List.set_cons_succ]; go_big_quiet_on) | (refine quiet_ex ?_; apply Exists.intro; refine ⟨fun W hW => ?_, ?_⟩; (· (go_simp; first | (go_at_call 19; (with_reducible refine (HMS.out _ hW.2).mono ?_); rintro e w2 ⟨rfl, hb2⟩; exact ⟨rfl, HCL.out _ hW _ hb2⟩) | (go_at_call 14; (with_reducible refine (HTB.out _ hW.2).mono ?_); rintro e w2 ⟨rfl, hb2⟩; exact ⟨rfl, HCL.out _ hW _ hb2⟩) | (go_at_call 17; (with_reducible refine (HSO.out _).mono ?_); rintro e w2 ⟨rfl, hb2⟩; exact ⟨rfl, HCL.out _ hW _ hb2⟩))); simp only [Act.put, List.setIfInBounds_toArray, List.set_cons_zero, List.set_cons_succ]; go_big_quiet_on)))
           refine wpQuiet_nil ?_
           rintro w' ⟨f7_0, f7_1⟩
           clear f6_0 f6_1
           go_wp2
           go_ret
           exact ⟨ret_bool rfl, f7_0.below⟩
 end Go.Proofs.Ytgjbbidcpmglbaa
