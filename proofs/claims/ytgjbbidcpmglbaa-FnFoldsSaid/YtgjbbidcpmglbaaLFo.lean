/- The law FnFolds. -/
import Derived.Test.YtgjbbidcpmglbaaFoP
import Derived.Test.YtgjbbidcpmglbaaDl11
import Derived.Test.YtgjbbidcpmglbaaAppS
import Derived.Test.YtgjbbidcpmglbaaAtAll
import Derived.Test.YtgjbbidcpmglbaaQuietL
import Derived.BigQuiet
import Derived.Deep.QuietTactic
namespace Go.Proofs.Ytgjbbidcpmglbaa
open Go.ChangeShapes Go.WideShapes Go.ChangeAt Go.RowKit
set_option linter.unusedVariables false
set_option linter.unusedSimpArgs false
set_option maxHeartbeats 2000000

set_option maxHeartbeats 40000000 in
set_option maxRecDepth 20000 in
theorem walk_FnFolds (a0 : Option Addr) (len0 cap0 : Nat) (z0 : List Int) (w : World) (w0 : IsRow .u8 w a0 len0 cap0 z0) :
    Calls Try.prog 6 #[.slice a0 len0 cap0] w fun e w' => e = .returned (.bool true) ∧ Below w.heap.size w w' := by
  have hb := ReadsU.of_row w0
  have hm := hb.1
  clear w0
  by_cases hbig : (1048576 : Int) < (len0 : Int)
  · go_enter Try.func6, Try.ntmps6
    go_wp2_with fail
    refine (bigU _ _ _ _ hm true (by simpa using hbig)).mono ?_
    rintro e w' ⟨rfl, rfl⟩
    go_wp2_with fail
    go_ret
    exact ⟨rfl, Below.refl _ _⟩
  have HB := Lib.hid hb
  obtain ⟨x0, h0, A0⟩ := at_all a0 len0 cap0 0 w (by omega) (by omega) hb
  have HA0 := Lib.hid A0
  clear A0
  obtain ⟨x1, h1, A1⟩ := at_all a0 len0 cap0 1 w (by omega) (by omega) hb
  have HA1 := Lib.hid A1
  clear A1
  have HAt := Lib.hid (fun (i : Int) (h0 : 0 ≤ i) (h1 : i ≤ 1000) => at_all a0 len0 cap0 i w h0 h1 hb)
  obtain ⟨i0, hi0, hz0, hz1, hz2⟩ := info_parts infoDl
  go_enter Try.func6, Try.ntmps6
  go_wp2_with fail
  refine (bigU _ _ _ _ hm false (by simpa using hbig)).mono ?_
  rintro e w' ⟨rfl, rfl⟩
  clear hbig hm hb
  have f0_0 : In w.heap.size w w := In.refl w
  have hbu := HB.out
  go_wp2_with fail
  refine (DrawFolds_c _ _ _ _ (bytes_of hbu)).mono ?_
  rintro _ w1 ⟨A, cp, n, xs, rfl, ⟨hn0, hn⟩, hx, hrd, hl, hnc, hAn, hb1⟩
  have f1_0 : In w.heap.size w w1 := f0_0.step hb1
  have f1_1 : ReadsI w1 A n xs := hrd
  clear f0_0
  clear hb1 hrd hbu hnc hn0
  have HAn := Lib.hid hAn
  clear hAn
  obtain ⟨N, C, S, m, eN, hN, eS, eB, em, hmn, eM, hds, eC, hC, e7, e3⟩ := folds_law hn hx hl
  have HDS := Lib.hid hds
  have HE3 := Lib.hid e3
  have HLA := Lib.hid (fun W (h : ReadsI W A n xs) => iLayersAfter A n cp xs W (by unfold maxLen; omega) h)
  rw [eN] at HLA
  have HTH := Lib.hid (fun W (h : ReadsI W A n xs) (r : Int) (hr : 1 ≤ r ∧ r ≤ 100000) => by have := iThicknessOf A n cp xs r W (by unfold maxLen; omega) h; rw [thick_law eN hN.1 hr] at this; exact this)
  have HFF := Lib.hid (fun W => FoldsFor_c eS eB em W)
  have HF7 := Lib.hid (fun W => FoldsFor_no e7 W)
  have HCN := Lib.hid (fun W => iCountFoldings N W)
  rw [eC] at HCN
  have HX := Lib.hid hx
  clear hds e3 eS eB eC e7 hx eN
  go_wp2_with fail
  refine (HLA.out _ f1_1).mono ?_
  rintro e w' ⟨rfl, rfl⟩
  go_wp2_with fail
  refine (HFF.out _).mono ?_
  rintro _ w2 ⟨A2, c2, rfl, hr2, hb2⟩
  have f2_0 : In w.heap.size w w2 := f1_0.step hb2
  have f2_1 : ReadsI w2 A n xs := f1_1.step hb2
  have f2_2 : ReadsI w2 A2 m S := hr2
  clear f1_0 f1_1
  clear hb2 hr2 HFF HLA
  have HLS := Lib.hid (fun W (h : ReadsI W A2 m S) => iLayersAfter A2 m c2 S W (by unfold maxLen; omega) h)
  rw [eM] at HLS
  clear eM
  have d0 : decide (N < 1) = false := decide_eq_false (by omega)
  have d1 : decide ((n : Int) < (m : Int)) = false := decide_eq_false (by omega)
  have d1n : decide (n < m) = false := decide_eq_false (by omega)
  have d2 : decide (C < 1) = false := decide_eq_false (by omega)
  have HCL := Lib.hid (show ∀ W', In w.heap.size w W' ∧ ReadsI W' A n xs ∧ ReadsI W' A2 m S → ∀ W2, Below W'.heap.size W' W2 → In w.heap.size w W2 ∧ ReadsI W2 A n xs ∧ ReadsI W2 A2 m S from fun W' h W2 hb => by
    obtain ⟨g0, g1, g2⟩ := h
    exact ⟨g0.step hb, g1.step hb, g2.step hb⟩)
  simp only []
  iterate 21 go_step
  (try rw [List.append_eq])
  (try rw [List.append_eq])
  (repeat rw [List.cons_append])
  (repeat rw [List.nil_append])
  refine wp_region_L (C := (fun w' => In w.heap.size w w' ∧ ReadsI w' A n xs ∧ ReadsI w' A2 m S)) ?_ ?_
  · exact ⟨f2_0, f2_1, f2_2⟩
  repeat (first | go_big_quiet_skip | (go_big_quiet_want; first | (refine quiet_ex ?_; apply Exists.intro; refine ⟨fun W hW => ?_, ?_⟩; (· (obtain ⟨f3_0, f3_1, f3_2⟩ := hW; go_simp; (first | done | with_reducible rfl | rfl))); simp only [Act.put, List.setIfInBounds_toArray, List.set_cons_zero, List.set_cons_succ]; go_big_quiet_on) | (refine quiet_ex ?_; apply Exists.intro; refine ⟨fun W hW => ?_, ?_⟩; (· (go_simp; first | (go_at_call 34; (with_reducible refine (HLS.out _ hW.2.2).mono ?_); rintro e w2 ⟨rfl, rfl⟩; exact ⟨rfl, hW⟩) | (go_at_call 36; (with_reducible refine (HCN.out _).mono ?_); rintro e w2 ⟨rfl, hb2⟩; exact ⟨rfl, HCL.out _ hW _ hb2⟩))); simp only [Act.put, List.setIfInBounds_toArray, List.set_cons_zero, List.set_cons_succ]; go_big_quiet_on)))
  refine wpQuiet_nil ?_
  rintro w' ⟨f3_0, f3_1, f3_2⟩
  clear f2_0 f2_1 f2_2
  obtain ⟨u1_, hx9⟩ : ∃ x, x = w' := ⟨_, rfl⟩
  subst hx9
  clear d0 d1 d1n d2 HCL HLS HCN
  go_wp2
  go_loopw [7] (fun i wr => ∃ k : Nat, 1 ≤ k ∧ i = .int .i64 k ∧ (In w.heap.size w wr ∧ ReadsI wr A n xs ∧ ReadsI wr A2 m S)) (fun i _ => m - (intOf i).toNat)
  case atStart => exact ⟨1, Nat.le_refl _, rfl, f3_0, f3_1, f3_2⟩
  case round =>
    obtain ⟨k, hk1, rfl, f4_0, f4_1, f4_2⟩ := hrel
    clear f3_0 f3_1 f3_2
    by_cases hlt : k < m
    · skip
      obtain ⟨j, hj⟩ : ∃ j : Nat, j + 1 = k := ⟨k - 1, by omega⟩
      have hdk := HDS.out j (by omega)
      rw [hj] at hdk
      obtain ⟨ad, rfl, hc0⟩ := f4_2.2 k hlt
      obtain ⟨ad2, had2, hc1⟩ := f4_2.2 j (by omega)
      obtain rfl : ad = ad2 := Option.some.inj had2
      have hjm : j < m := by omega
      have V1 : IntKind.i64.wrap ((k : Int) - 1) = (j : Int) := by rw [IntWalk.i64_in _ (by omega)]; omega
      clear hj had2
      generalize S.getD k 0 = p at *
      generalize S.getD j 0 = q at *
      have d1 : decide (q < p) = false := decide_eq_false (by omega)
      have g3_ : (k : Int) < (m : Int) := by omega
      have g4_ : (0 : Int) ≤ (k : Int) := by omega
      have g5_ : (j : Int) < (m : Int) := by omega
      have g6_ : (0 : Int) ≤ (j : Int) := by omega
      go_wp2
      refine wp_region_S (C := (fun w' => In w.heap.size w w' ∧ ReadsI w' A n xs ∧ ReadsI w' (some ad) m S ∧ w'.cell? (ad.add k) = some (.int .i64 p) ∧ w'.cell? (ad.add j) = some (.int .i64 q))) (by kernel_rfl) (by kernel_rfl) ?_ ?_
      · exact ⟨f4_0.drew, f4_1, f4_2, hc0, hc1⟩
      repeat (first | go_big_quiet_skip | (go_big_quiet_want; first | (refine quiet_ex ?_; apply Exists.intro; refine ⟨fun W hW => ?_, ?_⟩; (· (obtain ⟨f5_0, f5_1, f5_2, f5_3, f5_4⟩ := hW; go_simp; (first | done | with_reducible rfl | rfl))); simp only [Act.put, List.setIfInBounds_toArray, List.set_cons_zero, List.set_cons_succ]; go_big_quiet_on) | (refine quiet_ex ?_; apply Exists.intro; refine ⟨fun W hW => ?_, ?_⟩; (· (go_simp; first | (fail))); simp only [Act.put, List.setIfInBounds_toArray, List.set_cons_zero, List.set_cons_succ]; go_big_quiet_on)))
      refine wpQuiet_nil ?_
      rintro w' ⟨f5_0, f5_1, f5_2, f5_3, f5_4⟩
      clear f4_0 f4_1 f4_2 hc0 hc1
      obtain ⟨u2_, hx9⟩ : ∃ x, x = w' := ⟨_, rfl⟩
      subst hx9
      go_wp2
      go_roundw
      case rel => exact ⟨k + 1, by omega, by go_num, f5_0, f5_1, f5_2⟩
      case measure => simp [intOf]; omega
    · skip
      have hge : (m : Int) ≤ (k : Int) := by omega
      clear HDS
      obtain ⟨wB, hwB⟩ : ∃ wB, wB = wr := ⟨_, rfl⟩
      subst hwB
      have own0 := own_new wB 3 wB.heap.size (Nat.le_refl _)
      have hrx := f4_1.alloc (.cells #[] 3)
      have hcx := iv_cells hrx
      have hsz1 : wB.heap.size ≤ (wB.alloc (.cells #[] 3)).heap.size := by simp
      obtain ⟨W1, hW1⟩ : ∃ W1, W1 = wB.alloc (.cells #[] 3) := ⟨_, rfl⟩
      have hbW1 : Below wB.heap.size wB W1 := by rw [hW1]; exact (Below.refl _ wB).alloc (Nat.le_refl _) _
      rw [← hW1] at own0 hcx hsz1
      have HCX := Lib.hid hcx
      have HLX : Hid ((iv xs).length = n * 1) := Lib.hid (by rw [iv_len]; omega)
      have q1 : 0 + n ≤ maxLen := by unfold maxLen; omega
      have q2 : (0 + n) * 8 ≤ 140737488355328 := by omega
      have HOX := Lib.hid (iv_one xs)
      have F1 : Hid (∀ u ∈ (#[Value.int .i64 3] : Array Value).toList, u.oneCell' = true) := Lib.hid (one_lit 3)
      have q3 : (0 + n) + 1 ≤ maxLen := by unfold maxLen; omega
      have q4 : (0 + n + 1) * 8 ≤ 140737488355328 := by omega
      clear hrx hcx
      have HL3 := Lib.hid (fun A3 c3 W (h : ReadsI W A3 (n + 1) (xs ++ [3])) => iLayersAfter A3 (n + 1) c3 (xs ++ [3]) W (by unfold maxLen; omega) h)
      by_cases h5 : n ≤ 5
      · skip
        rw [HE3.out h5] at HL3
        have d1 : decide ((n : Int) ≤ 5) = true := decide_eq_true (by omega)
        have d2 : decide (n ≤ 5) = true := decide_eq_true h5
        have V1 : IntKind.i64.wrap (3 * N) = 3 * N := by rw [IntWalk.i64_in _ (by omega)]
        have V1w : wrap64 (3 * N) = 3 * N := w64 ⟨by omega, by omega⟩
        have g5_ : (n : Int) ≤ 5 := by omega
        go_wp2_with (first | (at_builtin; (rw [← hW1]); refine wpList_app_spread rfl (.tmp 69) (.tmp 70) 27 rfl wB.heap.size 3 i0 (.int .i64 0) 1 8 Try.underlying27 hi0 hz0 hz1 hz2 rfl Nat.one_pos (.slice (some ⟨wB.heap.size, 0, none⟩) 0 0) 0 [] rfl own0 A n cp (iv xs) rfl HAn.out HLX.out HCX.out HOX.out q1 q2 hsz1 ?_; intro v1_ w1_ hown1 hbw1; have hz1_ : wB.heap.size ≤ w1_.heap.size := Nat.le_trans hsz1 hbw1.size; clear own0) | (at_builtin; refine wpList_app w1_ rfl (.tmp 71) (.tmp 72) 27 rfl wB.heap.size 3 i0 (.int .i64 0) 1 8 Try.underlying27 hi0 hz0 hz1 hz2 rfl Nat.one_pos v1_ (0 + n) ([] ++ iv xs) rfl hown1 1 #[.int .i64 3] rfl rfl F1.out q3 q4 hz1_ ?_; intro v2_ w2_ hown2 hbw2; (rw [Nat.zero_add, List.nil_append, show iv xs ++ (#[Value.int .i64 3] : Array Value).toList = iv (xs ++ [3]) by rw [iv_app]; rfl] at hown2); obtain ⟨A3, c3, rfl⟩ := own_shape_i hown2; have hr3 := reads_own_i hown2) | (go_at_call 34; refine (HL3.out A3 c3 w2_ hr3).mono ?_; rintro _ _ ⟨rfl, rfl⟩) | (go_at_call 18; fail))
        have hbB : Below wB.heap.size wB w2_ := (hbW1.trans hbw1).trans hbw2
        clear hbW1 hbw1 hbw2 hown1 hown2 q1 q2 q3 q4 F1 HCX HLX HOX hr3 HL3 d1 d2 V1 V1w
        have f5_0 : In w.heap.size w w2_ := f4_0.step hbB
        have f5_1 : ReadsI w2_ A n xs := f4_1.step hbB
        have f5_2 : ReadsI w2_ A2 m S := f4_2.step hbB
        clear f4_0 f4_1 f4_2
        clear hbB hz1_ hsz1 hW1
        obtain ⟨w3, hw3⟩ : ∃ w3, w3 = w2_ := ⟨_, rfl⟩
        subst hw3
        as_aux_lemma =>
         clear f5_2
         refine (HA0.out _ f5_0).mono ?_
         rintro e w' ⟨rfl, rfl⟩
         obtain ⟨wt, hwt⟩ : ∃ wt : Int, 1 + x0 = wt := ⟨_, rfl⟩
         have hwt1 : 1 ≤ wt ∧ wt ≤ 256 := by omega
         have V1 : IntKind.i64.wrap (1 + x0) = wt := by rw [IntWalk.i64_in _ (by omega)]; omega
         have V1w : wrap64 (1 + x0) = wt := by rw [w64 ⟨by omega, by omega⟩, hwt]
         clear hwt
         go_wp2_with fail
         refine (HA1.out _ f5_0).mono ?_
         rintro e w' ⟨rfl, rfl⟩
         obtain ⟨K, hK⟩ : ∃ K : Nat, (K : Int) = x1 % 5 := ⟨(x1 % 5).toNat, by omega⟩
         have hK4 : K ≤ 4 := by omega
         have V2 : x1.tmod 5 = (K : Int) := by rw [Int.tmod_eq_emod_of_nonneg h1.1, hK]
         have V3 : IntKind.i64.wrap (K : Int) = (K : Int) := IntWalk.i64_in _ (by omega)
         have HKK := Lib.hid hK
         clear hK
         go_wp2_with fail
         (try rw [← HKK.out])
         refine (iClosestLayers wt (K : Int) _).mono ?_
         rintro _ w4 ⟨rfl, hb4⟩
         have f6_0 : In w.heap.size w w4 := f5_0.step hb4
         have f6_1 : ReadsI w4 A n xs := f5_1.step hb4
         clear f5_0 f5_1
         clear hb4
         generalize hcv : closeV wt (K : Int) = cc at *
         have HCV := Lib.hid hcv
         clear hcv V1 V1w V2 V3
         have own0 := own_new w4 3 w4.heap.size (Nat.le_refl _)
         obtain ⟨W1, hW1⟩ : ∃ W1, W1 = w4.alloc (.cells #[] 3) := ⟨_, rfl⟩
         have hi1 : In w4.heap.size w4 W1 := by rw [hW1]; exact (In.refl w4).alloc _
         rw [← hW1] at own0
         go_wp2
         rw [← hW1]
         clear hW1
         go_loopw [12, 13] (fun v i wr => ∃ (k : Nat) (L : List Int), k ≤ K ∧ i = .int .i64 k ∧ wr.ownsRow w4.heap.size 3 1 v k (iv L) ∧ PF L k ∧ In w4.heap.size w4 wr) (fun _ i _ => K - (intOf i).toNat)
         case atStart => exact ⟨0, [], Nat.zero_le _, rfl, own0, fun i hi => absurd hi (Nat.not_lt_zero _), hi1⟩
         case round =>
           clear own0 hi1
           obtain ⟨k, L, hk, rfl, hown, hP, hin⟩ := hrel
           obtain ⟨A1, c1, rfl⟩ := own_shape_i hown
           by_cases hlt2 : k < K
           · skip
             have HP := Lib.hid hP
             clear hP
             obtain ⟨x, hxx, hat⟩ := HAt.out ((k : Int) + 2) (by omega) (by omega)
             have HAk := Lib.hid hat
             clear hat
             have V1 : IntKind.i64.wrap ((k : Int) + 2) = (k : Int) + 2 := by rw [IntWalk.i64_in _ (by omega)]
             have V1w : wrap64 ((k : Int) + 2) = (k : Int) + 2 := w64 ⟨by omega, by omega⟩
             have hIn := f6_0.step hin.below
             go_wp2_with fail
             refine (HAk.out _ hIn).mono ?_
             rintro e w' ⟨rfl, rfl⟩
             clear V1 V1w
             obtain ⟨x3, hx3⟩ : ∃ x3 : Int, x % 3 = x3 := ⟨_, rfl⟩
             have V2 : x.tmod 3 = x3 := by rw [Int.tmod_eq_emod_of_nonneg hxx.1, hx3]
             have hx3b : 0 ≤ x3 ∧ x3 ≤ 2 := by omega
             have V2w := IntWalk.i64_in x3 (by omega)
             obtain ⟨v9, hv9⟩ : ∃ v9 : Int, 2 + x3 = v9 := ⟨_, rfl⟩
             have V3 : IntKind.i64.wrap (2 + x3) = v9 := by rw [IntWalk.i64_in _ (by omega)]; omega
             have V3w : wrap64 (2 + x3) = v9 := by rw [w64 ⟨by omega, by omega⟩]; omega
             have hv9b : (fun v : Int => 2 ≤ v ∧ v ≤ 4) v9 := by simp only []; omega
             skip
             have F1 : Hid (∀ u ∈ (#[Value.int .i64 v9] : Array Value).toList, u.oneCell' = true) := Lib.hid (one_lit v9)
             have hk3 : k < 4 := Nat.lt_of_lt_of_le hlt2 hK4
             have hk4 : k ≤ 1000 := Nat.le_trans (Nat.le_of_lt hk3) (Nat.le.intro rfl : 4 ≤ 4 + 996)
             have f12 : k + 1 ≤ maxLen := cap12 hk4
             have f13 : (k + 1) * 8 ≤ 140737488355328 := cap13 hk4
             have hz9 := hin.size
             go_wp2_with (at_builtin; refine wpList_app wr rfl (.tmp 99) (.tmp 106) 27 rfl w4.heap.size 3 i0 (.int .i64 0) 1 8 Try.underlying27 hi0 hz0 hz1 hz2 rfl Nat.one_pos (.slice A1 k c1) k (iv L) rfl hown 1 #[.int .i64 v9] rfl rfl F1.out f12 f13 hz9 ?_; intro v1_ w1_ hown1 hbw1)
             have hl1 := own_len_i (xs := L) hown
             have hown2 : w1_.ownsRow w4.heap.size 3 1 v1_ (k + 1) (iv (L ++ [v9])) := by rw [iv_app]; exact hown1
             have hP2 := getD_app L k v9 hl1 (fun v => 2 ≤ v ∧ v ≤ 4) HP.out hv9b
             have hi2 := hin.wide hbw1
             clear hown1 hbw1 hown f12 f13 hz9 V2 V2w V3 V3w
             go_wp2
             go_roundw
             case rel => exact ⟨k + 1, L ++ [v9], by omega, by go_num, hown2, hP2, hi2⟩
             case measure => simp [intOf]; omega
           · skip
             obtain rfl : k = K := by omega
             obtain ⟨c, M, ec, eM, hc, hM, hcm⟩ := close_law hwt1 hK4 hP
             obtain rfl : cc = c := HCV.out.symm.trans ec
             have f7_0 : In w.heap.size w wr := f6_0.step hin.below
             have f7_1 : ReadsI wr A n xs := f6_1.step hin.below
             have f7_2 : ReadsI wr A1 k L := reads_own_i hown
             clear f6_0 f6_1
             have HLM := Lib.hid (fun W (h : ReadsI W A1 k L) => iLayersAfter A1 k c1 L W (by unfold maxLen; omega) h)
             rw [eM] at HLM
             clear hown hin hP HCV HKK ec eM
             go_wp2_with fail
             refine (HLM.out _ f7_2).mono ?_
             rintro e w' ⟨rfl, rfl⟩
             clear HLM f7_2
             have V7 : IntKind.i64.wrap (7 * N) = 7 * N := by rw [IntWalk.i64_in _ (by omega)]
             have V7w : wrap64 (7 * N) = 7 * N := w64 ⟨by omega, by omega⟩
             go_wp2_with fail
             refine (HF7.out _).mono ?_
             rintro _ w5 ⟨v7, rfl, hb5⟩
             have f8_0 : In w.heap.size w w5 := f7_0.step hb5
             have f8_1 : ReadsI w5 A n xs := f7_1.step hb5
             clear f7_0 f7_1
             clear hb5 HF7 V7 V7w
             go_wp2_with fail
             refine (HA0.out _ f8_0).mono ?_
             rintro e w' ⟨rfl, rfl⟩
             obtain ⟨rr, hrr⟩ : ∃ rr : Int, 1 + x0 * 30 = rr := ⟨_, rfl⟩
             have hrr1 : 1 ≤ rr ∧ rr ≤ 100000 := by omega
             have V0 : IntKind.i64.wrap (x0 * 30) = x0 * 30 := by rw [IntWalk.i64_in _ (by omega)]
             have V1 : IntKind.i64.wrap (1 + x0 * 30) = rr := by rw [IntWalk.i64_in _ (by omega)]; omega
             have V0w : wrap64 (x0 * 30) = x0 * 30 := w64 ⟨by omega, by omega⟩
             have V1w : wrap64 (1 + x0 * 30) = rr := by rw [w64 ⟨by omega, by omega⟩]; omega
             clear hrr
             have HTR := Lib.hid (fun W (h : ReadsI W A n xs) => HTH.out W h rr hrr1)
             obtain ⟨qq, hqq⟩ : ∃ qq, rr / N = qq := ⟨_, rfl⟩
             rw [hqq] at HTR
             have Q1 : rr.tdiv N = qq := by rw [Int.tdiv_eq_ediv_of_nonneg (by omega), hqq]
             have hqq2 : 0 ≤ qq ∧ qq ≤ 100000 := by have h1 := Int.ediv_nonneg (a := rr) (b := N) (by omega) (by omega); have h2 := Int.ediv_le_self N (a := rr) (by omega); omega
             have Q2 := IntWalk.i64_in qq (by omega)
             have Q3 : ¬ (N = 0) := by omega
             have Q4 : (N == 0) = false := by simpa using Q3
             clear hqq HTH
             have HC1 := Lib.hid (fun W => iCountFoldings 1 W)
             rw [cf1] at HC1
             have HC8 := Lib.hid (fun W => iCountFoldings 8 W)
             rw [cf_8] at HC8
             have HC12 := Lib.hid (fun W => iCountFoldings 12 W)
             rw [cf_12] at HC12
             have HC7 := Lib.hid (fun W => iCountFoldings 7 W)
             rw [cf_7] at HC7
             obtain ⟨p1, hp1⟩ : ∃ p : Int, cc - wt = p := ⟨_, rfl⟩
             obtain ⟨p2, hp2⟩ : ∃ p : Int, wt - cc = p := ⟨_, rfl⟩
             obtain ⟨p3, hp3⟩ : ∃ p : Int, M - wt = p := ⟨_, rfl⟩
             obtain ⟨p4, hp4⟩ : ∃ p : Int, wt - M = p := ⟨_, rfl⟩
             have V2 : IntKind.i64.wrap (cc - wt) = p1 := by rw [IntWalk.i64_in _ (by omega)]; omega
             have V3 : IntKind.i64.wrap (wt - cc) = p2 := by rw [IntWalk.i64_in _ (by omega)]; omega
             have V4 : IntKind.i64.wrap (M - wt) = p3 := by rw [IntWalk.i64_in _ (by omega)]; omega
             have V5 : IntKind.i64.wrap (wt - M) = p4 := by rw [IntWalk.i64_in _ (by omega)]; omega
             obtain ⟨D1, hD1⟩ : ∃ D, (if p1 < p2 then p2 else p1) = D := ⟨_, rfl⟩
             obtain ⟨D2, hD2⟩ : ∃ D, (if p3 < p4 then p4 else p3) = D := ⟨_, rfl⟩
             have d1 : decide (1 ≤ cc) = true := decide_eq_true (by omega)
             have d2 : decide (D1 ≤ D2) = true := decide_eq_true (by rw [← hD1, ← hD2]; split <;> split <;> omega)
             clear hp1 hp2 hp3 hp4 hcm
             go_wp2_with fail
             have HCL := Lib.hid (show ∀ W', In w.heap.size w W' ∧ ReadsI W' A n xs → ∀ W2, Below W'.heap.size W' W2 → In w.heap.size w W2 ∧ ReadsI W2 A n xs from fun W' h W2 hb => by
               obtain ⟨g0, g1⟩ := h
               exact ⟨g0.step hb, g1.step hb⟩)
             refine wp_region_S (C := (fun w' => In w.heap.size w w' ∧ ReadsI w' A n xs)) (by kernel_rfl) (by kernel_rfl) ?_ ?_
             · exact ⟨f8_0.drew, f8_1⟩
             repeat (first | go_big_quiet_skip | (go_big_quiet_want; first | (refine quiet_ex ?_; apply Exists.intro; refine ⟨fun W hW => ?_, ?_⟩; (· (obtain ⟨f9_0, f9_1⟩ := hW; go_simp; (first | done | with_reducible rfl | rfl))); simp only [Act.put, List.setIfInBounds_toArray, List.set_cons_zero, List.set_cons_succ]; go_big_quiet_on) | (refine quiet_ex ?_; apply Exists.intro; refine ⟨fun W hW => ?_, ?_⟩; (· (go_simp; first | (go_at_call 38; (with_reducible refine (HTR.out _ hW.2).mono ?_); rintro e w2 ⟨rfl, rfl⟩; exact ⟨rfl, hW⟩) | (go_at_call 36; (with_reducible refine (HC1.out _).mono ?_); rintro e w2 ⟨rfl, hb2⟩; exact ⟨rfl, HCL.out _ hW _ hb2⟩) | (go_at_call 36; (with_reducible refine (HC8.out _).mono ?_); rintro e w2 ⟨rfl, hb2⟩; exact ⟨rfl, HCL.out _ hW _ hb2⟩) | (go_at_call 36; (with_reducible refine (HC12.out _).mono ?_); rintro e w2 ⟨rfl, hb2⟩; exact ⟨rfl, HCL.out _ hW _ hb2⟩) | (go_at_call 36; (with_reducible refine (HC7.out _).mono ?_); rintro e w2 ⟨rfl, hb2⟩; exact ⟨rfl, HCL.out _ hW _ hb2⟩))); simp only [Act.put, List.setIfInBounds_toArray, List.set_cons_zero, List.set_cons_succ]; go_big_quiet_on)))
             refine wpQuiet_nil ?_
             rintro w' ⟨f9_0, f9_1⟩
             clear f8_0 f8_1
             go_wp2
             go_ret
             exact ⟨ret_bool rfl, f9_0.below⟩
      · skip
        have d1 : decide ((n : Int) ≤ 5) = false := decide_eq_false (by omega)
        have d2 : decide (n ≤ 5) = false := decide_eq_false h5
        have g5_ : (5 : Int) < (n : Int) := by omega
        have g6_ : 5 < n := by omega
        go_wp2_with (first | (at_builtin; (rw [← hW1]); refine wpList_app_spread rfl (.tmp 69) (.tmp 70) 27 rfl wB.heap.size 3 i0 (.int .i64 0) 1 8 Try.underlying27 hi0 hz0 hz1 hz2 rfl Nat.one_pos (.slice (some ⟨wB.heap.size, 0, none⟩) 0 0) 0 [] rfl own0 A n cp (iv xs) rfl HAn.out HLX.out HCX.out HOX.out q1 q2 hsz1 ?_; intro v1_ w1_ hown1 hbw1; have hz1_ : wB.heap.size ≤ w1_.heap.size := Nat.le_trans hsz1 hbw1.size; clear own0) | (at_builtin; refine wpList_app w1_ rfl (.tmp 71) (.tmp 72) 27 rfl wB.heap.size 3 i0 (.int .i64 0) 1 8 Try.underlying27 hi0 hz0 hz1 hz2 rfl Nat.one_pos v1_ (0 + n) ([] ++ iv xs) rfl hown1 1 #[.int .i64 3] rfl rfl F1.out q3 q4 hz1_ ?_; intro v2_ w2_ hown2 hbw2; (rw [Nat.zero_add, List.nil_append, show iv xs ++ (#[Value.int .i64 3] : Array Value).toList = iv (xs ++ [3]) by rw [iv_app]; rfl] at hown2); obtain ⟨A3, c3, rfl⟩ := own_shape_i hown2; have hr3 := reads_own_i hown2) | (go_at_call 34; refine (HL3.out A3 c3 w2_ hr3).mono ?_; rintro _ _ ⟨rfl, rfl⟩) | (go_at_call 18; fail))
        have hbB : Below wB.heap.size wB w2_ := (hbW1.trans hbw1).trans hbw2
        clear hbW1 hbw1 hbw2 hown1 hown2 q1 q2 q3 q4 F1 HCX HLX HOX hr3 HL3 d1 d2
        have f5_0 : In w.heap.size w w2_ := f4_0.step hbB
        have f5_1 : ReadsI w2_ A n xs := f4_1.step hbB
        have f5_2 : ReadsI w2_ A2 m S := f4_2.step hbB
        clear f4_0 f4_1 f4_2
        clear hbB hz1_ hsz1 hW1
        obtain ⟨w3, hw3⟩ : ∃ w3, w3 = w2_ := ⟨_, rfl⟩
        subst hw3
        as_aux_lemma =>
         clear f5_2
         refine (HA0.out _ f5_0).mono ?_
         rintro e w' ⟨rfl, rfl⟩
         obtain ⟨wt, hwt⟩ : ∃ wt : Int, 1 + x0 = wt := ⟨_, rfl⟩
         have hwt1 : 1 ≤ wt ∧ wt ≤ 256 := by omega
         have V1 : IntKind.i64.wrap (1 + x0) = wt := by rw [IntWalk.i64_in _ (by omega)]; omega
         have V1w : wrap64 (1 + x0) = wt := by rw [w64 ⟨by omega, by omega⟩, hwt]
         clear hwt
         go_wp2_with fail
         refine (HA1.out _ f5_0).mono ?_
         rintro e w' ⟨rfl, rfl⟩
         obtain ⟨K, hK⟩ : ∃ K : Nat, (K : Int) = x1 % 5 := ⟨(x1 % 5).toNat, by omega⟩
         have hK4 : K ≤ 4 := by omega
         have V2 : x1.tmod 5 = (K : Int) := by rw [Int.tmod_eq_emod_of_nonneg h1.1, hK]
         have V3 : IntKind.i64.wrap (K : Int) = (K : Int) := IntWalk.i64_in _ (by omega)
         have HKK := Lib.hid hK
         clear hK
         go_wp2_with fail
         (try rw [← HKK.out])
         refine (iClosestLayers wt (K : Int) _).mono ?_
         rintro _ w4 ⟨rfl, hb4⟩
         have f6_0 : In w.heap.size w w4 := f5_0.step hb4
         have f6_1 : ReadsI w4 A n xs := f5_1.step hb4
         clear f5_0 f5_1
         clear hb4
         generalize hcv : closeV wt (K : Int) = cc at *
         have HCV := Lib.hid hcv
         clear hcv V1 V1w V2 V3
         have own0 := own_new w4 3 w4.heap.size (Nat.le_refl _)
         obtain ⟨W1, hW1⟩ : ∃ W1, W1 = w4.alloc (.cells #[] 3) := ⟨_, rfl⟩
         have hi1 : In w4.heap.size w4 W1 := by rw [hW1]; exact (In.refl w4).alloc _
         rw [← hW1] at own0
         go_wp2
         rw [← hW1]
         clear hW1
         go_loopw [12, 13] (fun v i wr => ∃ (k : Nat) (L : List Int), k ≤ K ∧ i = .int .i64 k ∧ wr.ownsRow w4.heap.size 3 1 v k (iv L) ∧ PF L k ∧ In w4.heap.size w4 wr) (fun _ i _ => K - (intOf i).toNat)
         case atStart => exact ⟨0, [], Nat.zero_le _, rfl, own0, fun i hi => absurd hi (Nat.not_lt_zero _), hi1⟩
         case round =>
           clear own0 hi1
           obtain ⟨k, L, hk, rfl, hown, hP, hin⟩ := hrel
           obtain ⟨A1, c1, rfl⟩ := own_shape_i hown
           by_cases hlt2 : k < K
           · skip
             have HP := Lib.hid hP
             clear hP
             obtain ⟨x, hxx, hat⟩ := HAt.out ((k : Int) + 2) (by omega) (by omega)
             have HAk := Lib.hid hat
             clear hat
             have V1 : IntKind.i64.wrap ((k : Int) + 2) = (k : Int) + 2 := by rw [IntWalk.i64_in _ (by omega)]
             have V1w : wrap64 ((k : Int) + 2) = (k : Int) + 2 := w64 ⟨by omega, by omega⟩
             have hIn := f6_0.step hin.below
             go_wp2_with fail
             refine (HAk.out _ hIn).mono ?_
             rintro e w' ⟨rfl, rfl⟩
             clear V1 V1w
             obtain ⟨x3, hx3⟩ : ∃ x3 : Int, x % 3 = x3 := ⟨_, rfl⟩
             have V2 : x.tmod 3 = x3 := by rw [Int.tmod_eq_emod_of_nonneg hxx.1, hx3]
             have hx3b : 0 ≤ x3 ∧ x3 ≤ 2 := by omega
             have V2w := IntWalk.i64_in x3 (by omega)
             obtain ⟨v9, hv9⟩ : ∃ v9 : Int, 2 + x3 = v9 := ⟨_, rfl⟩
             have V3 : IntKind.i64.wrap (2 + x3) = v9 := by rw [IntWalk.i64_in _ (by omega)]; omega
             have V3w : wrap64 (2 + x3) = v9 := by rw [w64 ⟨by omega, by omega⟩]; omega
             have hv9b : (fun v : Int => 2 ≤ v ∧ v ≤ 4) v9 := by simp only []; omega
             skip
             have F1 : Hid (∀ u ∈ (#[Value.int .i64 v9] : Array Value).toList, u.oneCell' = true) := Lib.hid (one_lit v9)
             have hk3 : k < 4 := Nat.lt_of_lt_of_le hlt2 hK4
             have hk4 : k ≤ 1000 := Nat.le_trans (Nat.le_of_lt hk3) (Nat.le.intro rfl : 4 ≤ 4 + 996)
             have f12 : k + 1 ≤ maxLen := cap12 hk4
             have f13 : (k + 1) * 8 ≤ 140737488355328 := cap13 hk4
             have hz9 := hin.size
             go_wp2_with (at_builtin; refine wpList_app wr rfl (.tmp 99) (.tmp 106) 27 rfl w4.heap.size 3 i0 (.int .i64 0) 1 8 Try.underlying27 hi0 hz0 hz1 hz2 rfl Nat.one_pos (.slice A1 k c1) k (iv L) rfl hown 1 #[.int .i64 v9] rfl rfl F1.out f12 f13 hz9 ?_; intro v1_ w1_ hown1 hbw1)
             have hl1 := own_len_i (xs := L) hown
             have hown2 : w1_.ownsRow w4.heap.size 3 1 v1_ (k + 1) (iv (L ++ [v9])) := by rw [iv_app]; exact hown1
             have hP2 := getD_app L k v9 hl1 (fun v => 2 ≤ v ∧ v ≤ 4) HP.out hv9b
             have hi2 := hin.wide hbw1
             clear hown1 hbw1 hown f12 f13 hz9 V2 V2w V3 V3w
             go_wp2
             go_roundw
             case rel => exact ⟨k + 1, L ++ [v9], by omega, by go_num, hown2, hP2, hi2⟩
             case measure => simp [intOf]; omega
           · skip
             obtain rfl : k = K := by omega
             obtain ⟨c, M, ec, eM, hc, hM, hcm⟩ := close_law hwt1 hK4 hP
             obtain rfl : cc = c := HCV.out.symm.trans ec
             have f7_0 : In w.heap.size w wr := f6_0.step hin.below
             have f7_1 : ReadsI wr A n xs := f6_1.step hin.below
             have f7_2 : ReadsI wr A1 k L := reads_own_i hown
             clear f6_0 f6_1
             have HLM := Lib.hid (fun W (h : ReadsI W A1 k L) => iLayersAfter A1 k c1 L W (by unfold maxLen; omega) h)
             rw [eM] at HLM
             clear hown hin hP HCV HKK ec eM
             go_wp2_with fail
             refine (HLM.out _ f7_2).mono ?_
             rintro e w' ⟨rfl, rfl⟩
             clear HLM f7_2
             have V7 : IntKind.i64.wrap (7 * N) = 7 * N := by rw [IntWalk.i64_in _ (by omega)]
             have V7w : wrap64 (7 * N) = 7 * N := w64 ⟨by omega, by omega⟩
             go_wp2_with fail
             refine (HF7.out _).mono ?_
             rintro _ w5 ⟨v7, rfl, hb5⟩
             have f8_0 : In w.heap.size w w5 := f7_0.step hb5
             have f8_1 : ReadsI w5 A n xs := f7_1.step hb5
             clear f7_0 f7_1
             clear hb5 HF7 V7 V7w
             go_wp2_with fail
             refine (HA0.out _ f8_0).mono ?_
             rintro e w' ⟨rfl, rfl⟩
             obtain ⟨rr, hrr⟩ : ∃ rr : Int, 1 + x0 * 30 = rr := ⟨_, rfl⟩
             have hrr1 : 1 ≤ rr ∧ rr ≤ 100000 := by omega
             have V0 : IntKind.i64.wrap (x0 * 30) = x0 * 30 := by rw [IntWalk.i64_in _ (by omega)]
             have V1 : IntKind.i64.wrap (1 + x0 * 30) = rr := by rw [IntWalk.i64_in _ (by omega)]; omega
             have V0w : wrap64 (x0 * 30) = x0 * 30 := w64 ⟨by omega, by omega⟩
             have V1w : wrap64 (1 + x0 * 30) = rr := by rw [w64 ⟨by omega, by omega⟩]; omega
             clear hrr
             have HTR := Lib.hid (fun W (h : ReadsI W A n xs) => HTH.out W h rr hrr1)
             obtain ⟨qq, hqq⟩ : ∃ qq, rr / N = qq := ⟨_, rfl⟩
             rw [hqq] at HTR
             have Q1 : rr.tdiv N = qq := by rw [Int.tdiv_eq_ediv_of_nonneg (by omega), hqq]
             have hqq2 : 0 ≤ qq ∧ qq ≤ 100000 := by have h1 := Int.ediv_nonneg (a := rr) (b := N) (by omega) (by omega); have h2 := Int.ediv_le_self N (a := rr) (by omega); omega
             have Q2 := IntWalk.i64_in qq (by omega)
             have Q3 : ¬ (N = 0) := by omega
             have Q4 : (N == 0) = false := by simpa using Q3
             clear hqq HTH
             have HC1 := Lib.hid (fun W => iCountFoldings 1 W)
             rw [cf1] at HC1
             have HC8 := Lib.hid (fun W => iCountFoldings 8 W)
             rw [cf_8] at HC8
             have HC12 := Lib.hid (fun W => iCountFoldings 12 W)
             rw [cf_12] at HC12
             have HC7 := Lib.hid (fun W => iCountFoldings 7 W)
             rw [cf_7] at HC7
             obtain ⟨p1, hp1⟩ : ∃ p : Int, cc - wt = p := ⟨_, rfl⟩
             obtain ⟨p2, hp2⟩ : ∃ p : Int, wt - cc = p := ⟨_, rfl⟩
             obtain ⟨p3, hp3⟩ : ∃ p : Int, M - wt = p := ⟨_, rfl⟩
             obtain ⟨p4, hp4⟩ : ∃ p : Int, wt - M = p := ⟨_, rfl⟩
             have V2 : IntKind.i64.wrap (cc - wt) = p1 := by rw [IntWalk.i64_in _ (by omega)]; omega
             have V3 : IntKind.i64.wrap (wt - cc) = p2 := by rw [IntWalk.i64_in _ (by omega)]; omega
             have V4 : IntKind.i64.wrap (M - wt) = p3 := by rw [IntWalk.i64_in _ (by omega)]; omega
             have V5 : IntKind.i64.wrap (wt - M) = p4 := by rw [IntWalk.i64_in _ (by omega)]; omega
             obtain ⟨D1, hD1⟩ : ∃ D, (if p1 < p2 then p2 else p1) = D := ⟨_, rfl⟩
             obtain ⟨D2, hD2⟩ : ∃ D, (if p3 < p4 then p4 else p3) = D := ⟨_, rfl⟩
             have d1 : decide (1 ≤ cc) = true := decide_eq_true (by omega)
             have d2 : decide (D1 ≤ D2) = true := decide_eq_true (by rw [← hD1, ← hD2]; split <;> split <;> omega)
             clear hp1 hp2 hp3 hp4 hcm
             go_wp2_with fail
             have HCL := Lib.hid (show ∀ W', In w.heap.size w W' ∧ ReadsI W' A n xs → ∀ W2, Below W'.heap.size W' W2 → In w.heap.size w W2 ∧ ReadsI W2 A n xs from fun W' h W2 hb => by
               obtain ⟨g0, g1⟩ := h
               exact ⟨g0.step hb, g1.step hb⟩)
             refine wp_region_S (C := (fun w' => In w.heap.size w w' ∧ ReadsI w' A n xs)) (by kernel_rfl) (by kernel_rfl) ?_ ?_
             · exact ⟨f8_0.drew, f8_1⟩
             repeat (first | go_big_quiet_skip | (go_big_quiet_want; first | (refine quiet_ex ?_; apply Exists.intro; refine ⟨fun W hW => ?_, ?_⟩; (· (obtain ⟨f9_0, f9_1⟩ := hW; go_simp; (first | done | with_reducible rfl | rfl))); simp only [Act.put, List.setIfInBounds_toArray, List.set_cons_zero, List.set_cons_succ]; go_big_quiet_on) | (refine quiet_ex ?_; apply Exists.intro; refine ⟨fun W hW => ?_, ?_⟩; (· (go_simp; first | (go_at_call 38; (with_reducible refine (HTR.out _ hW.2).mono ?_); rintro e w2 ⟨rfl, rfl⟩; exact ⟨rfl, hW⟩) | (go_at_call 36; (with_reducible refine (HC1.out _).mono ?_); rintro e w2 ⟨rfl, hb2⟩; exact ⟨rfl, HCL.out _ hW _ hb2⟩) | (go_at_call 36; (with_reducible refine (HC8.out _).mono ?_); rintro e w2 ⟨rfl, hb2⟩; exact ⟨rfl, HCL.out _ hW _ hb2⟩) | (go_at_call 36; (with_reducible refine (HC12.out _).mono ?_); rintro e w2 ⟨rfl, hb2⟩; exact ⟨rfl, HCL.out _ hW _ hb2⟩) | (go_at_call 36; (with_reducible refine (HC7.out _).mono ?_); rintro e w2 ⟨rfl, hb2⟩; exact ⟨rfl, HCL.out _ hW _ hb2⟩))); simp only [Act.put, List.setIfInBounds_toArray, List.set_cons_zero, List.set_cons_succ]; go_big_quiet_on)))
             refine wpQuiet_nil ?_
             rintro w' ⟨f9_0, f9_1⟩
             clear f8_0 f8_1
             go_wp2
             go_ret
             exact ⟨ret_bool rfl, f9_0.below⟩
 end Go.Proofs.Ytgjbbidcpmglbaa
