/- The walk of the law FnDoughs. -/
import Derived.Test.YtmafnlcphohioaaW02
import Derived.Test.YtmafnlcphohioaaDrw
import Derived.Test.YtmafnlcphohioaaAt
import Derived.Test.YtmafnlcphohioaaQuietL
import Derived.BigQuiet
import Derived.Deep.QuietTactic
namespace Go.Proofs.Ytmafnlcphohioaa
open Go.ChangeShapes Go.WideShapes Go.ChangeAt Go.RowKit
set_option linter.unusedVariables false
set_option linter.unusedSimpArgs false
set_option maxHeartbeats 2000000

theorem part_form {F a : Int} (hF : 0 ≤ F ∧ F ≤ 2295) (ha : 0 ≤ a ∧ a ≤ 2000) : ∃ A P : Int, F * a = A ∧ partV F a = P ∧ 0 ≤ A ∧ A ≤ 4590000 ∧ 1000 * P ≤ A + 500 ∧ A - 500 < 1000 * P ∧ 0 ≤ P ∧ P ≤ 10000 := by
  have m := mul_in hF.1 hF.2 ha.1 ha.2
  refine ⟨_, _, rfl, rfl, ?_⟩
  rw [partV, if_pos (by omega), Int.tdiv_eq_ediv_of_nonneg (by omega)]
  omega
theorem dough_law {a b c W : Int} (ha : 550 ≤ a ∧ a ≤ 799) (hb : 15 ≤ b ∧ b ≤ 24) (hc : 0 ≤ c ∧ c ≤ 249) (hW : 0 ≤ W ∧ W ≤ 2295) :
    dOk a b c = true ∧ dOk (a - 1) b c = true ∧ ∃ p F FP GP P1 P2 P3 q n : Int, 1000 + a + b + c = p ∧ wholeV a b c = p ∧ flourV a b c W = F ∧ (0 ≤ F ∧ F ≤ 2295) ∧ F * p = FP ∧ (F - 1) * p = GP ∧
      partV F a = P1 ∧ partV F b = P2 ∧ partV F c = P3 ∧ partV F 20 = q ∧ weightV a b c F = n ∧ F + P1 + P2 + P3 = n ∧ W * 1000 ≤ FP ∧ GP < W * 1000 ∧ (0 < F → 0 ≤ GP) ∧ FP ≤ 5000000 ∧ -5000 ≤ GP ∧
      (0 ≤ P1 ∧ P1 ≤ 10000) ∧ (0 ≤ P2 ∧ P2 ≤ 10000) ∧ (0 ≤ P3 ∧ P3 ≤ 10000) ∧ (0 ≤ q ∧ q ≤ 10000) ∧ W - 2 ≤ n ∧ 1000 * q ≤ 20 * F + 500 ∧ 20 * F - 501 < 1000 * q := by
  have h1 : dOk a b c = true := by simp [dOk]; omega
  have h2 : dOk (a - 1) b c = true := by simp [dOk]; omega
  refine ⟨h1, h2, ?_⟩
  obtain ⟨p, hp⟩ : ∃ p, 1000 + a + b + c = p := ⟨_, rfl⟩
  have hF0 : flourV a b c W = (W * 1000 + p - 1) / p := by
    rw [flourV, if_pos ⟨h1, by omega, by omega⟩, hp, Int.tdiv_eq_ediv_of_nonneg (by omega)]
  obtain ⟨F, hF⟩ : ∃ F, (W * 1000 + p - 1) / p = F := ⟨_, rfl⟩
  have k1 : F * p ≤ W * 1000 + p - 1 := by rw [← hF]; exact Int.ediv_mul_le _ (by omega)
  have k2 : W * 1000 + p - 1 < (F + 1) * p := by rw [← hF]; exact Int.lt_ediv_add_one_mul_self _ (by omega)
  have k3 : 0 ≤ F := by rw [← hF]; exact Int.ediv_nonneg (by omega) (by omega)
  have k4 : F < 2296 := by rw [← hF]; exact Int.ediv_lt_of_lt_mul (by omega) (by omega)
  have k5 : (F + 1) * p = F * p + p := by rw [Int.add_mul]; omega
  have k6 : (F - 1) * p = F * p - p := by rw [Int.sub_mul]; omega
  obtain ⟨A, P1, e1, f1, a1, a2, a3, a4, a5, a6⟩ := part_form (F := F) (a := a) (by omega) (by omega)
  obtain ⟨B, P2, e2, f2, b1, b2, b3, b4, b5, b6⟩ := part_form (F := F) (a := b) (by omega) (by omega)
  obtain ⟨C, P3, e3, f3, c1, c2, c3, c4, c5, c6⟩ := part_form (F := F) (a := c) (by omega) (by omega)
  obtain ⟨D, q, e4, f4, d1, d2, d3, d4, d5, d6⟩ := part_form (F := F) (a := 20) (by omega) (by omega)
  have k7 : F * p = 1000 * F + A + B + C := by rw [← hp, Int.mul_add, Int.mul_add, Int.mul_add, e1, e2, e3]; omega
  refine ⟨p, F, _, _, P1, P2, P3, q, _, hp, by rw [wholeV, if_pos h1]; exact hp, by rw [hF0]; exact hF, by omega, rfl, rfl, f1, f2, f3, f4, rfl, ?_, ?_⟩
  · rw [weight_yes h1 (by omega) (by omega)]
    simp [sumTo, amtV, f1, f2, f3]
  have hn : weightV a b c F = F + P1 + P2 + P3 := by
    rw [weight_yes h1 (by omega) (by omega)]
    simp [sumTo, amtV, f1, f2, f3]
  rw [hn, k6]
  have k8 : 0 < F → p ≤ F * p := fun h => by have := Int.mul_le_mul_of_nonneg_right (show 1 ≤ F by omega) (show 0 ≤ p by omega); omega
  have k9 : 0 ≤ F * p := Int.mul_nonneg (by omega) (by omega)
  generalize F * p = FP at *
  refine ⟨by omega, by omega, fun h => by have := k8 h; omega, by omega, by omega, by omega, by omega, by omega, by omega, by omega, by omega, by omega⟩
theorem amounts_at {a b c F P1 P2 P3 : Int} (hd : dOk a b c = true) (hF : 0 ≤ F ∧ F ≤ 2295) (h1 : partV F a = P1) (h2 : partV F b = P2) (h3 : partV F c = P3) (W : World) :
    Calls Try.prog 27 #[.agg #[.int .i64 a, .int .i64 b, .int .i64 c], .int .i64 F] W (fun e w' => ∃ g, e = .returned (.slice (some ⟨g, 0, none⟩) 4 4) ∧ Below W.heap.size W w' ∧ w'.cell? ⟨g, 0, none⟩ = some (.int .i64 F) ∧ w'.cell? ⟨g, 1, none⟩ = some (.int .i64 P1) ∧ w'.cell? ⟨g, 2, none⟩ = some (.int .i64 P2) ∧ w'.cell? ⟨g, 3, none⟩ = some (.int .i64 P3)) := by
  subst h1 h2 h3
  refine (iAmounts_yes a b c F hd hF.1 (by omega) W).mono ?_
  rintro e w' ⟨g, rfl, ho, hb⟩
  have R := reads_own ho
  have C := fun (k : Nat) (hk : k < 4) => show w'.cell? ⟨g, k, none⟩ = some (.int .i64 ([F, partV F a, partV F b, partV F c].getD k 0)) by
    obtain ⟨ad, e, h⟩ := R.2 k hk
    injection e with e
    subst e
    simpa [Addr.add_lit] using h
  exact ⟨g, rfl, hb, C 0 (by omega), C 1 (by omega), C 2 (by omega), C 3 (by omega)⟩
theorem firm_less {a b c : Int} (h1 : dOk a b c = true) (h2 : dOk (a - 1) b c = true) : firmV (a - 1) b c a b c = -1 ∧ firmV a b c (a - 1) b c = 1 ∧ firmV a b c a b c = 0 := by
  refine ⟨?_, ?_, ?_⟩
  · rw [firmV, if_pos ⟨h2, h1⟩, if_pos (by omega)]
  · rw [firmV, if_pos ⟨h1, h2⟩, if_neg (by omega), if_pos (by omega)]
  · rw [firmV, if_pos ⟨h1, h1⟩, if_neg (by omega), if_neg (by omega)]
set_option maxHeartbeats 8000000 in
set_option maxRecDepth 20000 in
theorem walk_FnDoughs (a0 : Option Addr) (len0 cap0 : Nat) (z0 : List Int) (w : World) (w0 : IsRow .u8 w a0 len0 cap0 z0) :
    Calls Try.prog 5 #[.slice a0 len0 cap0] w fun e w' => e = .returned (.bool true) ∧ Below w.heap.size w w' := by
  have hb := ReadsU.of_row w0
  have hm := hb.1
  clear w0
  by_cases hbig : (1048576 : Int) < (len0 : Int)
  · go_enter Try.func5, Try.ntmps5
    go_wp2_with fail
    refine (bigU _ _ _ _ hm true (by simpa using hbig)).mono ?_
    rintro e w' ⟨rfl, rfl⟩
    go_wp2_with fail
    go_ret
    exact ⟨rfl, Below.refl _ _⟩
  have HB := Lib.hid hb
  go_enter Try.func5, Try.ntmps5
  go_wp2_with fail
  refine (bigU _ _ _ _ hm false (by simpa using hbig)).mono ?_
  rintro e w' ⟨rfl, rfl⟩
  clear hbig hm hb
  go_wp2_with fail
  refine (drawDough _ _ _ _ (bytes_of HB.out)).mono ?_
  rintro _ w1 ⟨x0, x1, c, ⟨hx0, hx1, hc⟩, rfl, hb1⟩
  have ha : 550 ≤ 550 + x0 ∧ 550 + x0 ≤ 799 := by omega
  have hb : 15 ≤ 15 + x1 ∧ 15 + x1 ≤ 24 := by omega
  have hc : 0 ≤ c ∧ c ≤ 249 := by omega
  generalize 550 + x0 = a at *
  generalize 15 + x1 = b at *
  have i1 : In w.heap.size w w1 := In.step (by (repeat (first | exact In.refl _ | assumption | apply In.alloc | apply In.drewN | apply In.drew | (refine In.step ?_ (by assumption))))) hb1
  have kr1 : Blk (w1.alloc (.cells #[.int .i64 a, .int .i64 b, .int .i64 c] 43)) w1.heap.size 43 #[.int .i64 a, .int .i64 b, .int .i64 c] := Blk.new w1 _ _
  have j1 : In w.heap.size w (w1.alloc (.cells #[.int .i64 a, .int .i64 b, .int .i64 c] 43)) := i1.alloc _
  have cr10 := kr1.cell 0
  have cr11 := kr1.cell 1
  have cr12 := kr1.cell 2
  simp at cr10 cr11 cr12
  clear hb1 i1
  go_wp2_with fail
  refine (at_c _ _ _ 0 _ (by omega) (by omega) (HB.out.in_ j1)).mono ?_
  rintro e w' ⟨y0, hy0, rfl, rfl⟩
  go_wp2_with fail
  have hW : 0 ≤ y0 * 9 ∧ y0 * 9 ≤ 2295 := by omega
  generalize y0 * 9 = W at *
  obtain ⟨hd, hd1, p, F, FP, GP, P1, P2, P3, q, n, hp, hwh, hfl, hF, hFP, hGP, hP1, hP2, hP3, hq, hwe, hn, hA, hB, hC, hD, hE, r1, r2, r3, r4, s1, s2, s3⟩ := dough_law ha hb hc hW
  have HFL := Lib.hid (fun W' => iFlourFor a b c W W')
  have HWH := Lib.hid (fun W' => iWholeParts a b c W')
  have HAM := Lib.hid (fun W' => amounts_at hd hF hP1 hP2 hP3 W')
  have HQ1 := Lib.hid (fun W' => iPartOf F a W')
  have HQ2 := Lib.hid (fun W' => iPartOf F b W')
  have HQ3 := Lib.hid (fun W' => iPartOf F c W')
  have HQ4 := Lib.hid (fun W' => iPartOf F 20 W')
  have HWE := Lib.hid (fun W' => iDoughWeight a b c F W')
  have HOK := Lib.hid (fun W' => iDoughOk a b c W')
  have HF1 := Lib.hid (fun W' => iFirmer (a - 1) b c a b c W')
  have HF2 := Lib.hid (fun W' => iFirmer a b c (a - 1) b c W')
  have HF3 := Lib.hid (fun W' => iFirmer a b c a b c W')
  rw [hfl] at HFL
  rw [hwh] at HWH
  rw [hP1] at HQ1
  rw [hP2] at HQ2
  rw [hP3] at HQ3
  rw [hq] at HQ4
  rw [hwe] at HWE
  rw [hd] at HOK
  rw [(firm_less hd hd1).1] at HF1
  rw [(firm_less hd hd1).2.1] at HF2
  rw [(firm_less hd hd1).2.2] at HF3
  clear hd hd1 hwh hfl hP1 hP2 hP3 hq hwe HB
  refine (HFL.out _).mono ?_
  rintro _ w2 ⟨rfl, hb2⟩
  have kr2 := kr1.step hb2
  have j2 := j1.step hb2
  have cr20 := kr2.cell 0
  have cr21 := kr2.cell 1
  have cr22 := kr2.cell 2
  simp at cr20 cr21 cr22
  clear kr1 j1 hb2 HFL cr10 cr11 cr12
  go_wp2_with fail
  refine (HWH.out _).mono ?_
  rintro _ w3 ⟨rfl, hb3⟩
  have kr3 := kr2.step hb3
  have j3 := j2.step hb3
  have cr30 := kr3.cell 0
  have cr31 := kr3.cell 1
  have cr32 := kr3.cell 2
  simp at cr30 cr31 cr32
  clear kr2 j2 hb3 HWH cr20 cr21 cr22
  go_wp2_with fail
  refine (HAM.out _).mono ?_
  rintro _ w4 ⟨g, rfl, hb4, g40, g41, g42, g43⟩
  have kr4 := kr3.step hb4
  have j4 := j3.step hb4
  have cr40 := kr4.cell 0
  have cr41 := kr4.cell 1
  have cr42 := kr4.cell 2
  simp at cr40 cr41 cr42
  clear kr3 j3 hb4 HAM cr30 cr31 cr32
  have v1 : IntKind.i64.wrap (1000 + a) = 1000 + a := by rw [IntWalk.i64_in _ (by omega)]
  have v2 : IntKind.i64.wrap (1000 + a + b) = 1000 + a + b := by rw [IntWalk.i64_in _ (by omega)]
  have v3 : IntKind.i64.wrap (1000 + a + b + c) = p := by rw [IntWalk.i64_in _ (by omega)]; omega
  have v6 : IntKind.i64.wrap (F - 1) = F - 1 := by rw [IntWalk.i64_in _ (by omega)]
  have v4 : IntKind.i64.wrap (F * p) = FP := by rw [hFP]; exact IntWalk.i64_in _ (by omega)
  have v7 : IntKind.i64.wrap ((F - 1) * p) = GP := by rw [hGP]; exact IntWalk.i64_in _ (by omega)
  have t1 : FP.tdiv 1000 = FP / 1000 := Int.tdiv_eq_ediv_of_nonneg (by omega)
  have v5 : IntKind.i64.wrap (FP / 1000) = FP / 1000 := IntWalk.i64_in _ (by omega)
  have d1 : decide (F < 0) = false := by simp; omega
  have d2 : decide (FP / 1000 < W) = false := by simp; omega
  have HCL := Lib.hid (show ∀ W', In w.heap.size w W' ∧ W'.cell? ⟨w1.heap.size, 0, none⟩ = some (.int .i64 a) ∧ W'.cell? ⟨w1.heap.size, 1, none⟩ = some (.int .i64 b) ∧ W'.cell? ⟨w1.heap.size, 2, none⟩ = some (.int .i64 c) ∧ W'.cell? ⟨g, 0, none⟩ = some (.int .i64 F) ∧ W'.cell? ⟨g, 1, none⟩ = some (.int .i64 P1) ∧ W'.cell? ⟨g, 2, none⟩ = some (.int .i64 P2) ∧ W'.cell? ⟨g, 3, none⟩ = some (.int .i64 P3) → ∀ W2, Below W'.heap.size W' W2 → In w.heap.size w W2 ∧ W2.cell? ⟨w1.heap.size, 0, none⟩ = some (.int .i64 a) ∧ W2.cell? ⟨w1.heap.size, 1, none⟩ = some (.int .i64 b) ∧ W2.cell? ⟨w1.heap.size, 2, none⟩ = some (.int .i64 c) ∧ W2.cell? ⟨g, 0, none⟩ = some (.int .i64 F) ∧ W2.cell? ⟨g, 1, none⟩ = some (.int .i64 P1) ∧ W2.cell? ⟨g, 2, none⟩ = some (.int .i64 P2) ∧ W2.cell? ⟨g, 3, none⟩ = some (.int .i64 P3) from fun W' h W2 hb => by
    obtain ⟨h0, g0, g1, g2, g3, g4, g5, g6⟩ := h
    exact ⟨h0.step hb, cell_in g0 ⟨hb, hb.size⟩, cell_in g1 ⟨hb, hb.size⟩, cell_in g2 ⟨hb, hb.size⟩, cell_in g3 ⟨hb, hb.size⟩, cell_in g4 ⟨hb, hb.size⟩, cell_in g5 ⟨hb, hb.size⟩, cell_in g6 ⟨hb, hb.size⟩⟩)
  have HKF := Lib.hid (And.intro hF (And.intro hn (And.intro r1 (And.intro r2 (And.intro r3 (And.intro r4 (And.intro s1 (And.intro s2 s3))))))))
  have HKA := Lib.hid (And.intro ha hW)
  by_cases hpos : 0 < F
  · skip
    have d3 : decide (0 < F) = true := by simpa using hpos
    have t2 : GP.tdiv 1000 = GP / 1000 := Int.tdiv_eq_ediv_of_nonneg (hC hpos)
    have v8 : IntKind.i64.wrap (GP / 1000) = GP / 1000 := IntWalk.i64_in _ (by omega)
    have d4 : decide (W ≤ GP / 1000) = false := by have := hC hpos; simp; omega
    clear ha hb hc hW hp hF hFP hGP hn hA hB hC hD hE r1 r2 r3 r4 s1 s2 s3 hpos
    simp only []
    iterate 9 go_step
    rw [List.append_eq]
    (try rw [List.append_eq])
    (repeat rw [List.cons_append])
    (repeat rw [List.nil_append])
    refine wp_region_S (C := (fun w' => In w.heap.size w w' ∧ w'.cell? ⟨w1.heap.size, 0, none⟩ = some (.int .i64 a) ∧ w'.cell? ⟨w1.heap.size, 1, none⟩ = some (.int .i64 b) ∧ w'.cell? ⟨w1.heap.size, 2, none⟩ = some (.int .i64 c) ∧ w'.cell? ⟨g, 0, none⟩ = some (.int .i64 F) ∧ w'.cell? ⟨g, 1, none⟩ = some (.int .i64 P1) ∧ w'.cell? ⟨g, 2, none⟩ = some (.int .i64 P2) ∧ w'.cell? ⟨g, 3, none⟩ = some (.int .i64 P3))) (by kernel_rfl) (by kernel_rfl) ?_ ?_
    · exact ⟨j4.drew, cr40, cr41, cr42, g40, g41, g42, g43⟩
    repeat (first | go_big_quiet_skip | (go_big_quiet_want; first | (refine quiet_ex ?_; apply Exists.intro; refine ⟨fun W hW => ?_, ?_⟩; (· (obtain ⟨i5, u0, u1, u2, u3, u4, u5, u6⟩ := hW; go_simp; (first | done | with_reducible rfl | rfl))); simp only [Act.put, List.setIfInBounds_toArray, List.set_cons_zero, List.set_cons_succ]; go_big_quiet_on) | (refine quiet_ex ?_; apply Exists.intro; refine ⟨fun W hW => ?_, ?_⟩; (· (go_simp; first | (go_at_call 28; (with_reducible refine (HQ1.out _).mono ?_); rintro e w2 ⟨rfl, hb2⟩; exact ⟨rfl, HCL.out _ hW _ hb2⟩) | (go_at_call 28; (with_reducible refine (HQ2.out _).mono ?_); rintro e w2 ⟨rfl, hb2⟩; exact ⟨rfl, HCL.out _ hW _ hb2⟩) | (go_at_call 28; (with_reducible refine (HQ3.out _).mono ?_); rintro e w2 ⟨rfl, hb2⟩; exact ⟨rfl, HCL.out _ hW _ hb2⟩))); simp only [Act.put, List.setIfInBounds_toArray, List.set_cons_zero, List.set_cons_succ]; go_big_quiet_on)))
    refine wpQuiet_nil ?_
    rintro w' ⟨i5, u0, u1, u2, u3, u4, u5, u6⟩
    as_aux_lemma =>
     go_wp2_with fail
     refine (HWE.out _).mono ?_
     rintro _ w6 ⟨rfl, hb6⟩
     have j6 := i5.step hb6
     have x0 := cell_in u0 ⟨hb6, hb6.size⟩
     have x1 := cell_in u1 ⟨hb6, hb6.size⟩
     have x2 := cell_in u2 ⟨hb6, hb6.size⟩
     have x3 := cell_in u3 ⟨hb6, hb6.size⟩
     have x4 := cell_in u4 ⟨hb6, hb6.size⟩
     have x5 := cell_in u5 ⟨hb6, hb6.size⟩
     have x6 := cell_in u6 ⟨hb6, hb6.size⟩
     clear i5 hb6 HWE HCL u0 u1 u2 u3 u4 u5 u6
     go_wp2_with fail
     refine (HQ4.out _).mono ?_
     rintro _ w7 ⟨rfl, hb7⟩
     have j7 := j6.step hb7
     have y0 := cell_in x0 ⟨hb7, hb7.size⟩
     have y1 := cell_in x1 ⟨hb7, hb7.size⟩
     have y2 := cell_in x2 ⟨hb7, hb7.size⟩
     have y3 := cell_in x3 ⟨hb7, hb7.size⟩
     have y4 := cell_in x4 ⟨hb7, hb7.size⟩
     have y5 := cell_in x5 ⟨hb7, hb7.size⟩
     have y6 := cell_in x6 ⟨hb7, hb7.size⟩
     clear j6 hb7 HQ4 x0 x1 x2 x3 x4 x5 x6
     have kb : Blk (w7.alloc (.cells #[.int .i64 a, .int .i64 b, .int .i64 c] 43)) w7.heap.size 43 #[.int .i64 a, .int .i64 b, .int .i64 c] := Blk.new w7 _ _
     have hba : Below w7.heap.size w7 (w7.alloc (.cells #[.int .i64 a, .int .i64 b, .int .i64 c] 43)) := (Below.refl _ w7).alloc (Nat.le_refl _) _
     have hb8 : Below w7.heap.size w7 (w7.alloc (.cells #[.int .i64 (a - 1), .int .i64 b, .int .i64 c] 43)) := (Below.refl _ w7).alloc (Nat.le_refl _) _
     have zb0 := kb.frozen 0
     have e0 := cell_in y0 ⟨hba, hba.size⟩
     have k8 : Blk (w7.alloc (.cells #[.int .i64 (a - 1), .int .i64 b, .int .i64 c] 43)) w7.heap.size 43 #[.int .i64 (a - 1), .int .i64 b, .int .i64 c] := Blk.new w7 _ _
     have cb0 := kb.cell 0
     have z0 : (w7.alloc (.cells #[.int .i64 (a - 1), .int .i64 b, .int .i64 c] 43)).cell? ⟨w7.heap.size, 0, none⟩ = some (.int .i64 (a - 1)) := k8.cell 0
     have z1 : (w7.alloc (.cells #[.int .i64 (a - 1), .int .i64 b, .int .i64 c] 43)).cell? ⟨w7.heap.size, 1, none⟩ = some (.int .i64 b) := k8.cell 1
     have z2 : (w7.alloc (.cells #[.int .i64 (a - 1), .int .i64 b, .int .i64 c] 43)).cell? ⟨w7.heap.size, 2, none⟩ = some (.int .i64 c) := k8.cell 2
     simp at cb0
     have H8 := Lib.hid (And.intro (j7.step hb8) (And.intro z0 (And.intro z1 z2)))
     have q0 := Lib.hid (cell_in y0 ⟨hb8, hb8.size⟩)
     have q1 := Lib.hid (cell_in y1 ⟨hb8, hb8.size⟩)
     have q2 := Lib.hid (cell_in y2 ⟨hb8, hb8.size⟩)
     have q3 := Lib.hid (cell_in y3 ⟨hb8, hb8.size⟩)
     have q4 := Lib.hid (cell_in y4 ⟨hb8, hb8.size⟩)
     have q5 := Lib.hid (cell_in y5 ⟨hb8, hb8.size⟩)
     have q6 := Lib.hid (cell_in y6 ⟨hb8, hb8.size⟩)
     clear z0 z1 z2 kb hba hb8 k8 j7 y3 y4 y5 y6
     have ha := HKA.out.1
     simp only []
     iterate 42 go_step
     obtain ⟨hF, hn, r1, r2, r3, r4, s1, s2, s3⟩ := HKF.out
     have hW := HKA.out.2
     have v9 : IntKind.i64.wrap (F + P1) = F + P1 := by rw [IntWalk.i64_in _ (by omega)]
     have v10 : IntKind.i64.wrap (F + P1 + P2) = F + P1 + P2 := by rw [IntWalk.i64_in _ (by omega)]
     have v11 : IntKind.i64.wrap (F + P1 + P2 + P3) = n := by rw [IntWalk.i64_in _ (by omega)]; omega
     have v12 : IntKind.i64.wrap (W - 2) = W - 2 := by rw [IntWalk.i64_in _ (by omega)]
     have v13 : IntKind.i64.wrap (1000 * q) = 1000 * q := by rw [IntWalk.i64_in _ (by omega)]
     have v14 : IntKind.i64.wrap (20 * F) = 20 * F := by rw [IntWalk.i64_in _ (by omega)]
     have v15 : IntKind.i64.wrap (20 * F + 500) = 20 * F + 500 := by rw [IntWalk.i64_in _ (by omega)]
     have v16 : IntKind.i64.wrap (20 * F - 501) = 20 * F - 501 := by rw [IntWalk.i64_in _ (by omega)]
     have d5 : decide (W - 2 ≤ n) = true := by simp; omega
     have d6 : decide (1000 * q ≤ 20 * F + 500) = true := by simp; omega
     have d7 : decide (20 * F - 501 < 1000 * q) = true := by simp; omega
     have HQ5 := Lib.hid (fun W' => iPartOf 1000 655 W')
     rw [show partV 1000 655 = 655 by decide] at HQ5
     have HCL := Lib.hid (show ∀ W', In w.heap.size w W' ∧ W'.cell? ⟨w1.heap.size, 0, none⟩ = some (.int .i64 a) ∧ W'.cell? ⟨w1.heap.size, 1, none⟩ = some (.int .i64 b) ∧ W'.cell? ⟨w1.heap.size, 2, none⟩ = some (.int .i64 c) ∧ W'.cell? ⟨g, 0, none⟩ = some (.int .i64 F) ∧ W'.cell? ⟨g, 1, none⟩ = some (.int .i64 P1) ∧ W'.cell? ⟨g, 2, none⟩ = some (.int .i64 P2) ∧ W'.cell? ⟨g, 3, none⟩ = some (.int .i64 P3) ∧ W'.cell? ⟨w7.heap.size, 0, none⟩ = some (.int .i64 (a - 1)) ∧ W'.cell? ⟨w7.heap.size, 1, none⟩ = some (.int .i64 b) ∧ W'.cell? ⟨w7.heap.size, 2, none⟩ = some (.int .i64 c) → ∀ W2, Below W'.heap.size W' W2 → In w.heap.size w W2 ∧ W2.cell? ⟨w1.heap.size, 0, none⟩ = some (.int .i64 a) ∧ W2.cell? ⟨w1.heap.size, 1, none⟩ = some (.int .i64 b) ∧ W2.cell? ⟨w1.heap.size, 2, none⟩ = some (.int .i64 c) ∧ W2.cell? ⟨g, 0, none⟩ = some (.int .i64 F) ∧ W2.cell? ⟨g, 1, none⟩ = some (.int .i64 P1) ∧ W2.cell? ⟨g, 2, none⟩ = some (.int .i64 P2) ∧ W2.cell? ⟨g, 3, none⟩ = some (.int .i64 P3) ∧ W2.cell? ⟨w7.heap.size, 0, none⟩ = some (.int .i64 (a - 1)) ∧ W2.cell? ⟨w7.heap.size, 1, none⟩ = some (.int .i64 b) ∧ W2.cell? ⟨w7.heap.size, 2, none⟩ = some (.int .i64 c) from fun W' h W2 hb => by
       obtain ⟨h0, g0, g1, g2, g3, g4, g5, g6, g7, g8, g9⟩ := h
       exact ⟨h0.step hb, cell_in g0 ⟨hb, hb.size⟩, cell_in g1 ⟨hb, hb.size⟩, cell_in g2 ⟨hb, hb.size⟩, cell_in g3 ⟨hb, hb.size⟩, cell_in g4 ⟨hb, hb.size⟩, cell_in g5 ⟨hb, hb.size⟩, cell_in g6 ⟨hb, hb.size⟩, cell_in g7 ⟨hb, hb.size⟩, cell_in g8 ⟨hb, hb.size⟩, cell_in g9 ⟨hb, hb.size⟩⟩)
     clear hF hn r1 r2 r3 r4 s1 s2 s3 hW ha HKF HKA cb0 zb0 e0 y0 y1 y2
     rw [List.append_eq]
     (try rw [List.append_eq])
     (repeat rw [List.cons_append])
     (repeat rw [List.nil_append])
     refine wp_region_S (C := (fun w' => In w.heap.size w w' ∧ w'.cell? ⟨w1.heap.size, 0, none⟩ = some (.int .i64 a) ∧ w'.cell? ⟨w1.heap.size, 1, none⟩ = some (.int .i64 b) ∧ w'.cell? ⟨w1.heap.size, 2, none⟩ = some (.int .i64 c) ∧ w'.cell? ⟨g, 0, none⟩ = some (.int .i64 F) ∧ w'.cell? ⟨g, 1, none⟩ = some (.int .i64 P1) ∧ w'.cell? ⟨g, 2, none⟩ = some (.int .i64 P2) ∧ w'.cell? ⟨g, 3, none⟩ = some (.int .i64 P3) ∧ w'.cell? ⟨w7.heap.size, 0, none⟩ = some (.int .i64 (a - 1)) ∧ w'.cell? ⟨w7.heap.size, 1, none⟩ = some (.int .i64 b) ∧ w'.cell? ⟨w7.heap.size, 2, none⟩ = some (.int .i64 c))) (by kernel_rfl) (by kernel_rfl) ?_ ?_
     · exact ⟨H8.out.1.drew, q0.out, q1.out, q2.out, q3.out, q4.out, q5.out, q6.out, H8.out.2.1, H8.out.2.2.1, H8.out.2.2.2⟩
     repeat (first | go_big_quiet_skip | (go_big_quiet_want; first | (refine quiet_ex ?_; apply Exists.intro; refine ⟨fun W hW => ?_, ?_⟩; (· (obtain ⟨i9, t0, t1, t2, t3, t4, t5, t6, t7, t8, t9⟩ := hW; go_simp; (first | done | with_reducible rfl | rfl))); simp only [Act.put, List.setIfInBounds_toArray, List.set_cons_zero, List.set_cons_succ]; go_big_quiet_on) | (refine quiet_ex ?_; apply Exists.intro; refine ⟨fun W hW => ?_, ?_⟩; (· (go_simp; first | (go_at_call 30; (with_reducible refine (HF1.out _).mono ?_); rintro e w2 ⟨rfl, hb2⟩; exact ⟨rfl, HCL.out _ hW _ hb2⟩) | (go_at_call 30; (with_reducible refine (HF2.out _).mono ?_); rintro e w2 ⟨rfl, hb2⟩; exact ⟨rfl, HCL.out _ hW _ hb2⟩) | (go_at_call 30; (with_reducible refine (HF3.out _).mono ?_); rintro e w2 ⟨rfl, hb2⟩; exact ⟨rfl, HCL.out _ hW _ hb2⟩) | (go_at_call 31; (with_reducible refine (HOK.out _).mono ?_); rintro e w2 ⟨rfl, hb2⟩; exact ⟨rfl, HCL.out _ hW _ hb2⟩) | (go_at_call 28; (with_reducible refine (HQ5.out _).mono ?_); rintro e w2 ⟨rfl, hb2⟩; exact ⟨rfl, HCL.out _ hW _ hb2⟩))); simp only [Act.put, List.setIfInBounds_toArray, List.set_cons_zero, List.set_cons_succ]; go_big_quiet_on)))
     refine wpQuiet_nil ?_
     rintro w' ⟨i9, t0, t1, t2, t3, t4, t5, t6, t7, t8, t9⟩
     go_wp2
     go_ret
     exact ⟨ret_bool rfl, i9.below⟩
  · skip
    have d3 : decide (0 < F) = false := by simpa using hpos
    clear ha hb hc hW hp hF hFP hGP hn hA hB hC hD hE r1 r2 r3 r4 s1 s2 s3 hpos
    simp only []
    iterate 9 go_step
    rw [List.append_eq]
    (try rw [List.append_eq])
    (repeat rw [List.cons_append])
    (repeat rw [List.nil_append])
    refine wp_region_S (C := (fun w' => In w.heap.size w w' ∧ w'.cell? ⟨w1.heap.size, 0, none⟩ = some (.int .i64 a) ∧ w'.cell? ⟨w1.heap.size, 1, none⟩ = some (.int .i64 b) ∧ w'.cell? ⟨w1.heap.size, 2, none⟩ = some (.int .i64 c) ∧ w'.cell? ⟨g, 0, none⟩ = some (.int .i64 F) ∧ w'.cell? ⟨g, 1, none⟩ = some (.int .i64 P1) ∧ w'.cell? ⟨g, 2, none⟩ = some (.int .i64 P2) ∧ w'.cell? ⟨g, 3, none⟩ = some (.int .i64 P3))) (by kernel_rfl) (by kernel_rfl) ?_ ?_
    · exact ⟨j4.drew, cr40, cr41, cr42, g40, g41, g42, g43⟩
    repeat (first | go_big_quiet_skip | (go_big_quiet_want; first | (refine quiet_ex ?_; apply Exists.intro; refine ⟨fun W hW => ?_, ?_⟩; (· (obtain ⟨i5, u0, u1, u2, u3, u4, u5, u6⟩ := hW; go_simp; (first | done | with_reducible rfl | rfl))); simp only [Act.put, List.setIfInBounds_toArray, List.set_cons_zero, List.set_cons_succ]; go_big_quiet_on) | (refine quiet_ex ?_; apply Exists.intro; refine ⟨fun W hW => ?_, ?_⟩; (· (go_simp; first | (go_at_call 28; (with_reducible refine (HQ1.out _).mono ?_); rintro e w2 ⟨rfl, hb2⟩; exact ⟨rfl, HCL.out _ hW _ hb2⟩) | (go_at_call 28; (with_reducible refine (HQ2.out _).mono ?_); rintro e w2 ⟨rfl, hb2⟩; exact ⟨rfl, HCL.out _ hW _ hb2⟩) | (go_at_call 28; (with_reducible refine (HQ3.out _).mono ?_); rintro e w2 ⟨rfl, hb2⟩; exact ⟨rfl, HCL.out _ hW _ hb2⟩))); simp only [Act.put, List.setIfInBounds_toArray, List.set_cons_zero, List.set_cons_succ]; go_big_quiet_on)))
    refine wpQuiet_nil ?_
    rintro w' ⟨i5, u0, u1, u2, u3, u4, u5, u6⟩
    as_aux_lemma =>
     go_wp2_with fail
     refine (HWE.out _).mono ?_
     rintro _ w6 ⟨rfl, hb6⟩
     have j6 := i5.step hb6
     have x0 := cell_in u0 ⟨hb6, hb6.size⟩
     have x1 := cell_in u1 ⟨hb6, hb6.size⟩
     have x2 := cell_in u2 ⟨hb6, hb6.size⟩
     have x3 := cell_in u3 ⟨hb6, hb6.size⟩
     have x4 := cell_in u4 ⟨hb6, hb6.size⟩
     have x5 := cell_in u5 ⟨hb6, hb6.size⟩
     have x6 := cell_in u6 ⟨hb6, hb6.size⟩
     clear i5 hb6 HWE HCL u0 u1 u2 u3 u4 u5 u6
     go_wp2_with fail
     refine (HQ4.out _).mono ?_
     rintro _ w7 ⟨rfl, hb7⟩
     have j7 := j6.step hb7
     have y0 := cell_in x0 ⟨hb7, hb7.size⟩
     have y1 := cell_in x1 ⟨hb7, hb7.size⟩
     have y2 := cell_in x2 ⟨hb7, hb7.size⟩
     have y3 := cell_in x3 ⟨hb7, hb7.size⟩
     have y4 := cell_in x4 ⟨hb7, hb7.size⟩
     have y5 := cell_in x5 ⟨hb7, hb7.size⟩
     have y6 := cell_in x6 ⟨hb7, hb7.size⟩
     clear j6 hb7 HQ4 x0 x1 x2 x3 x4 x5 x6
     have kb : Blk (w7.alloc (.cells #[.int .i64 a, .int .i64 b, .int .i64 c] 43)) w7.heap.size 43 #[.int .i64 a, .int .i64 b, .int .i64 c] := Blk.new w7 _ _
     have hba : Below w7.heap.size w7 (w7.alloc (.cells #[.int .i64 a, .int .i64 b, .int .i64 c] 43)) := (Below.refl _ w7).alloc (Nat.le_refl _) _
     have hb8 : Below w7.heap.size w7 (w7.alloc (.cells #[.int .i64 (a - 1), .int .i64 b, .int .i64 c] 43)) := (Below.refl _ w7).alloc (Nat.le_refl _) _
     have zb0 := kb.frozen 0
     have e0 := cell_in y0 ⟨hba, hba.size⟩
     have k8 : Blk (w7.alloc (.cells #[.int .i64 (a - 1), .int .i64 b, .int .i64 c] 43)) w7.heap.size 43 #[.int .i64 (a - 1), .int .i64 b, .int .i64 c] := Blk.new w7 _ _
     have cb0 := kb.cell 0
     have z0 : (w7.alloc (.cells #[.int .i64 (a - 1), .int .i64 b, .int .i64 c] 43)).cell? ⟨w7.heap.size, 0, none⟩ = some (.int .i64 (a - 1)) := k8.cell 0
     have z1 : (w7.alloc (.cells #[.int .i64 (a - 1), .int .i64 b, .int .i64 c] 43)).cell? ⟨w7.heap.size, 1, none⟩ = some (.int .i64 b) := k8.cell 1
     have z2 : (w7.alloc (.cells #[.int .i64 (a - 1), .int .i64 b, .int .i64 c] 43)).cell? ⟨w7.heap.size, 2, none⟩ = some (.int .i64 c) := k8.cell 2
     simp at cb0
     have H8 := Lib.hid (And.intro (j7.step hb8) (And.intro z0 (And.intro z1 z2)))
     have q0 := Lib.hid (cell_in y0 ⟨hb8, hb8.size⟩)
     have q1 := Lib.hid (cell_in y1 ⟨hb8, hb8.size⟩)
     have q2 := Lib.hid (cell_in y2 ⟨hb8, hb8.size⟩)
     have q3 := Lib.hid (cell_in y3 ⟨hb8, hb8.size⟩)
     have q4 := Lib.hid (cell_in y4 ⟨hb8, hb8.size⟩)
     have q5 := Lib.hid (cell_in y5 ⟨hb8, hb8.size⟩)
     have q6 := Lib.hid (cell_in y6 ⟨hb8, hb8.size⟩)
     clear z0 z1 z2 kb hba hb8 k8 j7 y3 y4 y5 y6
     have ha := HKA.out.1
     simp only []
     iterate 42 go_step
     obtain ⟨hF, hn, r1, r2, r3, r4, s1, s2, s3⟩ := HKF.out
     have hW := HKA.out.2
     have v9 : IntKind.i64.wrap (F + P1) = F + P1 := by rw [IntWalk.i64_in _ (by omega)]
     have v10 : IntKind.i64.wrap (F + P1 + P2) = F + P1 + P2 := by rw [IntWalk.i64_in _ (by omega)]
     have v11 : IntKind.i64.wrap (F + P1 + P2 + P3) = n := by rw [IntWalk.i64_in _ (by omega)]; omega
     have v12 : IntKind.i64.wrap (W - 2) = W - 2 := by rw [IntWalk.i64_in _ (by omega)]
     have v13 : IntKind.i64.wrap (1000 * q) = 1000 * q := by rw [IntWalk.i64_in _ (by omega)]
     have v14 : IntKind.i64.wrap (20 * F) = 20 * F := by rw [IntWalk.i64_in _ (by omega)]
     have v15 : IntKind.i64.wrap (20 * F + 500) = 20 * F + 500 := by rw [IntWalk.i64_in _ (by omega)]
     have v16 : IntKind.i64.wrap (20 * F - 501) = 20 * F - 501 := by rw [IntWalk.i64_in _ (by omega)]
     have d5 : decide (W - 2 ≤ n) = true := by simp; omega
     have d6 : decide (1000 * q ≤ 20 * F + 500) = true := by simp; omega
     have d7 : decide (20 * F - 501 < 1000 * q) = true := by simp; omega
     have HQ5 := Lib.hid (fun W' => iPartOf 1000 655 W')
     rw [show partV 1000 655 = 655 by decide] at HQ5
     have HCL := Lib.hid (show ∀ W', In w.heap.size w W' ∧ W'.cell? ⟨w1.heap.size, 0, none⟩ = some (.int .i64 a) ∧ W'.cell? ⟨w1.heap.size, 1, none⟩ = some (.int .i64 b) ∧ W'.cell? ⟨w1.heap.size, 2, none⟩ = some (.int .i64 c) ∧ W'.cell? ⟨g, 0, none⟩ = some (.int .i64 F) ∧ W'.cell? ⟨g, 1, none⟩ = some (.int .i64 P1) ∧ W'.cell? ⟨g, 2, none⟩ = some (.int .i64 P2) ∧ W'.cell? ⟨g, 3, none⟩ = some (.int .i64 P3) ∧ W'.cell? ⟨w7.heap.size, 0, none⟩ = some (.int .i64 (a - 1)) ∧ W'.cell? ⟨w7.heap.size, 1, none⟩ = some (.int .i64 b) ∧ W'.cell? ⟨w7.heap.size, 2, none⟩ = some (.int .i64 c) → ∀ W2, Below W'.heap.size W' W2 → In w.heap.size w W2 ∧ W2.cell? ⟨w1.heap.size, 0, none⟩ = some (.int .i64 a) ∧ W2.cell? ⟨w1.heap.size, 1, none⟩ = some (.int .i64 b) ∧ W2.cell? ⟨w1.heap.size, 2, none⟩ = some (.int .i64 c) ∧ W2.cell? ⟨g, 0, none⟩ = some (.int .i64 F) ∧ W2.cell? ⟨g, 1, none⟩ = some (.int .i64 P1) ∧ W2.cell? ⟨g, 2, none⟩ = some (.int .i64 P2) ∧ W2.cell? ⟨g, 3, none⟩ = some (.int .i64 P3) ∧ W2.cell? ⟨w7.heap.size, 0, none⟩ = some (.int .i64 (a - 1)) ∧ W2.cell? ⟨w7.heap.size, 1, none⟩ = some (.int .i64 b) ∧ W2.cell? ⟨w7.heap.size, 2, none⟩ = some (.int .i64 c) from fun W' h W2 hb => by
       obtain ⟨h0, g0, g1, g2, g3, g4, g5, g6, g7, g8, g9⟩ := h
       exact ⟨h0.step hb, cell_in g0 ⟨hb, hb.size⟩, cell_in g1 ⟨hb, hb.size⟩, cell_in g2 ⟨hb, hb.size⟩, cell_in g3 ⟨hb, hb.size⟩, cell_in g4 ⟨hb, hb.size⟩, cell_in g5 ⟨hb, hb.size⟩, cell_in g6 ⟨hb, hb.size⟩, cell_in g7 ⟨hb, hb.size⟩, cell_in g8 ⟨hb, hb.size⟩, cell_in g9 ⟨hb, hb.size⟩⟩)
     clear hF hn r1 r2 r3 r4 s1 s2 s3 hW ha HKF HKA cb0 zb0 e0 y0 y1 y2
     rw [List.append_eq]
     (try rw [List.append_eq])
     (repeat rw [List.cons_append])
     (repeat rw [List.nil_append])
     refine wp_region_S (C := (fun w' => In w.heap.size w w' ∧ w'.cell? ⟨w1.heap.size, 0, none⟩ = some (.int .i64 a) ∧ w'.cell? ⟨w1.heap.size, 1, none⟩ = some (.int .i64 b) ∧ w'.cell? ⟨w1.heap.size, 2, none⟩ = some (.int .i64 c) ∧ w'.cell? ⟨g, 0, none⟩ = some (.int .i64 F) ∧ w'.cell? ⟨g, 1, none⟩ = some (.int .i64 P1) ∧ w'.cell? ⟨g, 2, none⟩ = some (.int .i64 P2) ∧ w'.cell? ⟨g, 3, none⟩ = some (.int .i64 P3) ∧ w'.cell? ⟨w7.heap.size, 0, none⟩ = some (.int .i64 (a - 1)) ∧ w'.cell? ⟨w7.heap.size, 1, none⟩ = some (.int .i64 b) ∧ w'.cell? ⟨w7.heap.size, 2, none⟩ = some (.int .i64 c))) (by kernel_rfl) (by kernel_rfl) ?_ ?_
     · exact ⟨H8.out.1.drew, q0.out, q1.out, q2.out, q3.out, q4.out, q5.out, q6.out, H8.out.2.1, H8.out.2.2.1, H8.out.2.2.2⟩
     repeat (first | go_big_quiet_skip | (go_big_quiet_want; first | (refine quiet_ex ?_; apply Exists.intro; refine ⟨fun W hW => ?_, ?_⟩; (· (obtain ⟨i9, t0, t1, t2, t3, t4, t5, t6, t7, t8, t9⟩ := hW; go_simp; (first | done | with_reducible rfl | rfl))); simp only [Act.put, List.setIfInBounds_toArray, List.set_cons_zero, List.set_cons_succ]; go_big_quiet_on) | (refine quiet_ex ?_; apply Exists.intro; refine ⟨fun W hW => ?_, ?_⟩; (· (go_simp; first | (go_at_call 30; (with_reducible refine (HF1.out _).mono ?_); rintro e w2 ⟨rfl, hb2⟩; exact ⟨rfl, HCL.out _ hW _ hb2⟩) | (go_at_call 30; (with_reducible refine (HF2.out _).mono ?_); rintro e w2 ⟨rfl, hb2⟩; exact ⟨rfl, HCL.out _ hW _ hb2⟩) | (go_at_call 30; (with_reducible refine (HF3.out _).mono ?_); rintro e w2 ⟨rfl, hb2⟩; exact ⟨rfl, HCL.out _ hW _ hb2⟩) | (go_at_call 31; (with_reducible refine (HOK.out _).mono ?_); rintro e w2 ⟨rfl, hb2⟩; exact ⟨rfl, HCL.out _ hW _ hb2⟩) | (go_at_call 28; (with_reducible refine (HQ5.out _).mono ?_); rintro e w2 ⟨rfl, hb2⟩; exact ⟨rfl, HCL.out _ hW _ hb2⟩))); simp only [Act.put, List.setIfInBounds_toArray, List.set_cons_zero, List.set_cons_succ]; go_big_quiet_on)))
     refine wpQuiet_nil ?_
     rintro w' ⟨i9, t0, t1, t2, t3, t4, t5, t6, t7, t8, t9⟩
     go_wp2
     go_ret
     exact ⟨ret_bool rfl, i9.below⟩
 end Go.Proofs.Ytmafnlcphohioaa
