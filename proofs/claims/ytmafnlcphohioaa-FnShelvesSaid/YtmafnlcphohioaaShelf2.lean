/- The walk of the law FnShelves. -/
import Derived.Test.YtmafnlcphohioaaC13
import Derived.Test.YtmafnlcphohioaaDrw
import Derived.Test.YtmafnlcphohioaaAt
import Derived.Test.YtmafnlcphohioaaQuietL
import Derived.BigQuiet
import Derived.Deep.QuietTactic
namespace Go.Proofs.Ytmafnlcphohioaa
open Go.ChangeShapes Go.WideShapes Go.ChangeAt Go.RowKit
set_option linter.unusedVariables false
set_option linter.unusedSimpArgs false
set_option maxHeartbeats 2000000

theorem sell_ok {F D O N : Int} (hF : 0 ≤ F ∧ F < 60) (hD : 0 ≤ D ∧ D < 30) (hO : 0 ≤ O ∧ O < 15) (hN : 0 ≤ N ∧ N ≤ 255) : rackB F D O = true ∧ sellB F D O N = true := by
  have h1 : rackB F D O = true := by simp [rackB, inB_t (show 0 ≤ F ∧ F ≤ 10000 by omega), inB_t (show 0 ≤ D ∧ D ≤ 10000 by omega), inB_t (show 0 ≤ O ∧ O ≤ 10000 by omega)]
  exact ⟨h1, by simp [sellB, h1, inB_t (show 0 ≤ N ∧ N ≤ 10000 by omega)]⟩
theorem fresh_form {F D O N : Int} (h : sellB F D O N = true) (hF : 0 ≤ F) (hD : 0 ≤ D) (hN : 0 ≤ N) : ∃ f1 f2 s, freshV F D O N = .tuple #[.agg #[.int .i64 f1, .int .i64 f2, .int .i64 O], .int .i64 s] ∧ (F + D < N → s = F + D) ∧ (¬ F + D < N → s = N) ∧ (0 < F - N → f1 = F - N) ∧ (¬ 0 < F - N → f1 = 0) ∧ f1 + f2 + s = F + D ∧ 0 ≤ f1 ∧ 0 ≤ f2 ∧ f1 ≤ F ∧ f2 ≤ D := by
  refine ⟨_, _, _, by rw [freshV, if_pos h], ?_⟩
  omega
theorem cheap_form {F D O N : Int} (h : sellB F D O N = true) (hO : 0 ≤ O) (hD : 0 ≤ D) (hN : 0 ≤ N) : ∃ g2 g3 t, cheapV F D O N = .tuple #[.agg #[.int .i64 F, .int .i64 g2, .int .i64 g3], .int .i64 t] ∧ (O + D < N → t = O + D) ∧ (¬ O + D < N → t = N) ∧ (0 < O - N → g3 = O - N) ∧ (¬ 0 < O - N → g3 = 0) ∧ g2 + g3 + t = D + O ∧ 0 ≤ g2 ∧ 0 ≤ g3 ∧ g2 ≤ D ∧ g3 ≤ O := by
  refine ⟨_, _, _, by rw [cheapV, if_pos h], ?_⟩
  omega
theorem value_form {F D O P : Int} (hr : rackB F D O = true) (hF : 0 ≤ F ∧ F < 60) (hD : 0 ≤ D ∧ D < 30) (hO : 0 ≤ O ∧ O < 15) (hP : 0 ≤ P ∧ P ≤ 255) : 0 ≤ valueV F D O P ∧ valueV F D O P ≤ P * (F + D + O) ∧ 0 ≤ P * (F + D + O) ∧ P * (F + D + O) ≤ 255 * 110 := by
  have h2 : inB P 0 1000 = true := inB_t (by omega)
  rw [valueV, hr, h2]
  simp only [Bool.and_self, if_true]
  have m0 := mul_in (a := P) (b := F + D + O) (A := 255) (B := 110) (by omega) (by omega) (by omega) (by omega)
  have m1 : 0 ≤ F * P := Int.mul_nonneg (by omega) (by omega)
  have m2 : 0 ≤ D * (P / 2) := Int.mul_nonneg (by omega) (by omega)
  have m3 : 0 ≤ O * (P / 4) := Int.mul_nonneg (by omega) (by omega)
  have n2 : D * (P / 2) ≤ D * P := Int.mul_le_mul_of_nonneg_left (by omega) (by omega)
  have n3 : O * (P / 4) ≤ O * P := Int.mul_le_mul_of_nonneg_left (by omega) (by omega)
  have e : P * (F + D + O) = F * P + D * P + O * P := by rw [Int.mul_add, Int.mul_add, Int.mul_comm P F, Int.mul_comm P D, Int.mul_comm P O]
  omega
set_option maxHeartbeats 8000000 in
set_option maxRecDepth 20000 in
theorem walk_FnShelves (a0 : Option Addr) (len0 cap0 : Nat) (z0 : List Int) (w : World) (w0 : IsRow .u8 w a0 len0 cap0 z0) :
    Calls Try.prog 4 #[.slice a0 len0 cap0] w fun e w' => e = .returned (.bool true) ∧ Below w.heap.size w w' := by
  have hb := ReadsU.of_row w0
  have hm := hb.1
  clear w0
  by_cases hbig : (1048576 : Int) < (len0 : Int)
  · go_enter Try.func4, Try.ntmps4
    go_wp2_with fail
    refine (bigU _ _ _ _ hm true (by simpa using hbig)).mono ?_
    rintro e w' ⟨rfl, rfl⟩
    go_wp2_with fail
    go_ret
    exact ⟨rfl, Below.refl _ _⟩
  have HB := Lib.hid hb
  go_enter Try.func4, Try.ntmps4
  go_wp2_with fail
  refine (bigU _ _ _ _ hm false (by simpa using hbig)).mono ?_
  rintro e w' ⟨rfl, rfl⟩
  clear hbig hm hb
  go_wp2_with fail
  refine (drawRack _ _ _ _ (bytes_of HB.out)).mono ?_
  rintro _ w1 ⟨F, D, O, ⟨hF, hD, hO⟩, rfl, hb1⟩
  have i1 : In w.heap.size w w1 := In.step (by (repeat (first | exact In.refl _ | assumption | apply In.alloc | apply In.drewN | apply In.drew | (refine In.step ?_ (by assumption))))) hb1
  have kr1 : Blk (w1.alloc (.cells #[.int .i64 F, .int .i64 D, .int .i64 O] 36)) w1.heap.size 36 #[.int .i64 F, .int .i64 D, .int .i64 O] := Blk.new w1 _ _
  have j1 : In w.heap.size w (w1.alloc (.cells #[.int .i64 F, .int .i64 D, .int .i64 O] 36)) := i1.alloc _
  clear hb1 i1
  go_wp2_with fail
  refine (at_c _ _ _ 0 _ (by omega) (by omega) (HB.out.in_ j1)).mono ?_
  rintro e w' ⟨x0, ⟨h00, h01⟩, rfl, rfl⟩
  have hN0 : 0 ≤ x0 % 90 ∧ x0 % 90 ≤ 89 := by omega
  go_wp2_with fail
  generalize x0 % 90 = N at *
  obtain ⟨hrk, hse⟩ := sell_ok hF hD hO (N := N) (by omega)
  obtain ⟨f1, f2, s, hfv, hs1, hs2, hf1, hf2, hfs, hf3, hf4, hf5, hf6⟩ := fresh_form hse hF.1 hD.1 hN0.1
  obtain ⟨g2, g3, t, hcv, ht1, ht2, hg1, hg2, hgs, hg3, hg4, hg5, hg6⟩ := cheap_form hse hO.1 hD.1 hN0.1
  have hmv := fun M (hM : 0 ≤ M ∧ M ≤ 255) => show mornV F D O M = .tuple #[.agg #[.int .i64 M, .int .i64 F, .int .i64 D], .int .i64 O] by rw [mornV, if_pos (sell_ok hF hD hO hM).2]
  have HS := Lib.hid (And.intro hs1 (And.intro hs2 (And.intro hf1 hf2)))
  have HT := Lib.hid (And.intro ht1 (And.intro ht2 (And.intro hg1 hg2)))
  have HFV := Lib.hid hfv
  have HCV := Lib.hid hcv
  have HMV := Lib.hid hmv
  have HRK := Lib.hid hrk
  have HFS := Lib.hid hfs
  have HGS := Lib.hid hgs
  clear hs1 hs2 hf1 hf2 ht1 ht2 hg1 hg2 hfv hcv hmv hrk hse h00 h01 hfs hgs
  refine (iSellFresh F D O N _).mono ?_
  rintro _ w2 ⟨rfl, hb2⟩
  rw [HFV.out]
  have kr2 := kr1.step hb2
  have j2 := j1.step hb2
  have ka2 : Blk (w2.alloc (.cells #[.int .i64 f1, .int .i64 f2, .int .i64 O] 36)) w2.heap.size 36 #[.int .i64 f1, .int .i64 f2, .int .i64 O] := Blk.new w2 _ _
  have kr2' := kr2.alloc (.cells #[.int .i64 f1, .int .i64 f2, .int .i64 O] 36)
  have j2' := j2.alloc (.cells #[.int .i64 f1, .int .i64 f2, .int .i64 O] 36)
  have cr20 := kr2.cell 0
  have cr21 := kr2.cell 1
  have cr22 := kr2.cell 2
  simp at cr20 cr21 cr22
  have lr2 := kr2.lt
  clear kr1 j1 hb2 kr2 j2
  go_wp2_with fail
  refine (iSellCheap F D O N _).mono ?_
  rintro _ w3 ⟨rfl, hb3⟩
  rw [HCV.out]
  have kr3 := kr2'.step hb3
  have ka3 := ka2.step hb3
  have j3 := j2'.step hb3
  have kb3 : Blk (w3.alloc (.cells #[.int .i64 F, .int .i64 g2, .int .i64 g3] 36)) w3.heap.size 36 #[.int .i64 F, .int .i64 g2, .int .i64 g3] := Blk.new w3 _ _
  have kr3' := kr3.alloc (.cells #[.int .i64 F, .int .i64 g2, .int .i64 g3] 36)
  have ka3' := ka3.alloc (.cells #[.int .i64 F, .int .i64 g2, .int .i64 g3] 36)
  have j3' := j3.alloc (.cells #[.int .i64 F, .int .i64 g2, .int .i64 g3] 36)
  have cr30 := kr3.cell 0
  have cr31 := kr3.cell 1
  have cr32 := kr3.cell 2
  simp at cr30 cr31 cr32
  have lr3 := kr3.lt
  clear ka2 kr2' j2' hb3 kr3 ka3 j3 cr20 cr21 cr22 lr2
  go_wp2_with fail
  refine (at_c _ _ _ 1 _ (by omega) (by omega) (HB.out.in_ j3')).mono ?_
  rintro e w' ⟨M, hM, rfl, rfl⟩
  go_wp2_with fail
  refine (iNextMorning F D O M _).mono ?_
  rintro _ w4 ⟨rfl, hb4⟩
  rw [HMV.out M hM]
  have kr4 := kr3'.step hb4
  have ka4 := ka3'.step hb4
  have kb4 := kb3.step hb4
  have j4 := j3'.step hb4
  have kc4 : Blk (w4.alloc (.cells #[.int .i64 M, .int .i64 F, .int .i64 D] 36)) w4.heap.size 36 #[.int .i64 M, .int .i64 F, .int .i64 D] := Blk.new w4 _ _
  have kr4' := kr4.alloc (.cells #[.int .i64 M, .int .i64 F, .int .i64 D] 36)
  have ka4' := ka4.alloc (.cells #[.int .i64 M, .int .i64 F, .int .i64 D] 36)
  have kb4' := kb4.alloc (.cells #[.int .i64 M, .int .i64 F, .int .i64 D] 36)
  have j4' := j4.alloc (.cells #[.int .i64 M, .int .i64 F, .int .i64 D] 36)
  have cr40 := kr4.cell 0
  have cr41 := kr4.cell 1
  have cr42 := kr4.cell 2
  simp at cr40 cr41 cr42
  have lr4 := kr4.lt
  clear ka3' kb3 kr3' j3' hb4 kr4 ka4 kb4 j4 cr30 cr31 cr32 lr3
  go_wp2_with fail
  refine (at_c _ _ _ 2 _ (by omega) (by omega) (HB.out.in_ j4')).mono ?_
  rintro e w' ⟨P, hP, rfl, rfl⟩
  go_wp2_with fail
  have hval := value_form HRK.out hF hD hO hP
  refine (iValueOf F D O P _).mono ?_
  rintro _ w5 ⟨rfl, hb5⟩
  generalize valueV F D O P = V at *
  have kr5 := kr4'.step hb5
  have ka5 := ka4'.step hb5
  have kb5 := kb4'.step hb5
  have kc5 := kc4.step hb5
  have j5 := j4'.step hb5
  clear kr4' ka4' kb4' kc4 j4' hb5 cr40 cr41 cr42 lr4
  have cr0 := kr5.cell 0
  have cr1 := kr5.cell 1
  have cr2 := kr5.cell 2
  have ca0 := ka5.cell 0
  have ca1 := ka5.cell 1
  have ca2 := ka5.cell 2
  have cb0 := kb5.cell 0
  have cb1 := kb5.cell 1
  have cb2 := kb5.cell 2
  have cc0 := kc5.cell 0
  have cc1 := kc5.cell 1
  have cc2 := kc5.cell 2
  simp at cr0 cr1 cr2 ca0 ca1 ca2 cb0 cb1 cb2 cc0 cc1 cc2
  have la := ka5.lt
  clear kr5 kb5 kc5
  have HFS2 : Hid (f1 + f2 + O + s = F + D + O) := Lib.hid (by have := HFS.out; omega)
  have HGS2 : Hid (F + g2 + g3 + t = F + D + O) := Lib.hid (by have := HGS.out; omega)
  generalize hS : F + D + O = S at *
  have HSS := Lib.hid hS
  obtain ⟨hV0, hV1, hV2, hV3⟩ := hval
  obtain ⟨PS, hPS⟩ : ∃ PS, P * S = PS := ⟨_, rfl⟩
  rw [hPS] at hV1 hV2 hV3
  have hwp : wrap64 (P * S) = PS := by rw [hPS]; exact w64 (by omega)
  have HR1 := Lib.hid (fun W => iRackOk f1 f2 O W)
  have HRT : Hid (rackB f1 f2 O = true) := Lib.hid (by simp [rackB, inB_t (show 0 ≤ f1 ∧ f1 ≤ 10000 by omega), inB_t (show 0 ≤ f2 ∧ f2 ≤ 10000 by omega), inB_t (show 0 ≤ O ∧ O ≤ 10000 by omega)])
  clear HFV HCV HMV HRK hPS HB
  have hSb : 0 ≤ S ∧ S ≤ 110 := by have := HSS.out; omega
  have HS9 := HS.out
  have HT9 := HT.out
  have hfs2 := HFS2.out
  have hgs2 := HGS2.out
  have hss := HSS.out
  have hsb : 0 ≤ s ∧ s ≤ 200 := by by_cases h : F + D < N; (· have := HS9.1 (by omega); omega); have := HS9.2.1 (by omega); omega
  have htb : 0 ≤ t ∧ t ≤ 200 := by by_cases h : O + D < N; (· have := HT9.1 (by omega); omega); have := HT9.2.1 (by omega); omega
  have mn1 : (if F + D < N then F + D else N) = s := by split; (· rename_i h; exact (HS9.1 (by omega)).symm); rename_i h; exact (HS9.2.1 (by omega)).symm
  have mx1 : (if N < F then F - N else 0) = f1 := by split; (· rename_i h; exact (HS9.2.2.1 (by omega)).symm); rename_i h; exact (HS9.2.2.2 (by omega)).symm
  have mn2 : (if O + D < N then O + D else N) = t := by split; (· rename_i h; exact (HT9.1 (by omega)).symm); rename_i h; exact (HT9.2.1 (by omega)).symm
  have mx2 : (if N < O then O - N else 0) = g3 := by split; (· rename_i h; exact (HT9.2.2.1 (by omega)).symm); rename_i h; exact (HT9.2.2.2 (by omega)).symm
  have v1 : IntKind.i64.wrap (F + D) = F + D := by rw [IntWalk.i64_in _ (by omega)]
  have v2 : IntKind.i64.wrap (f1 + f2) = f1 + f2 := by rw [IntWalk.i64_in _ (by omega)]
  have v3 : IntKind.i64.wrap (f1 + f2 + O) = f1 + f2 + O := by rw [IntWalk.i64_in _ (by omega)]
  have v4 : IntKind.i64.wrap (f1 + f2 + O + s) = S := by rw [IntWalk.i64_in _ (by omega)]; omega
  have v5 : IntKind.i64.wrap (F - N) = F - N := by rw [IntWalk.i64_in _ (by omega)]
  have v6 : IntKind.i64.wrap (O + D) = O + D := by rw [IntWalk.i64_in _ (by omega)]
  have v7 : IntKind.i64.wrap (F + g2) = F + g2 := by rw [IntWalk.i64_in _ (by omega)]
  have v8 : IntKind.i64.wrap (F + g2 + g3) = F + g2 + g3 := by rw [IntWalk.i64_in _ (by omega)]
  have v9 : IntKind.i64.wrap (F + g2 + g3 + t) = S := by rw [IntWalk.i64_in _ (by omega)]; omega
  have v10 : IntKind.i64.wrap (O - N) = O - N := by rw [IntWalk.i64_in _ (by omega)]
  have v11 : IntKind.i64.wrap (P * S) = PS := by rw [IntWalk.i64_left]; exact hwp
  have d1 : decide (0 ≤ V) = true := by simp; omega
  have d2 : decide (V ≤ PS) = true := by simp; omega
  have HCL := Lib.hid (show ∀ W', In w.heap.size w W' ∧ W'.cell? ⟨w1.heap.size, 0, none⟩ = some (.int .i64 F) ∧ W'.cell? ⟨w1.heap.size, 1, none⟩ = some (.int .i64 D) ∧ W'.cell? ⟨w1.heap.size, 2, none⟩ = some (.int .i64 O) ∧ W'.cell? ⟨w2.heap.size, 0, none⟩ = some (.int .i64 f1) ∧ W'.cell? ⟨w2.heap.size, 1, none⟩ = some (.int .i64 f2) ∧ W'.cell? ⟨w2.heap.size, 2, none⟩ = some (.int .i64 O) ∧ W'.cell? ⟨w3.heap.size, 0, none⟩ = some (.int .i64 F) ∧ W'.cell? ⟨w3.heap.size, 1, none⟩ = some (.int .i64 g2) ∧ W'.cell? ⟨w3.heap.size, 2, none⟩ = some (.int .i64 g3) ∧ W'.cell? ⟨w4.heap.size, 0, none⟩ = some (.int .i64 M) ∧ W'.cell? ⟨w4.heap.size, 1, none⟩ = some (.int .i64 F) ∧ W'.cell? ⟨w4.heap.size, 2, none⟩ = some (.int .i64 D) → ∀ W2, Below W'.heap.size W' W2 → In w.heap.size w W2 ∧ W2.cell? ⟨w1.heap.size, 0, none⟩ = some (.int .i64 F) ∧ W2.cell? ⟨w1.heap.size, 1, none⟩ = some (.int .i64 D) ∧ W2.cell? ⟨w1.heap.size, 2, none⟩ = some (.int .i64 O) ∧ W2.cell? ⟨w2.heap.size, 0, none⟩ = some (.int .i64 f1) ∧ W2.cell? ⟨w2.heap.size, 1, none⟩ = some (.int .i64 f2) ∧ W2.cell? ⟨w2.heap.size, 2, none⟩ = some (.int .i64 O) ∧ W2.cell? ⟨w3.heap.size, 0, none⟩ = some (.int .i64 F) ∧ W2.cell? ⟨w3.heap.size, 1, none⟩ = some (.int .i64 g2) ∧ W2.cell? ⟨w3.heap.size, 2, none⟩ = some (.int .i64 g3) ∧ W2.cell? ⟨w4.heap.size, 0, none⟩ = some (.int .i64 M) ∧ W2.cell? ⟨w4.heap.size, 1, none⟩ = some (.int .i64 F) ∧ W2.cell? ⟨w4.heap.size, 2, none⟩ = some (.int .i64 D) from fun W' h W2 hb => by
    obtain ⟨h0, g0, g1, g2, g3, g4, g5, g6, g7, g8, g9, g10, g11⟩ := h
    exact ⟨h0.step hb, cell_in g0 ⟨hb, hb.size⟩, cell_in g1 ⟨hb, hb.size⟩, cell_in g2 ⟨hb, hb.size⟩, cell_in g3 ⟨hb, hb.size⟩, cell_in g4 ⟨hb, hb.size⟩, cell_in g5 ⟨hb, hb.size⟩, cell_in g6 ⟨hb, hb.size⟩, cell_in g7 ⟨hb, hb.size⟩, cell_in g8 ⟨hb, hb.size⟩, cell_in g9 ⟨hb, hb.size⟩, cell_in g10 ⟨hb, hb.size⟩, cell_in g11 ⟨hb, hb.size⟩⟩)
  clear HS9 HT9 hfs2 hgs2 hss hsb htb HS HT HFS HGS HFS2 HGS2 HSS hS hV0 hV1 hV2 hV3 hSb hF hD hO hN0 hM hP hwp ka5 la
  simp only []
  iterate 8 go_step
  rw [List.append_eq]
  (try rw [List.append_eq])
  (repeat rw [List.cons_append])
  (repeat rw [List.nil_append])
  refine wp_region_L (C := (fun w' => In w.heap.size w w' ∧ w'.cell? ⟨w1.heap.size, 0, none⟩ = some (.int .i64 F) ∧ w'.cell? ⟨w1.heap.size, 1, none⟩ = some (.int .i64 D) ∧ w'.cell? ⟨w1.heap.size, 2, none⟩ = some (.int .i64 O) ∧ w'.cell? ⟨w2.heap.size, 0, none⟩ = some (.int .i64 f1) ∧ w'.cell? ⟨w2.heap.size, 1, none⟩ = some (.int .i64 f2) ∧ w'.cell? ⟨w2.heap.size, 2, none⟩ = some (.int .i64 O) ∧ w'.cell? ⟨w3.heap.size, 0, none⟩ = some (.int .i64 F) ∧ w'.cell? ⟨w3.heap.size, 1, none⟩ = some (.int .i64 g2) ∧ w'.cell? ⟨w3.heap.size, 2, none⟩ = some (.int .i64 g3) ∧ w'.cell? ⟨w4.heap.size, 0, none⟩ = some (.int .i64 M) ∧ w'.cell? ⟨w4.heap.size, 1, none⟩ = some (.int .i64 F) ∧ w'.cell? ⟨w4.heap.size, 2, none⟩ = some (.int .i64 D))) ?_ ?_
  · exact ⟨j5, cr0, cr1, cr2, ca0, ca1, ca2, cb0, cb1, cb2, cc0, cc1, cc2⟩
  repeat (first | go_big_quiet_skip | (go_big_quiet_want; first | (refine quiet_ex ?_; apply Exists.intro; refine ⟨fun W hW => ?_, ?_⟩; (· (obtain ⟨iy, yr0, yr1, yr2, ya0, ya1, ya2, yb0, yb1, yb2, yc0, yc1, yc2⟩ := hW; go_simp; (first | done | with_reducible rfl | rfl))); simp only [Act.put, List.setIfInBounds_toArray, List.set_cons_zero, List.set_cons_succ]; go_big_quiet_on) | (refine quiet_ex ?_; apply Exists.intro; refine ⟨fun W hW => ?_, ?_⟩; (· (go_simp; first | (go_at_call 23; (with_reducible refine (HR1.out _).mono ?_); rintro e w2 ⟨rfl, hb2⟩; rw [HRT.out]; exact ⟨rfl, HCL.out _ hW _ hb2⟩) | (go_at_call 22; (with_reducible refine (iValueOf 2 3 4 10 _).mono ?_); rintro e w2 ⟨rfl, hb2⟩; rw [show valueV 2 3 4 10 = 43 by decide]; exact ⟨rfl, HCL.out _ hW _ hb2⟩))); simp only [Act.put, List.setIfInBounds_toArray, List.set_cons_zero, List.set_cons_succ]; go_big_quiet_on)))
  refine wpQuiet_nil ?_
  rintro w' ⟨iy, yr0, yr1, yr2, ya0, ya1, ya2, yb0, yb1, yb2, yc0, yc1, yc2⟩
  go_wp2
  go_ret
  exact ⟨ret_bool rfl, iy.below⟩
end Go.Proofs.Ytmafnlcphohioaa
