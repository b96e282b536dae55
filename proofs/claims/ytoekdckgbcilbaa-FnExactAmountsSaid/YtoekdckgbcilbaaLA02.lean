/- Chapter 2: the walk of Amounts' exact law. -/
import Derived.Test.YtoekdckgbcilbaaA02
import Derived.Test.YtoekdckgbcilbaaL02
import Derived.Test.YtoekdckgbcilbaaIntE
import Derived.Test.YtoekdckgbcilbaaIntS
namespace Go.Proofs.Ytoekdckgbcilbaa
open Go.ChangeShapes Go.WideShapes Go.ChangeAt Go.RowKit
set_option linter.unusedVariables false
set_option linter.unusedSimpArgs false

def AmountsL (a b c f : Int) : List Int := if dOk a b c = true ∧ 0 ≤ f ∧ f ≤ 1000000 then [f, partV f a, partV f b, partV f c] else []
theorem AmountsL_len (a b c f : Int) : (AmountsL a b c f).length ≤ 100000 := by unfold AmountsL; split <;> simp
theorem sAmountsR (a b c f : Int) (w : World) : Calls Try.prog 26 #[.agg #[.int .i64 a, .int .i64 b, .int .i64 c], .int .i64 f] w (RowB (AmountsL a b c f) w) := by
  by_cases h : dOk a b c = true ∧ 0 ≤ f ∧ f ≤ 1000000
  · rw [AmountsL, if_pos h]; exact (sAmounts_yes a b c f h.1 h.2.1 h.2.2 w).mono fun _ _ h => h.rowB
  · rw [AmountsL, if_neg h]; exact (sAmounts_no a b c f h w).mono fun _ _ h => h.rowB
theorem iAmountsR (a b c f : Int) (w : World) : Calls Try.prog 16 #[.agg #[.int .i64 a, .int .i64 b, .int .i64 c], .int .i64 f] w (RowB (AmountsL a b c f) w) := by
  by_cases h : dOk a b c = true ∧ 0 ≤ f ∧ f ≤ 1000000
  · rw [AmountsL, if_pos h]; exact (iAmounts_yes a b c f h.1 h.2.1 h.2.2 w).mono fun _ _ h => h.rowB
  · rw [AmountsL, if_neg h]
    refine (iAmounts_no a b c f h w).mono ?_
    rintro e w' ⟨rfl, hb⟩
    exact ⟨none, 0, rfl, ⟨rfl, .inl ⟨rfl, rfl⟩⟩, hb⟩

set_option maxHeartbeats 1000000 in
theorem walk_FnExactAmounts (a0_0 : Int) (u0_0 : (Lit.int .i64 a0_0).wf = true) (a0_1 : Int) (u0_1 : (Lit.int .i64 a0_1).wf = true) (a0_2 : Int) (u0_2 : (Lit.int .i64 a0_2).wf = true) (a1 : Int) (u1 : (Lit.int .i64 a1).wf = true) (w : World) :
    Calls Try.prog 8 #[.agg #[.int .i64 a0_0, .int .i64 a0_1, .int .i64 a0_2], .int .i64 a1] w fun e w' => e = .returned (.bool true) ∧ Below w.heap.size w w' := by
  clear u0_0 u0_1 u0_2 u1
  obtain ⟨zs, HS, HI, hn⟩ : ∃ zs, Hid (∀ W, Calls Try.prog 26 #[.agg #[.int .i64 a0_0, .int .i64 a0_1, .int .i64 a0_2], .int .i64 a1] W (RowB zs W)) ∧ Hid (∀ W, Calls Try.prog 16 #[.agg #[.int .i64 a0_0, .int .i64 a0_1, .int .i64 a0_2], .int .i64 a1] W (RowB zs W)) ∧ zs.length ≤ 100000 := ⟨AmountsL a0_0 a0_1 a0_2 a1, fun W => sAmountsR a0_0 a0_1 a0_2 a1 W, fun W => iAmountsR a0_0 a0_1 a0_2 a1 W, AmountsL_len a0_0 a0_1 a0_2 a1⟩
  have q_0 : Blk (w.alloc (.cells #[.int .i64 a0_0, .int .i64 a0_1, .int .i64 a0_2] 35)) w.heap.size 35 #[.int .i64 a0_0, .int .i64 a0_1, .int .i64 a0_2] := Blk.new w 35 #[.int .i64 a0_0, .int .i64 a0_1, .int .i64 a0_2]
  go_enter Try.func8, Try.ntmps8
  go_wp2_with fail
  refine (toDough_c a0_0 a0_1 a0_2 _).mono ?_
  rintro _ w_1 ⟨rfl, hb_1⟩
  have i_1 : In w.heap.size w w_1 := In.step (by (repeat (first | exact In.refl _ | assumption | apply In.alloc | apply In.drewN | apply In.drew | (refine In.step ?_ (by assumption))))) hb_1
  have k_1_0 : Blk w_1 w.heap.size 35 #[.int .i64 a0_0, .int .i64 a0_1, .int .i64 a0_2] := Blk.step (by (with_reducible (repeat (first | assumption | apply Blk.drewN | apply Blk.drew | apply Blk.alloc)))) hb_1
  have c_1_0_0 : w_1.cell? ⟨w.heap.size, 0, none⟩ = some (.int .i64 a0_0) := k_1_0.cell 0
  have c_1_0_1 : w_1.cell? ⟨w.heap.size, 1, none⟩ = some (.int .i64 a0_1) := k_1_0.cell 1
  have c_1_0_2 : w_1.cell? ⟨w.heap.size, 2, none⟩ = some (.int .i64 a0_2) := k_1_0.cell 2
  clear q_0
  go_wp2_with fail
  refine (HS.out _).mono ?_
  rintro _ w_2 ⟨A_W, c_W, rfl, ho_2, hb_2⟩
  have i_2 : In w.heap.size w w_2 := In.step (by (repeat (first | exact In.refl _ | assumption | apply In.alloc | apply In.drewN | apply In.drew | (refine In.step ?_ (by assumption))))) hb_2
  have k_2_0 : Blk w_2 w.heap.size 35 #[.int .i64 a0_0, .int .i64 a0_1, .int .i64 a0_2] := Blk.step (by (with_reducible (repeat (first | assumption | apply Blk.drewN | apply Blk.drew | apply Blk.alloc)))) hb_2
  have xw_2 : ReadsI w_2 A_W zs.length zs := reads_own_i ho_2
  have c_2_0_0 : w_2.cell? ⟨w.heap.size, 0, none⟩ = some (.int .i64 a0_0) := k_2_0.cell 0
  have c_2_0_1 : w_2.cell? ⟨w.heap.size, 1, none⟩ = some (.int .i64 a0_1) := k_2_0.cell 1
  have c_2_0_2 : w_2.cell? ⟨w.heap.size, 2, none⟩ = some (.int .i64 a0_2) := k_2_0.cell 2
  clear hb_1 i_1 k_1_0 c_1_0_0 c_1_0_1 c_1_0_2
  clear ho_2
  go_wp2_with fail
  refine (toDough_c a0_0 a0_1 a0_2 _).mono ?_
  rintro _ w_3 ⟨rfl, hb_3⟩
  have i_3 : In w.heap.size w w_3 := In.step (by (repeat (first | exact In.refl _ | assumption | apply In.alloc | apply In.drewN | apply In.drew | (refine In.step ?_ (by assumption))))) hb_3
  have k_3_0 : Blk w_3 w.heap.size 35 #[.int .i64 a0_0, .int .i64 a0_1, .int .i64 a0_2] := Blk.step (by (with_reducible (repeat (first | assumption | apply Blk.drewN | apply Blk.drew | apply Blk.alloc)))) hb_3
  have xw_3 : ReadsI w_3 A_W zs.length zs := ReadsI.step (by (with_reducible (repeat (first | assumption | apply ReadsI.drewN | apply ReadsI.drew | apply ReadsI.alloc)))) hb_3
  have c_3_0_0 : w_3.cell? ⟨w.heap.size, 0, none⟩ = some (.int .i64 a0_0) := k_3_0.cell 0
  have c_3_0_1 : w_3.cell? ⟨w.heap.size, 1, none⟩ = some (.int .i64 a0_1) := k_3_0.cell 1
  have c_3_0_2 : w_3.cell? ⟨w.heap.size, 2, none⟩ = some (.int .i64 a0_2) := k_3_0.cell 2
  clear hb_2 i_2 k_2_0 xw_2 c_2_0_0 c_2_0_1 c_2_0_2
  have HB := Lib.hid xw_3
  have ib := i_3
  have KB_0 := Lib.hid k_3_0
  go_wp2_with fail
  refine (HI.out _).mono ?_
  rintro _ w_4 ⟨A_G, c_G, rfl, ho_4, hb_4⟩
  have og_4 : w_4.ownsRow w_3.heap.size 3 1 (.slice A_G zs.length c_G) zs.length (iv zs) := own_base ho_4 (In.size (B := w_3.heap.size) (a := w_3) (by (repeat (first | exact In.refl _ | assumption | apply In.alloc | apply In.drewN | apply In.drew | (refine In.step ?_ (by assumption))))))
  clear ho_4
  have j_4 : In w_3.heap.size w_3 w_4 := In.step (by (repeat (first | exact In.refl _ | assumption | apply In.alloc | apply In.drewN | apply In.drew | (refine In.step ?_ (by assumption))))) hb_4
  have k_4_0 : Blk w_4 w.heap.size 35 #[.int .i64 a0_0, .int .i64 a0_1, .int .i64 a0_2] := KB_0.out.below j_4.below KB_0.out.lt
  have c_4_0_0 : w_4.cell? ⟨w.heap.size, 0, none⟩ = some (.int .i64 a0_0) := k_4_0.cell 0
  have c_4_0_1 : w_4.cell? ⟨w.heap.size, 1, none⟩ = some (.int .i64 a0_1) := k_4_0.cell 1
  have c_4_0_2 : w_4.cell? ⟨w.heap.size, 2, none⟩ = some (.int .i64 a0_2) := k_4_0.cell 2
  clear hb_3 i_3 k_3_0 xw_3 c_3_0_0 c_3_0_1 c_3_0_2
  go_wp2_with fail
  refine (eqI_c A_G A_W zs.length c_G c_W zs _ (by unfold maxLen; omega) (by exact reads_own_i (by (with_reducible (repeat (first | assumption | apply World.ownsRow.drew | apply World.ownsRow.alloc))))) (by exact HB.out.below (In.below (by (repeat (first | exact In.refl _ | assumption | apply In.alloc | apply In.drewN | apply In.drew | (refine In.step ?_ (by assumption)))))) (Nat.le_refl _))).mono ?_
  rintro _ w_5 ⟨rfl, hb_5⟩
  have j_5 : In w_3.heap.size w_3 w_5 := In.step (by (repeat (first | exact In.refl _ | assumption | apply In.alloc | apply In.drewN | apply In.drew | (refine In.step ?_ (by assumption))))) hb_5
  have k_5_0 : Blk w_5 w.heap.size 35 #[.int .i64 a0_0, .int .i64 a0_1, .int .i64 a0_2] := KB_0.out.below j_5.below KB_0.out.lt
  have og_5 : w_5.ownsRow w_3.heap.size 3 1 (.slice A_G zs.length c_G) zs.length (iv zs) := own_step (by (with_reducible (repeat (first | assumption | apply World.ownsRow.drew | apply World.ownsRow.alloc)))) hb_5
  have c_5_0_0 : w_5.cell? ⟨w.heap.size, 0, none⟩ = some (.int .i64 a0_0) := k_5_0.cell 0
  have c_5_0_1 : w_5.cell? ⟨w.heap.size, 1, none⟩ = some (.int .i64 a0_1) := k_5_0.cell 1
  have c_5_0_2 : w_5.cell? ⟨w.heap.size, 2, none⟩ = some (.int .i64 a0_2) := k_5_0.cell 2
  clear hb_4 j_4 k_4_0 og_4 c_4_0_0 c_4_0_1 c_4_0_2
  go_wp2_with fail
  refine (markI_c A_G zs.length c_G 1 w_3.heap.size zs _ (by omega) (by omega) (by exact In.size (B := w_3.heap.size) (a := w_3) (by (repeat (first | exact In.refl _ | assumption | apply In.alloc | apply In.drewN | apply In.drew | (refine In.step ?_ (by assumption)))))) (by (with_reducible (repeat (first | assumption | apply World.ownsRow.drew | apply World.ownsRow.alloc))))).mono ?_
  rintro _ w_6 ⟨rfl, og_6, hb_6⟩
  have j_6 : In w_3.heap.size w_3 w_6 := In.wide (by (repeat (first | exact In.refl _ | assumption | apply In.alloc | apply In.drewN | apply In.drew | (refine In.step ?_ (by assumption))))) hb_6
  have k_6_0 : Blk w_6 w.heap.size 35 #[.int .i64 a0_0, .int .i64 a0_1, .int .i64 a0_2] := KB_0.out.below j_6.below KB_0.out.lt
  have c_6_0_0 : w_6.cell? ⟨w.heap.size, 0, none⟩ = some (.int .i64 a0_0) := k_6_0.cell 0
  have c_6_0_1 : w_6.cell? ⟨w.heap.size, 1, none⟩ = some (.int .i64 a0_1) := k_6_0.cell 1
  have c_6_0_2 : w_6.cell? ⟨w.heap.size, 2, none⟩ = some (.int .i64 a0_2) := k_6_0.cell 2
  clear hb_5 j_5 k_5_0 og_5 c_5_0_0 c_5_0_1 c_5_0_2
  go_wp2_with fail
  refine (heldI_c A_G zs.length c_G 1 _ (by omega) (by omega) (by exact reads_own_i (by (with_reducible (repeat (first | assumption | apply World.ownsRow.drew | apply World.ownsRow.alloc)))))).mono ?_
  rintro _ w_7 ⟨rfl, hb_7⟩
  have j_7 : In w_3.heap.size w_3 w_7 := In.step (by (repeat (first | exact In.refl _ | assumption | apply In.alloc | apply In.drewN | apply In.drew | (refine In.step ?_ (by assumption))))) hb_7
  have k_7_0 : Blk w_7 w.heap.size 35 #[.int .i64 a0_0, .int .i64 a0_1, .int .i64 a0_2] := KB_0.out.below j_7.below KB_0.out.lt
  have og_7 : w_7.ownsRow w_3.heap.size 3 1 (.slice A_G zs.length c_G) zs.length (iv (marksI 1 zs.length)) := own_step (by (with_reducible (repeat (first | assumption | apply World.ownsRow.drew | apply World.ownsRow.alloc)))) hb_7
  have c_7_0_0 : w_7.cell? ⟨w.heap.size, 0, none⟩ = some (.int .i64 a0_0) := k_7_0.cell 0
  have c_7_0_1 : w_7.cell? ⟨w.heap.size, 1, none⟩ = some (.int .i64 a0_1) := k_7_0.cell 1
  have c_7_0_2 : w_7.cell? ⟨w.heap.size, 2, none⟩ = some (.int .i64 a0_2) := k_7_0.cell 2
  clear hb_6 j_6 k_6_0 og_6 c_6_0_0 c_6_0_1 c_6_0_2
  go_wp2_with fail
  refine (toDough_c a0_0 a0_1 a0_2 _).mono ?_
  rintro _ w_8 ⟨rfl, hb_8⟩
  have j_8 : In w_3.heap.size w_3 w_8 := In.step (by (repeat (first | exact In.refl _ | assumption | apply In.alloc | apply In.drewN | apply In.drew | (refine In.step ?_ (by assumption))))) hb_8
  have k_8_0 : Blk w_8 w.heap.size 35 #[.int .i64 a0_0, .int .i64 a0_1, .int .i64 a0_2] := KB_0.out.below j_8.below KB_0.out.lt
  have og_8 : w_8.ownsRow w_3.heap.size 3 1 (.slice A_G zs.length c_G) zs.length (iv (marksI 1 zs.length)) := own_step (by (with_reducible (repeat (first | assumption | apply World.ownsRow.drew | apply World.ownsRow.alloc)))) hb_8
  have c_8_0_0 : w_8.cell? ⟨w.heap.size, 0, none⟩ = some (.int .i64 a0_0) := k_8_0.cell 0
  have c_8_0_1 : w_8.cell? ⟨w.heap.size, 1, none⟩ = some (.int .i64 a0_1) := k_8_0.cell 1
  have c_8_0_2 : w_8.cell? ⟨w.heap.size, 2, none⟩ = some (.int .i64 a0_2) := k_8_0.cell 2
  clear hb_7 j_7 k_7_0 og_7 c_7_0_0 c_7_0_1 c_7_0_2
  go_wp2_with fail
  refine (HI.out _).mono ?_
  rintro _ w_9 ⟨A_H, c_H, rfl, ho_9, hb_9⟩
  have xh : ReadsI w_9 A_H zs.length zs := reads_own_i ho_9
  clear ho_9
  have j_9 : In w_3.heap.size w_3 w_9 := In.step (by (repeat (first | exact In.refl _ | assumption | apply In.alloc | apply In.drewN | apply In.drew | (refine In.step ?_ (by assumption))))) hb_9
  have k_9_0 : Blk w_9 w.heap.size 35 #[.int .i64 a0_0, .int .i64 a0_1, .int .i64 a0_2] := KB_0.out.below j_9.below KB_0.out.lt
  have og_9 : w_9.ownsRow w_3.heap.size 3 1 (.slice A_G zs.length c_G) zs.length (iv (marksI 1 zs.length)) := own_step (by (with_reducible (repeat (first | assumption | apply World.ownsRow.drew | apply World.ownsRow.alloc)))) hb_9
  have c_9_0_0 : w_9.cell? ⟨w.heap.size, 0, none⟩ = some (.int .i64 a0_0) := k_9_0.cell 0
  have c_9_0_1 : w_9.cell? ⟨w.heap.size, 1, none⟩ = some (.int .i64 a0_1) := k_9_0.cell 1
  have c_9_0_2 : w_9.cell? ⟨w.heap.size, 2, none⟩ = some (.int .i64 a0_2) := k_9_0.cell 2
  clear hb_8 j_8 k_8_0 og_8 c_8_0_0 c_8_0_1 c_8_0_2
  go_wp2_with fail
  refine (eqI_c A_H A_W zs.length c_H c_W zs _ (by unfold maxLen; omega) (by exact (by (with_reducible (repeat (first | assumption | apply ReadsI.drewN | apply ReadsI.drew | apply ReadsI.alloc))))) (by exact HB.out.below (In.below (by (repeat (first | exact In.refl _ | assumption | apply In.alloc | apply In.drewN | apply In.drew | (refine In.step ?_ (by assumption)))))) (Nat.le_refl _))).mono ?_
  rintro _ w_10 ⟨rfl, hb_10⟩
  have j_10 : In w_3.heap.size w_3 w_10 := In.step (by (repeat (first | exact In.refl _ | assumption | apply In.alloc | apply In.drewN | apply In.drew | (refine In.step ?_ (by assumption))))) hb_10
  have k_10_0 : Blk w_10 w.heap.size 35 #[.int .i64 a0_0, .int .i64 a0_1, .int .i64 a0_2] := KB_0.out.below j_10.below KB_0.out.lt
  have og_10 : w_10.ownsRow w_3.heap.size 3 1 (.slice A_G zs.length c_G) zs.length (iv (marksI 1 zs.length)) := own_step (by (with_reducible (repeat (first | assumption | apply World.ownsRow.drew | apply World.ownsRow.alloc)))) hb_10
  have c_10_0_0 : w_10.cell? ⟨w.heap.size, 0, none⟩ = some (.int .i64 a0_0) := k_10_0.cell 0
  have c_10_0_1 : w_10.cell? ⟨w.heap.size, 1, none⟩ = some (.int .i64 a0_1) := k_10_0.cell 1
  have c_10_0_2 : w_10.cell? ⟨w.heap.size, 2, none⟩ = some (.int .i64 a0_2) := k_10_0.cell 2
  clear hb_9 j_9 k_9_0 og_9 c_9_0_0 c_9_0_1 c_9_0_2
  clear xh
  go_wp2_with fail
  refine (heldI_c A_G zs.length c_G 1 _ (by omega) (by omega) (by exact reads_own_i (by (with_reducible (repeat (first | assumption | apply World.ownsRow.drew | apply World.ownsRow.alloc)))))).mono ?_
  rintro _ w_11 ⟨rfl, hb_11⟩
  have j_11 : In w_3.heap.size w_3 w_11 := In.step (by (repeat (first | exact In.refl _ | assumption | apply In.alloc | apply In.drewN | apply In.drew | (refine In.step ?_ (by assumption))))) hb_11
  have k_11_0 : Blk w_11 w.heap.size 35 #[.int .i64 a0_0, .int .i64 a0_1, .int .i64 a0_2] := KB_0.out.below j_11.below KB_0.out.lt
  have og_11 : w_11.ownsRow w_3.heap.size 3 1 (.slice A_G zs.length c_G) zs.length (iv (marksI 1 zs.length)) := own_step (by (with_reducible (repeat (first | assumption | apply World.ownsRow.drew | apply World.ownsRow.alloc)))) hb_11
  have c_11_0_0 : w_11.cell? ⟨w.heap.size, 0, none⟩ = some (.int .i64 a0_0) := k_11_0.cell 0
  have c_11_0_1 : w_11.cell? ⟨w.heap.size, 1, none⟩ = some (.int .i64 a0_1) := k_11_0.cell 1
  have c_11_0_2 : w_11.cell? ⟨w.heap.size, 2, none⟩ = some (.int .i64 a0_2) := k_11_0.cell 2
  clear hb_10 j_10 k_10_0 og_10 c_10_0_0 c_10_0_1 c_10_0_2
  go_wp2
  go_ret
  exact (show Val _ _ _ _ from Val.mk' rfl (ib.trans (by (repeat (first | exact In.refl _ | assumption | apply In.alloc | apply In.drewN | apply In.drew | (refine In.step ?_ (by assumption)))))))

end Go.Proofs.Ytoekdckgbcilbaa
