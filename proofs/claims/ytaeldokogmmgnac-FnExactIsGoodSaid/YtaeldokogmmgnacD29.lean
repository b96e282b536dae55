/- Chapter 29: IsGood. -/
import Derived.Test.YtaeldokogmmgnacC29
namespace Go.Proofs.Ytaeldokogmmgnac
open Go.ChangeShapes Go.WideShapes Go.ChangeAt Go.RowKit
set_option linter.unusedVariables false
set_option linter.unusedSimpArgs false
set_option maxHeartbeats 2000000

theorem sIsGood (a b x y : Int) (w : World) : Calls Try.prog 11 #[.agg #[.int .i64 a, .int .i64 b], .int .i64 x, .int .i64 y] w (Val (.bool (goodB a b x y)) w) := by
  go_enter Try.func11, Try.ntmps11
  go_wp2_with (first | (go_at_call 39; refine (sIn _ _ _ _).mono ?_; rintro e w' ⟨rfl, rfl⟩) | (go_at_call 42; refine (iIn _ _ _ _).mono ?_; rintro e w' ⟨rfl, rfl⟩))
  refine (sFrozenOk a b _).mono ?_
  rintro _ w_1 ⟨rfl, hb_1⟩
  have i_1 : In w.heap.size w w_1 := In.step (by (repeat (first | exact In.refl _ | assumption | apply In.alloc | apply In.drewN | apply In.drew | (refine In.step ?_ (by assumption))))) hb_1
  have k_1_A : Blk w_1 (w.heap.size) 25 #[.int .i64 a, .int .i64 b] := Blk.step (by (with_reducible (repeat (first | assumption | exact Blk.new' (by simp) | apply Blk.drewN | apply Blk.drew | apply Blk.alloc | (refine Blk.far ?_ (by (try simp) <;> omega) _))))) hb_1
  have c_1_A_0 : w_1.cell? ⟨w.heap.size, 0, none⟩ = some (.int .i64 a) := k_1_A.cell 0
  have c_1_A_1 : w_1.cell? ⟨w.heap.size, 1, none⟩ = some (.int .i64 b) := k_1_A.cell 1
  have l_1_A := k_1_A.lt
  cases h1 : frB a b
  · have HV : Hid (goodB a b x y = false) := Lib.hid (by simp [goodB, h1])
    go_wp2_with (first | (go_at_call 39; refine (sIn _ _ _ _).mono ?_; rintro e w' ⟨rfl, rfl⟩) | (go_at_call 42; refine (iIn _ _ _ _).mono ?_; rintro e w' ⟨rfl, rfl⟩))
    go_ret
    exact Val.mk' (v_bool HV.out.symm) (by (repeat (first | exact In.refl _ | assumption | apply In.alloc | apply In.drewN | apply In.drew | (refine In.step ?_ (by assumption)) | (refine In.set_ ?_ (by (try simp) <;> omega) _))))
  cases h2 : inB x (-1000) 1000
  · have HV : Hid (goodB a b x y = false) := Lib.hid (by simp [goodB, h2])
    go_wp2_with (first | (go_at_call 39; refine (sIn _ _ _ _).mono ?_; rintro e w' ⟨rfl, rfl⟩) | (go_at_call 42; refine (iIn _ _ _ _).mono ?_; rintro e w' ⟨rfl, rfl⟩))
    go_ret
    exact Val.mk' (v_bool HV.out.symm) (by (repeat (first | exact In.refl _ | assumption | apply In.alloc | apply In.drewN | apply In.drew | (refine In.step ?_ (by assumption)) | (refine In.set_ ?_ (by (try simp) <;> omega) _))))
  cases h3 : inB y (-1000) 1000
  · have HV : Hid (goodB a b x y = false) := Lib.hid (by simp [goodB, h3])
    go_wp2_with (first | (go_at_call 39; refine (sIn _ _ _ _).mono ?_; rintro e w' ⟨rfl, rfl⟩) | (go_at_call 42; refine (iIn _ _ _ _).mono ?_; rintro e w' ⟨rfl, rfl⟩))
    go_ret
    exact Val.mk' (v_bool HV.out.symm) (by (repeat (first | exact In.refl _ | assumption | apply In.alloc | apply In.drewN | apply In.drew | (refine In.step ?_ (by assumption)) | (refine In.set_ ?_ (by (try simp) <;> omega) _))))
  obtain ⟨a1, a2, b1, b2⟩ := fr_in h1
  obtain ⟨x1, x2⟩ := inB_tt h2
  obtain ⟨y1, y2⟩ := inB_tt h3
  have HV : Hid (goodB a b x y = inB (y - x) a (a + b)) := Lib.hid (by simp [goodB, h1, h2, h3])
  go_wp2_with (first | (go_at_call 39; refine (sIn _ _ _ _).mono ?_; rintro e w' ⟨rfl, rfl⟩) | (go_at_call 42; refine (iIn _ _ _ _).mono ?_; rintro e w' ⟨rfl, rfl⟩))
  go_ret
  exact Val.mk' (v_bool HV.out.symm) (by (repeat (first | exact In.refl _ | assumption | apply In.alloc | apply In.drewN | apply In.drew | (refine In.step ?_ (by assumption)) | (refine In.set_ ?_ (by (try simp) <;> omega) _))))
theorem iIsGood (a b x y : Int) (w : World) : Calls Try.prog 13 #[.agg #[.int .i64 a, .int .i64 b], .int .i64 x, .int .i64 y] w (Val (.bool (goodB a b x y)) w) := by
  go_enter Try.func13, Try.ntmps13
  go_wp2_with (first | (go_at_call 39; refine (sIn _ _ _ _).mono ?_; rintro e w' ⟨rfl, rfl⟩) | (go_at_call 42; refine (iIn _ _ _ _).mono ?_; rintro e w' ⟨rfl, rfl⟩))
  refine (iFrozenOk a b _).mono ?_
  rintro _ w_1 ⟨rfl, hb_1⟩
  have i_1 : In w.heap.size w w_1 := In.step (by (repeat (first | exact In.refl _ | assumption | apply In.alloc | apply In.drewN | apply In.drew | (refine In.step ?_ (by assumption))))) hb_1
  have k_1_A : Blk w_1 (w.heap.size) 25 #[.int .i64 a, .int .i64 b] := Blk.step (by (with_reducible (repeat (first | assumption | exact Blk.new' (by simp) | apply Blk.drewN | apply Blk.drew | apply Blk.alloc | (refine Blk.far ?_ (by (try simp) <;> omega) _))))) hb_1
  have c_1_A_0 : w_1.cell? ⟨w.heap.size, 0, none⟩ = some (.int .i64 a) := k_1_A.cell 0
  have c_1_A_1 : w_1.cell? ⟨w.heap.size, 1, none⟩ = some (.int .i64 b) := k_1_A.cell 1
  have l_1_A := k_1_A.lt
  cases h1 : frB a b
  · have HV : Hid (goodB a b x y = false) := Lib.hid (by simp [goodB, h1])
    go_wp2_with (first | (go_at_call 39; refine (sIn _ _ _ _).mono ?_; rintro e w' ⟨rfl, rfl⟩) | (go_at_call 42; refine (iIn _ _ _ _).mono ?_; rintro e w' ⟨rfl, rfl⟩))
    go_ret
    exact Val.mk' (v_bool HV.out.symm) (by (repeat (first | exact In.refl _ | assumption | apply In.alloc | apply In.drewN | apply In.drew | (refine In.step ?_ (by assumption)) | (refine In.set_ ?_ (by (try simp) <;> omega) _))))
  go_wp2_with fail
  refine (iAll _ 2 2 [x, y] (-1000) 1000 _ (by unfold maxLen; omega) (reads_at _ _ #[.int .i64 x, .int .i64 y] [x, y] _ (by simp) rfl)).mono ?_
  rintro _ _ ⟨rfl, rfl⟩
  rw [two_all]
  cases h2 : inB x (-1000) 1000
  · have HV : Hid (goodB a b x y = false) := Lib.hid (by simp [goodB, h2])
    simp only [Bool.false_and]
    go_wp2_with (first | (go_at_call 39; refine (sIn _ _ _ _).mono ?_; rintro e w' ⟨rfl, rfl⟩) | (go_at_call 42; refine (iIn _ _ _ _).mono ?_; rintro e w' ⟨rfl, rfl⟩))
    go_ret
    exact Val.mk' (v_bool HV.out.symm) (by (repeat (first | exact In.refl _ | assumption | apply In.alloc | apply In.drewN | apply In.drew | (refine In.step ?_ (by assumption)) | (refine In.set_ ?_ (by (try simp) <;> omega) _))))
  cases h3 : inB y (-1000) 1000
  · have HV : Hid (goodB a b x y = false) := Lib.hid (by simp [goodB, h3])
    simp only [Bool.and_false]
    go_wp2_with (first | (go_at_call 39; refine (sIn _ _ _ _).mono ?_; rintro e w' ⟨rfl, rfl⟩) | (go_at_call 42; refine (iIn _ _ _ _).mono ?_; rintro e w' ⟨rfl, rfl⟩))
    go_ret
    exact Val.mk' (v_bool HV.out.symm) (by (repeat (first | exact In.refl _ | assumption | apply In.alloc | apply In.drewN | apply In.drew | (refine In.step ?_ (by assumption)) | (refine In.set_ ?_ (by (try simp) <;> omega) _))))
  obtain ⟨a1, a2, b1, b2⟩ := fr_in h1
  obtain ⟨x1, x2⟩ := inB_tt h2
  obtain ⟨y1, y2⟩ := inB_tt h3
  simp only [Bool.true_and]
  have HV : Hid (goodB a b x y = inB (y - x) a (a + b)) := Lib.hid (by simp [goodB, h1, h2, h3])
  go_wp2_with (first | (go_at_call 39; refine (sIn _ _ _ _).mono ?_; rintro e w' ⟨rfl, rfl⟩) | (go_at_call 42; refine (iIn _ _ _ _).mono ?_; rintro e w' ⟨rfl, rfl⟩))
  go_ret
  exact Val.mk' (v_bool HV.out.symm) (by (repeat (first | exact In.refl _ | assumption | apply In.alloc | apply In.drewN | apply In.drew | (refine In.step ?_ (by assumption)) | (refine In.set_ ?_ (by (try simp) <;> omega) _))))
end Go.Proofs.Ytaeldokogmmgnac
