/- Chapter 29: FrozenOk, OutAt, IsGood. -/
import Derived.Test.YtepajjaiakdcfaaAll
import Derived.Test.YtepajjaiakdcfaaQuiet
namespace Go.Proofs.Ytepajjaiakdcfaa
open Go.ChangeShapes Go.WideShapes Go.ChangeAt Go.RowKit
set_option linter.unusedVariables false
set_option linter.unusedSimpArgs false
set_option maxHeartbeats 2000000

def frB (a b : Int) : Bool := inB a 1 48 && inB b 0 48
theorem fr_in {a b : Int} (h : frB a b = true) : 1 ≤ a ∧ a ≤ 48 ∧ 0 ≤ b ∧ b ≤ 48 := by
  simp only [frB, Bool.and_eq_true] at h
  have h1 := inB_tt h.1
  have h2 := inB_tt h.2
  omega
def outB (a b n : Int) : Bool := frB a b && inB n (-48) 1000
def outV (a b n : Int) : Value := if outB a b n then .tuple #[.int .i64 (n - a - b), .int .i64 (n - a), .bool true] else .tuple #[.int .i64 0, .int .i64 0, .bool false]
def goodB (a b x y : Int) : Bool := frB a b && inB x (-1000) 1000 && inB y (-1000) 1000 && inB (y - x) a (a + b)
theorem two_all (x y lo hi : Int) : allIn [x, y] lo hi 2 = (inB x lo hi && inB y lo hi) := by simp [allIn, allOk, inAt]
theorem sFrozenOk (a b : Int) (w : World) : Calls Try.prog 147 #[.agg #[.int .i64 a, .int .i64 b]] w (Val (.bool (frB a b)) w) := by
  cases h1 : inB a 1 48 <;> cases h2 : inB b 0 48
  all_goals
    go_enter Try.func147, Try.ntmps147
    go_wp2_with (first | (go_at_call 79; refine (sIn _ _ _ _).mono ?_; rintro e w' ⟨rfl, rfl⟩) | (go_at_call 84; refine (iIn _ _ _ _).mono ?_; rintro e w' ⟨rfl, rfl⟩))
    go_ret
    exact Val.mk' (v_bool (by simp [frB, h1, h2])) (by (repeat (first | exact In.refl _ | assumption | apply In.alloc | apply In.drewN | apply In.drew | (refine In.step ?_ (by assumption)))))
theorem iFrozenOk (a b : Int) (w : World) : Calls Try.prog 174 #[.agg #[.int .i64 a, .int .i64 b]] w (Val (.bool (frB a b)) w) := by
  cases h1 : inB a 1 48 <;> cases h2 : inB b 0 48
  all_goals
    go_enter Try.func174, Try.ntmps174
    go_wp2_with (first | (go_at_call 79; refine (sIn _ _ _ _).mono ?_; rintro e w' ⟨rfl, rfl⟩) | (go_at_call 84; refine (iIn _ _ _ _).mono ?_; rintro e w' ⟨rfl, rfl⟩))
    go_ret
    exact Val.mk' (v_bool (by simp [frB, h1, h2])) (by (repeat (first | exact In.refl _ | assumption | apply In.alloc | apply In.drewN | apply In.drew | (refine In.step ?_ (by assumption)))))
theorem sOutAt (a b n : Int) (w : World) : Calls Try.prog 89 #[.agg #[.int .i64 a, .int .i64 b], .int .i64 n] w (Val (outV a b n) w) := by
  go_enter Try.func89, Try.ntmps89
  go_wp2_with (first | (go_at_call 79; refine (sIn _ _ _ _).mono ?_; rintro e w' ⟨rfl, rfl⟩) | (go_at_call 84; refine (iIn _ _ _ _).mono ?_; rintro e w' ⟨rfl, rfl⟩))
  refine (sFrozenOk a b _).mono ?_
  rintro _ w_1 ⟨rfl, hb_1⟩
  have i_1 : In w.heap.size w w_1 := In.step (by (repeat (first | exact In.refl _ | assumption | apply In.alloc | apply In.drewN | apply In.drew | (refine In.step ?_ (by assumption))))) hb_1
  have k_1_A : Blk w_1 (w.heap.size) 113 #[.int .i64 a, .int .i64 b] := Blk.step (by (with_reducible (repeat (first | assumption | exact Blk.new' (by simp) | apply Blk.drewN | apply Blk.drew | apply Blk.alloc | (refine Blk.far ?_ (by (try simp) <;> omega) _))))) hb_1
  have c_1_A_0 : w_1.cell? ⟨w.heap.size, 0, none⟩ = some (.int .i64 a) := k_1_A.cell 0
  have c_1_A_1 : w_1.cell? ⟨w.heap.size, 1, none⟩ = some (.int .i64 b) := k_1_A.cell 1
  have l_1_A := k_1_A.lt
  cases h1 : frB a b
  · have HV : Hid (outV a b n = .tuple #[.int .i64 0, .int .i64 0, .bool false]) := Lib.hid (by simp [outV, outB, h1])
    go_wp2_with (first | (go_at_call 79; refine (sIn _ _ _ _).mono ?_; rintro e w' ⟨rfl, rfl⟩) | (go_at_call 84; refine (iIn _ _ _ _).mono ?_; rintro e w' ⟨rfl, rfl⟩))
    exact bodyPost_ret (v := .tuple #[.int .i64 0, .int .i64 0, .bool false]) (by simp [results, Try.results89, go_sem]) rfl (Val.mk' (by rw [HV.out]) (by (repeat (first | exact In.refl _ | assumption | apply In.alloc | apply In.drewN | apply In.drew | (refine In.step ?_ (by assumption)) | (refine In.set_ ?_ (by (try simp) <;> omega) _)))))
  cases h2 : inB n (-48) 1000
  · have HV : Hid (outV a b n = .tuple #[.int .i64 0, .int .i64 0, .bool false]) := Lib.hid (by simp [outV, outB, h2])
    go_wp2_with (first | (go_at_call 79; refine (sIn _ _ _ _).mono ?_; rintro e w' ⟨rfl, rfl⟩) | (go_at_call 84; refine (iIn _ _ _ _).mono ?_; rintro e w' ⟨rfl, rfl⟩))
    exact bodyPost_ret (v := .tuple #[.int .i64 0, .int .i64 0, .bool false]) (by simp [results, Try.results89, go_sem]) rfl (Val.mk' (by rw [HV.out]) (by (repeat (first | exact In.refl _ | assumption | apply In.alloc | apply In.drewN | apply In.drew | (refine In.step ?_ (by assumption)) | (refine In.set_ ?_ (by (try simp) <;> omega) _)))))
  have HV : Hid (outV a b n = .tuple #[.int .i64 (n - a - b), .int .i64 (n - a), .bool true]) := Lib.hid (by simp [outV, outB, h1, h2])
  obtain ⟨a1, a2, b1, b2⟩ := fr_in h1
  obtain ⟨n1, n2⟩ := inB_tt h2
  go_wp2_with (first | (go_at_call 79; refine (sIn _ _ _ _).mono ?_; rintro e w' ⟨rfl, rfl⟩) | (go_at_call 84; refine (iIn _ _ _ _).mono ?_; rintro e w' ⟨rfl, rfl⟩))
  go_region
  go_wp2
  exact bodyPost_ret (v := .tuple #[.int .i64 (n - a - b), .int .i64 (n - a), .bool true]) (by simp [results, Try.results89, go_sem]) rfl (Val.mk' (by rw [HV.out]) (by (repeat (first | exact In.refl _ | assumption | apply In.alloc | apply In.drewN | apply In.drew | (refine In.step ?_ (by assumption)) | (refine In.set_ ?_ (by (try simp) <;> omega) _)))))
def winV (a b n : Int) : Value := if outB a b n then .tuple #[.agg #[.int .i64 (n - a - b), .int .i64 (n - a)], .bool true] else .tuple #[.agg #[.int .i64 0, .int .i64 0], .bool false]
theorem ioutAt (a b n : Int) (w : World) : Calls Try.prog 148 #[.agg #[.int .i64 a, .int .i64 b], .int .i64 n] w (Val (winV a b n) w) := by
  go_enter Try.func148, Try.ntmps148
  go_wp2_with (first | (go_at_call 79; refine (sIn _ _ _ _).mono ?_; rintro e w' ⟨rfl, rfl⟩) | (go_at_call 84; refine (iIn _ _ _ _).mono ?_; rintro e w' ⟨rfl, rfl⟩))
  refine (iFrozenOk a b _).mono ?_
  rintro _ w_1 ⟨rfl, hb_1⟩
  have i_1 : In w.heap.size w w_1 := In.step (by (repeat (first | exact In.refl _ | assumption | apply In.alloc | apply In.drewN | apply In.drew | (refine In.step ?_ (by assumption))))) hb_1
  have k_1_A : Blk w_1 (w.heap.size) 113 #[.int .i64 a, .int .i64 b] := Blk.step (by (with_reducible (repeat (first | assumption | exact Blk.new' (by simp) | apply Blk.drewN | apply Blk.drew | apply Blk.alloc | (refine Blk.far ?_ (by (try simp) <;> omega) _))))) hb_1
  have c_1_A_0 : w_1.cell? ⟨w.heap.size, 0, none⟩ = some (.int .i64 a) := k_1_A.cell 0
  have c_1_A_1 : w_1.cell? ⟨w.heap.size, 1, none⟩ = some (.int .i64 b) := k_1_A.cell 1
  have l_1_A := k_1_A.lt
  have k_1_R : Blk w_1 (w.heap.size + 1) 124 #[.int .i64 0, .int .i64 0] := Blk.step (by (with_reducible (repeat (first | assumption | exact Blk.new' (by simp) | apply Blk.drewN | apply Blk.drew | apply Blk.alloc | (refine Blk.far ?_ (by (try simp) <;> omega) _))))) hb_1
  have c_1_R_0 : w_1.cell? ⟨w.heap.size + 1, 0, none⟩ = some (.int .i64 0) := k_1_R.cell 0
  have c_1_R_1 : w_1.cell? ⟨w.heap.size + 1, 1, none⟩ = some (.int .i64 0) := k_1_R.cell 1
  have z_1_R_0 := k_1_R.frozen 0
  have z_1_R_1 := k_1_R.frozen 1
  have l_1_R := k_1_R.lt
  cases h1 : frB a b
  · have HV : Hid (winV a b n = .tuple #[.agg #[.int .i64 0, .int .i64 0], .bool false]) := Lib.hid (by simp [winV, outB, h1])
    go_wp2_with (first | (go_at_call 79; refine (sIn _ _ _ _).mono ?_; rintro e w' ⟨rfl, rfl⟩) | (go_at_call 84; refine (iIn _ _ _ _).mono ?_; rintro e w' ⟨rfl, rfl⟩))
    exact bodyPost_ret (v := .tuple #[.agg #[.int .i64 0, .int .i64 0], .bool false]) (by simp [results, Try.results148, go_sem, c_1_A_0, c_1_A_1, c_1_R_0, c_1_R_1]) rfl (Val.mk' (by rw [HV.out]) (by (repeat (first | exact In.refl _ | assumption | apply In.alloc | apply In.drewN | apply In.drew | (refine In.step ?_ (by assumption)) | (refine In.set_ ?_ (by (try simp) <;> omega) _)))))
  cases h2 : inB n (-48) 1000
  · have HV : Hid (winV a b n = .tuple #[.agg #[.int .i64 0, .int .i64 0], .bool false]) := Lib.hid (by simp [winV, outB, h2])
    go_wp2_with (first | (go_at_call 79; refine (sIn _ _ _ _).mono ?_; rintro e w' ⟨rfl, rfl⟩) | (go_at_call 84; refine (iIn _ _ _ _).mono ?_; rintro e w' ⟨rfl, rfl⟩))
    exact bodyPost_ret (v := .tuple #[.agg #[.int .i64 0, .int .i64 0], .bool false]) (by simp [results, Try.results148, go_sem, c_1_A_0, c_1_A_1, c_1_R_0, c_1_R_1]) rfl (Val.mk' (by rw [HV.out]) (by (repeat (first | exact In.refl _ | assumption | apply In.alloc | apply In.drewN | apply In.drew | (refine In.step ?_ (by assumption)) | (refine In.set_ ?_ (by (try simp) <;> omega) _)))))
  have HV : Hid (winV a b n = .tuple #[.agg #[.int .i64 (n - a - b), .int .i64 (n - a)], .bool true]) := Lib.hid (by simp [winV, outB, h1, h2])
  obtain ⟨a1, a2, b1, b2⟩ := fr_in h1
  obtain ⟨n1, n2⟩ := inB_tt h2
  go_wp2_with (first | (go_at_call 79; refine (sIn _ _ _ _).mono ?_; rintro e w' ⟨rfl, rfl⟩) | (go_at_call 84; refine (iIn _ _ _ _).mono ?_; rintro e w' ⟨rfl, rfl⟩))
  exact bodyPost_ret (v := .tuple #[.agg #[.int .i64 (n - a - b), .int .i64 (n - a)], .bool true]) (by simp [results, Try.results148, go_sem, c_1_A_0, c_1_A_1, c_1_R_0, c_1_R_1]) rfl (Val.mk' (by rw [HV.out]) (by (repeat (first | exact In.refl _ | assumption | apply In.alloc | apply In.drewN | apply In.drew | (refine In.step ?_ (by assumption)) | (refine In.set_ ?_ (by (try simp) <;> omega) _)))))
end Go.Proofs.Ytepajjaiakdcfaa
